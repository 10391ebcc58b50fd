/-
  The document's session: Record: what the call does.
-/
import Derived.Test.YtcicekggeampcaaGreatYrE
import Derived.Test.YtcicekggeampcaaGreatGE3
namespace Go.Proofs.YtcicekggeampcaaGreat
open Go.RowKit
/-- A record's block is no row of strings. -/
theorem rd_norec {α : Type} {E : Enc α} {w : World} {v : Value} {L : List α} (h : RdG E w v L) {g : Nat} {T : TypeId} {r : Rc} (hB : Blk w g T (RC r)) (hE : ∀ x : α, (E.c x)[1]?.any (fun u => match u with | .string _ => true | _ => false) = true) (hb : InB v g) : False := by
  obtain ⟨off, n, cap, e, hn⟩ := hb
  subst e
  obtain ⟨b', off', e2, h2, h3⟩ := h.nth hn
  cases e2
  have hl := h.len
  have h0 : 0 < L.length := by omega
  have he := hE L[0]
  cases hq : (E.c L[0])[1]? with
  | none => rw [hq] at he; simp at he
  | some u =>
    rw [hq] at he
    have h4 := h3 0 h0 1 u hq
    unfold Blk at hB
    simp only [World.cell?, hB] at h4
    have hm : u ∈ RC r := by
      have : (RC r)[off + 0 * E.n + 1]? = some u := by simpa using h4
      exact List.mem_of_getElem? this
    simp only [RC, List.mem_cons, List.not_mem_nil, or_false] at hm
    rcases hm with rfl | rfl | rfl | rfl | rfl <;> simp at he
theorem XE_str (x : Rz) : (XE.c x)[1]?.any (fun u => match u with | .string _ => true | _ => false) = true := rfl
theorem PE_str (x : Pr) : (PE.c x)[1]?.any (fun u => match u with | .string _ => true | _ => false) = true := rfl
theorem RdX.inRec {w w' : World} {v : Value} {L : List Rz} (h : RdX w v L) {g : Nat} {T : TypeId} {r : Rc} (hB : Blk w g T (RC r)) (hc : Chg (fun k => k = g) w w') : RdX w' v L :=
  ⟨h.rd.chg hc (fun k hk e => by subst e; exact rd_norec h.rd hB XE_str hk), fun x hx => RdG.chg (h.ps x hx) hc (fun k hk e => by subst e; exact rd_norec (h.ps x hx) hB PE_str hk)⟩
theorem rd_rec {w w' : World} {v : Value} {L : List Pr} (h : RdG PE w v L) {g : Nat} {T : TypeId} {r : Rc} (hB : Blk w g T (RC r)) (hc : Chg (fun k => k = g) w w') : RdG PE w' v L :=
  h.chg hc (fun k hk e => by subst e; exact rd_norec h hB PE_str hk)
/-- What the document's Record tells of a transaction. -/
def RecR (id : Int) (t : Tx) (e : Ending) (w' : World) : Prop :=
  ∃ r : Rc, e = .returned (.tuple #[.agg (RC r).toArray, .bool true]) ∧ r.ses = id ∧ r.snap = t.snap ∧ r.st = t.st ∧ RdX w' (rv r) r.rs ∧ r.rs.map plR = t.R ∧ RdG PE w' (wv r) r.ws ∧ r.ws = t.W
set_option maxHeartbeats 1000000 in
set_option maxRecDepth 100000 in
theorem yRec_none {w : World} {B Y : Nat} {id : Int} (h : YAt w B Y id none) : Calls Tryz.prog 11 #[PT Y] w fun e w' => e = .returned (.tuple #[.agg (RC zr).toArray, .bool false]) ∧ Below w.heap.size w w' := by
  have hz := zeroR
  have hb0 := build_rec0
  obtain ⟨N, HN⟩ : ∃ N, Hid (w.heap.size = N) := ⟨_, rfl⟩
  obtain ⟨w1, hw1⟩ : ∃ y, y = w.alloc (.cells (RC zr).toArray 41 (0, 0)) := ⟨_, rfl⟩
  obtain ⟨b1, l1⟩ := newB HN hw1
  have HW := hide hw1
  have c1 := (h.kept l1.out).x.cell (j := 1) rfl
  clear h hw1
  go_enter Tryz.func11, Tryz.ntmps11
  go_upto_region 1 with fail
  change Code.wp _ _ _ _ (w.alloc (.cells (RC zr).toArray 41 (0, 0)))
  rw [← HW.out, HN.out]
  go_wp2_with (first
    | (refine wpList_store_blk rfl 41 _ _ rfl N (RC zr) (RC zr) 41 rfl rfl b1.out rfl Tryz.size41 (RC_one zr) ?_; intro w5 hb5 hu5)
    | fail)
  refine bodyPost_ret (results_rec rfl _ _ N zr false rfl rfl hb5) rfl ⟨rfl, ?_⟩
  exact l1.out.trans (hu5.below (Nat.le_of_eq HN.out) l1.out.size)
set_option maxHeartbeats 4000000 in
set_option maxRecDepth 100000 in
theorem yRec_any {w : World} {B Y : Nat} {id : Int} {b : Yb} {t : Tx} (h : YAt w B Y id (some (b, t))) :
    Calls Tryz.prog 11 #[PT Y] w fun e w' => RecR id t e w' ∧ Below w.heap.size w w' := by
  have H := hide h
  have hz := zeroR
  obtain ⟨N, HN⟩ : ∃ N, Hid (w.heap.size = N) := ⟨_, rfl⟩
  obtain ⟨w1, hw1⟩ : ∃ y, y = w.alloc (.cells (RC zr).toArray 41 (0, 0)) := ⟨_, rfl⟩
  obtain ⟨b1, l1⟩ := newB HN hw1
  have HW := hide hw1
  have H1 := hide (h.kept l1.out)
  obtain ⟨wa, wc, hvb⟩ := (h.tx b t rfl).buf.own.form
  obtain ⟨bB, HbB⟩ : ∃ z, Hid (b.B = z) := ⟨_, rfl⟩
  obtain ⟨r0, hr0⟩ : ∃ r : Rc, r = ⟨id, t.snap, t.st, b.Q, t.W, b.a, b.c, wa, wc⟩ := ⟨_, rfl⟩
  have HR0 := hide hr0
  have HRK : Hid (∀ W : World, Below w1.heap.size w1 W → ROk W r0) := (show _ from fun W hW => by
    have ht := (H1.out.kept hW).tx b t rfl
    have ho := ht.buf.own.rd
    rw [hvb] at ho
    rw [hr0]
    exact ⟨⟨ht.row.rd, fun y hy => (ht.ps y hy).rd⟩, ho⟩)
  obtain ⟨bv, HBV⟩ : ∃ z, Hid (b.v = z) := ⟨_, rfl⟩
  obtain ⟨vb, HVB⟩ : ∃ z, Hid (b.vb = z) := ⟨_, rfl⟩
  obtain ⟨sn, HSN⟩ : ∃ z, Hid (t.snap = z) := ⟨_, rfl⟩
  obtain ⟨st, HST⟩ : ∃ z, Hid (t.st = z) := ⟨_, rfl⟩
  have HRC : Hid (RC r0 = [.int .i64 id, .int .i64 sn, .bool st, bv, vb]) := (show _ = _ by rw [hr0, ← HSN.out, ← HST.out, ← HBV.out, ← HVB.out, hvb]; rfl)
  have C0 : Hid (∀ W : World, Below w1.heap.size w1 W → W.cell? ⟨Y, 0, none⟩ = some (.int .i64 id)) := (show _ from fun W hW => (H1.out.kept hW).x.cell (j := 0) rfl)
  have C2 : Hid (∀ W : World, Below w1.heap.size w1 W → W.cell? ⟨Y, 2, none⟩ = some (.int .i64 sn)) := (show _ from fun W hW => by rw [← HSN.out]; exact (H1.out.kept hW).x.cell (j := 2) rfl)
  have C3 : Hid (∀ W : World, Below w1.heap.size w1 W → W.cell? ⟨Y, 3, none⟩ = some (.bool st)) := (show _ from fun W hW => by rw [← HST.out]; exact (H1.out.kept hW).x.cell (j := 3) rfl)
  have C5 : Hid (∀ W : World, Below w1.heap.size w1 W → W.cell? ⟨Y, 5, none⟩ = some bv) := (show _ from fun W hW => by rw [← HBV.out]; exact (H1.out.kept hW).x.cell (j := 5) rfl)
  have C6 : Hid (∀ W : World, Below w1.heap.size w1 W → W.cell? ⟨Y, 6, none⟩ = some (PT bB)) := (show _ from fun W hW => by rw [← HbB.out]; exact (H1.out.kept hW).x.cell (j := 6) rfl)
  have C7 : Hid (∀ W : World, Below w1.heap.size w1 W → W.cell? ⟨bB, 0, none⟩ = some vb) := (show _ from fun W hW => by rw [← HbB.out, ← HVB.out]; exact ((H1.out.kept hW).tx b t rfl).buf.d.cell (j := 0) rfl)
  have c1 := H1.out.x.cell (j := 1) rfl
  obtain ⟨pa_, na_, ca_, ea_⟩ : ∃ p n c, bv = .slice p n c := ⟨_, _, _, HBV.out.symm⟩
  obtain ⟨pw_, nw_, cw_, ew_⟩ : ∃ p n c, vb = .slice p n c := ⟨_, _, _, HVB.out.symm.trans hvb⟩
  have HBR : Hid (∀ W : World, (Instr.build 41 #[(0, .int .i64 id), (1, .int .i64 sn), (2, .bool st), (3, bv), (4, vb)]).run Tryz.prog W = .ok (.agg #[.int .i64 id, .int .i64 sn, .bool st, bv, vb]) W) := (show _ from fun W => by rw [ea_, ew_]; exact build_rec id sn st pa_ pw_ na_ ca_ nw_ cw_ W)
  clear h hw1 hr0 hvb ea_ ew_
  go_enter Tryz.func11, Tryz.ntmps11
  go_upto_region 1 with fail
  change Code.wp _ _ _ _ (w.alloc (.cells (RC zr).toArray 41 (0, 0)))
  rw [← HW.out, HN.out]
  go_upto_region 3 with fail
  refine wp_region_cells Tryz.mixed (KS (fun i_ => match i_ with | 0 | 4 | 8 | 12 | 16 => .val (PT Y) | 1 | 2 | 5 | 9 | 13 | 17 => .val (.pointer (some ⟨Y, 0, none⟩)) | 3 => .val (.int .i64 id) | 6 => .val (.pointer (some ⟨Y, 2, none⟩)) | 7 => .val (.int .i64 sn) | 10 => .val (.pointer (some ⟨Y, 3, none⟩)) | 11 => .val (.bool st) | 14 => .val (.pointer (some ⟨Y, 5, none⟩)) | 15 => .val (bv) | 18 => .val (.pointer (some ⟨Y, 6, none⟩)) | 19 => .val (PT bB) | 20 | 21 => .val (.pointer (some ⟨bB, 0, none⟩)) | 22 => .val (vb) | 23 => .val (.agg (RC r0).toArray) | _ => .free)) [⟨24, 4, 25, 41, RC zr, RC r0⟩] 39 rfl (by decide +kernel) (KS_mono_val _ (fun i => by split <;> exact fun _ _ _ h => h)) (by intro c hc c' hc' e; simp only [List.mem_cons, List.not_mem_nil, or_false] at hc hc'; rcases hc with rfl <;> rcases hc' with rfl <;> first | rfl | (simp at e)) (by intro c hc c' hc' e; simp only [List.mem_cons, List.not_mem_nil, or_false] at hc hc'; rcases hc with rfl <;> rcases hc' with rfl <;> first | rfl | (simp at e)) (by intro c hc; simp only [List.mem_cons, List.not_mem_nil, or_false] at hc; rcases hc with rfl <;> rfl) ?_ ?_
  · refine AllFrom.cons ?_ (AllFrom.cons ?_ (AllFrom.cons ?_ (AllFrom.cons ?_ (AllFrom.cons ?_ (AllFrom.cons ?_ (AllFrom.cons ?_ (AllFrom.cons ?_ (AllFrom.cons ?_ (AllFrom.cons ?_ (AllFrom.cons ?_ (AllFrom.cons ?_ (AllFrom.cons ?_ (AllFrom.cons ?_ (AllFrom.cons ?_ (AllFrom.cons ?_ (AllFrom.cons ?_ (AllFrom.cons ?_ (AllFrom.cons ?_ (AllFrom.cons ?_ (AllFrom.cons ?_ (AllFrom.cons ?_ (AllFrom.cons ?_ (AllFrom.cons ?_ (AllFrom.cons ?_ (AllFrom.cons ?_ AllFrom.nil)))))))))))))))))))))))))
    · skip
      refine .val rfl (notI rfl) (notS rfl) (fun a' w' hb hk hd Q => ?_)
      have e0 : a'.eval (.tmp 0) = PT Y := hk.at 0 (by decide +kernel)
      exact wp_value _ (by simp only [execOp, e0]; rfl) (KS_mkv rfl rfl)
    · skip
      refine .val rfl (notI rfl) (notS rfl) (fun a' w' hb hk hd Q => ?_)
      have e11 : a'.eval (.tmp 11) = PT Y := KS_val (hd 0 11 (by decide +kernel) (notI rfl)) rfl
      clear hd hk
      exact wp_value (.pointer (some ⟨Y, 0, none⟩)) (by simp only [execOp, e11]; go_simp) (KS_mkv rfl rfl)
    · skip
      refine .val rfl (notI rfl) (notS rfl) (fun a' w' hb hk hd Q => ?_)
      have e12 : a'.eval (.tmp 12) = .pointer (some ⟨Y, 0, none⟩) := KS_val (hd 1 12 (by decide +kernel) (notI rfl)) rfl
      clear hd hk
      exact wp_value (.pointer (some ⟨Y, 0, none⟩)) (by simp only [execOp, e12]; go_simp) (KS_mkv rfl rfl)
    · skip
      refine .val rfl (notI rfl) (notS rfl) (fun a' w' hb hk hd Q => ?_)
      have e13 : a'.eval (.tmp 13) = .pointer (some ⟨Y, 0, none⟩) := KS_val (hd 2 13 (by decide +kernel) (notI rfl)) rfl
      have hc := C0.out _ hb
      clear hd hk
      exact wp_value (.int .i64 id) (by simp only [execOp, e13]; go_simp) (KS_mkv rfl rfl)
    · skip
      refine .val rfl (notI rfl) (notS rfl) (fun a' w' hb hk hd Q => ?_)
      have e0 : a'.eval (.tmp 0) = PT Y := hk.at 0 (by decide +kernel)
      exact wp_value _ (by simp only [execOp, e0]; rfl) (KS_mkv rfl rfl)
    · skip
      refine .val rfl (notI rfl) (notS rfl) (fun a' w' hb hk hd Q => ?_)
      have e15 : a'.eval (.tmp 15) = PT Y := KS_val (hd 4 15 (by decide +kernel) (notI rfl)) rfl
      clear hd hk
      exact wp_value (.pointer (some ⟨Y, 0, none⟩)) (by simp only [execOp, e15]; go_simp) (KS_mkv rfl rfl)
    · skip
      refine .val rfl (notI rfl) (notS rfl) (fun a' w' hb hk hd Q => ?_)
      have e16 : a'.eval (.tmp 16) = .pointer (some ⟨Y, 0, none⟩) := KS_val (hd 5 16 (by decide +kernel) (notI rfl)) rfl
      clear hd hk
      exact wp_value (.pointer (some ⟨Y, 2, none⟩)) (by simp only [execOp, e16]; go_simp) (KS_mkv rfl rfl)
    · skip
      refine .val rfl (notI rfl) (notS rfl) (fun a' w' hb hk hd Q => ?_)
      have e17 : a'.eval (.tmp 17) = .pointer (some ⟨Y, 2, none⟩) := KS_val (hd 6 17 (by decide +kernel) (notI rfl)) rfl
      have hc := C2.out _ hb
      clear hd hk
      exact wp_value (.int .i64 sn) (by simp only [execOp, e17]; go_simp) (KS_mkv rfl rfl)
    · skip
      refine .val rfl (notI rfl) (notS rfl) (fun a' w' hb hk hd Q => ?_)
      have e0 : a'.eval (.tmp 0) = PT Y := hk.at 0 (by decide +kernel)
      exact wp_value _ (by simp only [execOp, e0]; rfl) (KS_mkv rfl rfl)
    · skip
      refine .val rfl (notI rfl) (notS rfl) (fun a' w' hb hk hd Q => ?_)
      have e19 : a'.eval (.tmp 19) = PT Y := KS_val (hd 8 19 (by decide +kernel) (notI rfl)) rfl
      clear hd hk
      exact wp_value (.pointer (some ⟨Y, 0, none⟩)) (by simp only [execOp, e19]; go_simp) (KS_mkv rfl rfl)
    · skip
      refine .val rfl (notI rfl) (notS rfl) (fun a' w' hb hk hd Q => ?_)
      have e20 : a'.eval (.tmp 20) = .pointer (some ⟨Y, 0, none⟩) := KS_val (hd 9 20 (by decide +kernel) (notI rfl)) rfl
      clear hd hk
      exact wp_value (.pointer (some ⟨Y, 3, none⟩)) (by simp only [execOp, e20]; go_simp) (KS_mkv rfl rfl)
    · skip
      refine .val rfl (notI rfl) (notS rfl) (fun a' w' hb hk hd Q => ?_)
      have e21 : a'.eval (.tmp 21) = .pointer (some ⟨Y, 3, none⟩) := KS_val (hd 10 21 (by decide +kernel) (notI rfl)) rfl
      have hc := C3.out _ hb
      clear hd hk
      exact wp_value (.bool st) (by simp only [execOp, e21]; go_simp) (KS_mkv rfl rfl)
    · skip
      refine .val rfl (notI rfl) (notS rfl) (fun a' w' hb hk hd Q => ?_)
      have e0 : a'.eval (.tmp 0) = PT Y := hk.at 0 (by decide +kernel)
      exact wp_value _ (by simp only [execOp, e0]; rfl) (KS_mkv rfl rfl)
    · skip
      refine .val rfl (notI rfl) (notS rfl) (fun a' w' hb hk hd Q => ?_)
      have e23 : a'.eval (.tmp 23) = PT Y := KS_val (hd 12 23 (by decide +kernel) (notI rfl)) rfl
      clear hd hk
      exact wp_value (.pointer (some ⟨Y, 0, none⟩)) (by simp only [execOp, e23]; go_simp) (KS_mkv rfl rfl)
    · skip
      refine .val rfl (notI rfl) (notS rfl) (fun a' w' hb hk hd Q => ?_)
      have e24 : a'.eval (.tmp 24) = .pointer (some ⟨Y, 0, none⟩) := KS_val (hd 13 24 (by decide +kernel) (notI rfl)) rfl
      clear hd hk
      exact wp_value (.pointer (some ⟨Y, 5, none⟩)) (by simp only [execOp, e24]; go_simp) (KS_mkv rfl rfl)
    · skip
      refine .val rfl (notI rfl) (notS rfl) (fun a' w' hb hk hd Q => ?_)
      have e25 : a'.eval (.tmp 25) = .pointer (some ⟨Y, 5, none⟩) := KS_val (hd 14 25 (by decide +kernel) (notI rfl)) rfl
      have hc := C5.out _ hb
      clear hd hk
      exact wp_value (bv) (by simp only [execOp, e25]; go_simp) (KS_mkv rfl rfl)
    · skip
      refine .val rfl (notI rfl) (notS rfl) (fun a' w' hb hk hd Q => ?_)
      have e0 : a'.eval (.tmp 0) = PT Y := hk.at 0 (by decide +kernel)
      exact wp_value _ (by simp only [execOp, e0]; rfl) (KS_mkv rfl rfl)
    · skip
      refine .val rfl (notI rfl) (notS rfl) (fun a' w' hb hk hd Q => ?_)
      have e27 : a'.eval (.tmp 27) = PT Y := KS_val (hd 16 27 (by decide +kernel) (notI rfl)) rfl
      clear hd hk
      exact wp_value (.pointer (some ⟨Y, 0, none⟩)) (by simp only [execOp, e27]; go_simp) (KS_mkv rfl rfl)
    · skip
      refine .val rfl (notI rfl) (notS rfl) (fun a' w' hb hk hd Q => ?_)
      have e28 : a'.eval (.tmp 28) = .pointer (some ⟨Y, 0, none⟩) := KS_val (hd 17 28 (by decide +kernel) (notI rfl)) rfl
      clear hd hk
      exact wp_value (.pointer (some ⟨Y, 6, none⟩)) (by simp only [execOp, e28]; go_simp) (KS_mkv rfl rfl)
    · skip
      refine .val rfl (notI rfl) (notS rfl) (fun a' w' hb hk hd Q => ?_)
      have e29 : a'.eval (.tmp 29) = .pointer (some ⟨Y, 6, none⟩) := KS_val (hd 18 29 (by decide +kernel) (notI rfl)) rfl
      have hc := C6.out _ hb
      clear hd hk
      exact wp_value (PT bB) (by simp only [execOp, e29]; go_simp) (KS_mkv rfl rfl)
    · skip
      refine .val rfl (notI rfl) (notS rfl) (fun a' w' hb hk hd Q => ?_)
      have e30 : a'.eval (.tmp 30) = PT bB := KS_val (hd 19 30 (by decide +kernel) (notI rfl)) rfl
      clear hd hk
      exact wp_value (.pointer (some ⟨bB, 0, none⟩)) (by simp only [execOp, e30]; go_simp) (KS_mkv rfl rfl)
    · skip
      refine .val rfl (notI rfl) (notS rfl) (fun a' w' hb hk hd Q => ?_)
      have e31 : a'.eval (.tmp 31) = .pointer (some ⟨bB, 0, none⟩) := KS_val (hd 20 31 (by decide +kernel) (notI rfl)) rfl
      clear hd hk
      exact wp_value (.pointer (some ⟨bB, 0, none⟩)) (by simp only [execOp, e31]; go_simp) (KS_mkv rfl rfl)
    · skip
      refine .val rfl (notI rfl) (notS rfl) (fun a' w' hb hk hd Q => ?_)
      have e32 : a'.eval (.tmp 32) = .pointer (some ⟨bB, 0, none⟩) := KS_val (hd 21 32 (by decide +kernel) (notI rfl)) rfl
      have hc := C7.out _ hb
      clear hd hk
      exact wp_value (vb) (by simp only [execOp, e32]; go_simp) (KS_mkv rfl rfl)
    · skip
      refine .val rfl (notI rfl) (notS rfl) (fun a' w' hb hk hd Q => ?_)
      have e14 : a'.eval (.tmp 14) = .int .i64 id := KS_val (hd 3 14 (by decide +kernel) (notI rfl)) rfl
      have e18 : a'.eval (.tmp 18) = .int .i64 sn := KS_val (hd 7 18 (by decide +kernel) (notI rfl)) rfl
      have e22 : a'.eval (.tmp 22) = .bool st := KS_val (hd 11 22 (by decide +kernel) (notI rfl)) rfl
      have e26 : a'.eval (.tmp 26) = bv := KS_val (hd 15 26 (by decide +kernel) (notI rfl)) rfl
      have e33 : a'.eval (.tmp 33) = vb := KS_val (hd 22 33 (by decide +kernel) (notI rfl)) rfl
      clear hd hk
      exact wp_value (.agg (RC r0).toArray) (by rw [HRC.out]; simp only [execOp, List.map_toArray, List.map_cons, List.map_nil, e14, e18, e22, e26, e33, Sem.run_bind, Sem.run_pure]; exact congrArg (fun r => Result.andThen r _) (HBR.out _)) (KS_mkv rfl rfl)
    · skip
      refine .new rfl _ (List.Mem.head _) rfl (notS rfl) rfl (fun a' w' => ?_)
      simp only [execOp]; go_simp
    · skip
      refine .put rfl _ (List.Mem.head _) (notI rfl) rfl rfl (.tmp 34) rfl (by kernel_rfl) (fun a' w' hb hk hd => ?_) (by rfl) (Tryz.size41) (RC_one _)
      have e34 : a'.eval (.tmp 34) = .agg (RC r0).toArray := KS_val (hd 23 34 (by decide +kernel) (notI rfl)) rfl
      exact e34
  · intro a' w3 hsz hdf hk hall hb3 hBB
    obtain ⟨BF, hB1, -⟩ := hBB
    obtain ⟨E4, hl4, BG⟩ := hB1 _ (List.Mem.head _) (show (24 : Nat) < 26 by decide) (show (25 : Nat) < 26 by decide)
    simp only at E4 hl4 BG
    clear hB1
    generalize BF 24 = eg at E4 hl4 BG
    have e11 : a'.eval (.tmp 11) = PT Y := KS_val (hall 0 _ 11 rfl (notI rfl) rfl) rfl
    have e12 : a'.eval (.tmp 12) = .pointer (some ⟨Y, 0, none⟩) := KS_val (hall 1 _ 12 rfl (notI rfl) rfl) rfl
    have e13 : a'.eval (.tmp 13) = .pointer (some ⟨Y, 0, none⟩) := KS_val (hall 2 _ 13 rfl (notI rfl) rfl) rfl
    have e14 : a'.eval (.tmp 14) = .int .i64 id := KS_val (hall 3 _ 14 rfl (notI rfl) rfl) rfl
    have e15 : a'.eval (.tmp 15) = PT Y := KS_val (hall 4 _ 15 rfl (notI rfl) rfl) rfl
    have e16 : a'.eval (.tmp 16) = .pointer (some ⟨Y, 0, none⟩) := KS_val (hall 5 _ 16 rfl (notI rfl) rfl) rfl
    have e17 : a'.eval (.tmp 17) = .pointer (some ⟨Y, 2, none⟩) := KS_val (hall 6 _ 17 rfl (notI rfl) rfl) rfl
    have e18 : a'.eval (.tmp 18) = .int .i64 sn := KS_val (hall 7 _ 18 rfl (notI rfl) rfl) rfl
    have e19 : a'.eval (.tmp 19) = PT Y := KS_val (hall 8 _ 19 rfl (notI rfl) rfl) rfl
    have e20 : a'.eval (.tmp 20) = .pointer (some ⟨Y, 0, none⟩) := KS_val (hall 9 _ 20 rfl (notI rfl) rfl) rfl
    have e21 : a'.eval (.tmp 21) = .pointer (some ⟨Y, 3, none⟩) := KS_val (hall 10 _ 21 rfl (notI rfl) rfl) rfl
    have e22 : a'.eval (.tmp 22) = .bool st := KS_val (hall 11 _ 22 rfl (notI rfl) rfl) rfl
    have e23 : a'.eval (.tmp 23) = PT Y := KS_val (hall 12 _ 23 rfl (notI rfl) rfl) rfl
    have e24 : a'.eval (.tmp 24) = .pointer (some ⟨Y, 0, none⟩) := KS_val (hall 13 _ 24 rfl (notI rfl) rfl) rfl
    have e25 : a'.eval (.tmp 25) = .pointer (some ⟨Y, 5, none⟩) := KS_val (hall 14 _ 25 rfl (notI rfl) rfl) rfl
    have e26 : a'.eval (.tmp 26) = bv := KS_val (hall 15 _ 26 rfl (notI rfl) rfl) rfl
    have e27 : a'.eval (.tmp 27) = PT Y := KS_val (hall 16 _ 27 rfl (notI rfl) rfl) rfl
    have e28 : a'.eval (.tmp 28) = .pointer (some ⟨Y, 0, none⟩) := KS_val (hall 17 _ 28 rfl (notI rfl) rfl) rfl
    have e29 : a'.eval (.tmp 29) = .pointer (some ⟨Y, 6, none⟩) := KS_val (hall 18 _ 29 rfl (notI rfl) rfl) rfl
    have e30 : a'.eval (.tmp 30) = PT bB := KS_val (hall 19 _ 30 rfl (notI rfl) rfl) rfl
    have e31 : a'.eval (.tmp 31) = .pointer (some ⟨bB, 0, none⟩) := KS_val (hall 20 _ 31 rfl (notI rfl) rfl) rfl
    have e32 : a'.eval (.tmp 32) = .pointer (some ⟨bB, 0, none⟩) := KS_val (hall 21 _ 32 rfl (notI rfl) rfl) rfl
    have e33 : a'.eval (.tmp 33) = vb := KS_val (hall 22 _ 33 rfl (notI rfl) rfl) rfl
    have e34 : a'.eval (.tmp 34) = .agg (RC r0).toArray := KS_val (hall 23 _ 34 rfl (notI rfl) rfl) rfl
    have ha := act_puts 39 rfl hsz hdf hk [11, 12, 13, 14, 15, 16, 17, 18, 19, 20, 21, 22, 23, 24, 25, 26, 27, 28, 29, 30, 31, 32, 33, 34, 4] (by decide +kernel)
    simp only [puts, List.foldl_cons, List.foldl_nil, e11, e12, e13, e14, e15, e16, e17, e18, e19, e20, e21, e22, e23, e24, e25, e26, e27, e28, e29, e30, e31, e32, e33, e34, E4] at ha
    simp only [Act.put, List.setIfInBounds_toArray, List.set_cons_succ, List.set_cons_zero] at ha
    clear hall hk hsz hdf e11 e12 e13 e14 e15 e16 e17 e18 e19 e20 e21 e22 e23 e24 e25 e26 e27 e28 e29 e30 e31 e32 e33 e34 E4
    subst ha
    have L3 := hide hb3
    have G3 := hide BG
    have hgN : N < eg := by
      have := l1.out.size
      have h2 := b1.out.lt
      have h3 : w1.heap.size ≤ eg := hl4
      omega
    have HGN := hide hgN
    have hrl : r0.rs.length ≤ 1000000 := by
      have h1 := (H.out.tx b t rfl).len
      have h2 := (H.out.tx b t rfl).ops
      rw [HR0.out]
      show b.Q.length ≤ 1000000
      omega
    have CW := hide (ownR_any (HRK.out w3 L3.out) hrl)
    clear hb3 BG hl4 hgN hrl
    go_wp2_with (first
      | (refine wpList_load_mid rfl 41 _ rfl eg 0 rfl (RC r0) _ G3.out.range0 Tryz.underlying41 rfl Tryz.size41 ?_)
      | fail)
    refine CW.out.mono ?_
    rintro e w4 ⟨v4, rfl, hx4, hb4⟩
    have X4 := hide hx4
    have L4 : Hid (Below w1.heap.size w1 w4) := (show Below _ _ _ from L3.out.trans (hb4.mono L3.out.size))
    have G4 := hide (G3.out.kept hb4)
    have W4 := hide (HRK.out w4 L4.out).ws
    have N4 := hide (b1.out.kept L4.out)
    obtain ⟨p4, c4, rfl⟩ := hx4.rd.slice
    obtain ⟨n4, HN4⟩ : ∃ n, Hid ((ownP r0.rs).length = n) := ⟨_, rfl⟩
    obtain ⟨r1, hr1⟩ : ∃ r : Rc, r = ⟨r0.ses, r0.snap, r0.st, ownP r0.rs, r0.ws, p4, c4, r0.wa, r0.wc⟩ := ⟨_, rfl⟩
    have HR1 := hide hr1
    have HRC1 : Hid ((RC r0).set 3 (.slice p4 n4 c4) = RC r1) := (show _ = _ by rw [hr1, ← HN4.out]; rfl)
    rw [HN4.out] at X4 ⊢
    clear hx4 hb4 hr1 CW
    go_wp2_with (first
      | (refine wpList_store_sl rfl 39 szr _ _ rfl eg 3 41 (RC r0) _ _ _ rfl rfl G4.out (by simp [RC]) ?_; intro w5 hb5 hu5; rw [HRC1.out] at hb5; have G5 := hide hb5; have X5 := hide (X4.out.inRec G4.out (Chg.of_but hu5 rfl)); have W5 := hide (rd_rec W4.out G4.out (Chg.of_but hu5 rfl)); have N5 := hide (N4.out.but hu5 (Nat.ne_of_lt HGN.out)); have U5 := hide hu5; clear hb5 hu5)
      | (refine wpList_load_mid rfl 41 _ rfl eg 0 rfl (RC r1) _ G5.out.range0 Tryz.underlying41 rfl Tryz.size41 ?_)
      | (refine wpList_store_blk rfl 41 _ _ rfl N (RC zr) (RC r1) 41 rfl rfl N5.out rfl Tryz.size41 (RC_one r1) ?_; intro w6 hb6 hu6; have B6 := hide hb6; have U6 := hide hu6; clear hb6 hu6)
      | fail)
    refine bodyPost_ret (results_rec rfl _ _ N r1 true rfl rfl B6.out) rfl ⟨⟨r1, rfl, ?_⟩, ?_⟩
    · have hC6 : Chg (fun k => k = N) w5 w6 := Chg.of_but U6.out rfl
      have X6 := X5.out.inRec N5.out hC6
      have W6 := rd_rec W5.out N5.out hC6
      have hpl : (ownP b.Q).map plR = t.R := (H.out.tx b t rfl).pl
      have hr := HR1.out
      rw [HR0.out] at hr X6 W6
      rw [hr]
      refine ⟨rfl, rfl, rfl, ?_, hpl, W6, rfl⟩
      have e4 : (ownP b.Q).length = n4 := by
        have := HN4.out
        rw [HR0.out] at this
        exact this
      show RdX w6 (.slice p4 (ownP b.Q).length c4) (ownP b.Q)
      rw [e4]
      exact X6
    · have hl1 : Below w.heap.size w w1 := l1.out
      have hN1 : w.heap.size ≤ w1.heap.size := l1.out.size
      have h5 : Below w.heap.size w4 w5 := U5.out.below (by have := HN.out; have := HGN.out; omega) (Nat.le_trans hN1 L4.out.size)
      have hN5 : w.heap.size ≤ w5.heap.size := (by have h8 := (Chg.of_but (F := fun k => k = eg) U5.out rfl).size; have h9 := L4.out.size; omega)
      have h6 : Below w.heap.size w5 w6 := U6.out.below (Nat.le_of_eq HN.out) hN5
      exact ((hl1.trans (L4.out.mono hN1)).trans h5).trans h6
end Go.Proofs.YtcicekggeampcaaGreat
