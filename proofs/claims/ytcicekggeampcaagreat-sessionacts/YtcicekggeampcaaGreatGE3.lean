/-
  Texts that ride together: SeT SeU SeF.
-/
import Derived.Test.YtcicekggeampcaaGreatGE2
/-
  package session: Record: what the call does.
-/
namespace Go.Proofs.YtcicekggeampcaaGreat
open Go.RowKit
theorem results_rec {fn : Func} {p u : Tmp} (h : fn.results = #[.cell p 41, .tmp u]) (tmps : Array Value) (w : World) (g : Nat) (x : Rc) (b : Bool) (hp : tmps.getD p undef = .pointer (some ⟨g, 0, none⟩)) (hb : tmps.getD u undef = .bool b) (hB : Blk w g 41 (RC x)) : (results fn tmps).run Tryz.prog w = .ok (.tuple #[.agg (RC x).toArray, .bool b]) w := by
  rw [results_cell_tmp h, hp, hb]
  have := run_loadVar_mid (P := Tryz.prog) w g 0 41 (RC x) _ hB.range0 Tryz.underlying41 rfl Tryz.size41
  simp [asAddr, this]
theorem build_rec0 : ∀ W : World, (Instr.build 41 #[]).run Tryz.prog W = .ok (.agg (RC zr).toArray) W := fun W => by kernel_rfl
theorem build_rec (n m : Int) (st : Bool) (a a' : Option Addr) (l c l' c' : Nat) : ∀ W : World, (Instr.build 41 #[(0, .int .i64 n), (1, .int .i64 m), (2, .bool st), (3, .slice a l c), (4, .slice a' l' c')]).run Tryz.prog W = .ok (.agg #[.int .i64 n, .int .i64 m, .bool st, .slice a l c, .slice a' l' c']) W := fun W => by kernel_rfl
set_option maxHeartbeats 1000000 in
set_option maxRecDepth 100000 in
theorem zRec_no {w : World} {v : Value} (h : ∀ W : World, Below w.heap.size w W → Calls Tryz.prog 13 #[v] W fun e w' => e = .returned (.bool false) ∧ w' = W) : Calls Tryz.prog 10 #[v] w fun e w' => e = .returned (.tuple #[.agg (RC zr).toArray, .bool false]) ∧ Below w.heap.size w w' := by
  have hz := zeroR
  have hb0 := build_rec0
  obtain ⟨N, HN⟩ : ∃ N, Hid (w.heap.size = N) := ⟨_, rfl⟩
  obtain ⟨w1, hw1⟩ : ∃ y, y = w.alloc (.cells (RC zr).toArray 41 (0, 0)) := ⟨_, rfl⟩
  obtain ⟨b1, l1⟩ := newB HN hw1
  have HW := hide hw1
  have CO := hide (h w1 l1.out)
  clear h hw1
  go_enter Tryz.func10, Tryz.ntmps10
  go_upto_region 1 with fail
  change Code.wp _ _ _ _ (w.alloc (.cells (RC zr).toArray 41 (0, 0)))
  rw [← HW.out, HN.out]
  go_wp2_with fail
  refine CO.out.mono ?_
  rintro e w_ ⟨rfl, hw⟩
  subst w_
  go_wp2_with (first
    | (refine wpList_store_blk rfl 41 _ _ rfl N (RC zr) (RC zr) 41 rfl rfl b1.out rfl Tryz.size41 (RC_one zr) ?_; intro w5 hb5 hu5)
    | fail)
  refine bodyPost_ret (results_rec rfl _ _ N zr false rfl rfl hb5) rfl ⟨rfl, ?_⟩
  exact l1.out.trans (hu5.below (Nat.le_of_eq HN.out) l1.out.size)
/-- What Record tells of a transaction. -/
def RecPost (w : World) (id : Int) (t : Tx) (e : Ending) (w' : World) : Prop :=
  ∃ r : Rc, e = .returned (.tuple #[.agg (RC r).toArray, .bool true]) ∧ r.ses = id ∧ r.snap = t.snap ∧ r.st = t.st ∧ OwnR9 w' w.heap.size (rv r) r.rs ∧ r.rs.map plR = t.R ∧ OwnG PE w' w.heap.size 51 (wv r) r.ws ∧ r.ws = t.W
set_option maxHeartbeats 4000000 in
set_option maxRecDepth 100000 in
theorem zRec_any {w : World} {B X : Nat} {id : Int} {b : Tb} {t : Tx} (h : SesAt w B X id (some (b, t))) (hp : ∀ x ∈ t.R, x.2.2.2.length ≤ 1000000) :
    Calls Tryz.prog 10 #[PT X] w fun e w' => RecPost w id t e w' ∧ Below w.heap.size w w' := by
  have H := hide h
  have hz := zeroR
  obtain ⟨N, HN⟩ : ∃ N, Hid (w.heap.size = N) := ⟨_, rfl⟩
  obtain ⟨w1, hw1⟩ : ∃ y, y = w.alloc (.cells (RC zr).toArray 41 (0, 0)) := ⟨_, rfl⟩
  obtain ⟨b1, l1⟩ := newB HN hw1
  have HW := hide hw1
  have H1 := hide (h.kept l1.out)
  have CO := hide (zOpen_any H1.out)
  obtain ⟨bT, HbT⟩ : ∃ z, Hid (b.T = z) := ⟨_, rfl⟩
  obtain ⟨bD, HbD⟩ : ∃ z, Hid (b.D = z) := ⟨_, rfl⟩
  obtain ⟨bv, HBV⟩ : ∃ z, Hid (b.v = z) := ⟨_, rfl⟩
  obtain ⟨sn, HSN⟩ : ∃ z, Hid (t.snap = z) := ⟨_, rfl⟩
  obtain ⟨st, HST⟩ : ∃ z, Hid (t.st = z) := ⟨_, rfl⟩
  have C0 : Hid (∀ W : World, Below w1.heap.size w1 W → W.cell? ⟨X, 0, none⟩ = some (.int .i64 id)) := (show _ from fun W hW => (H1.out.kept hW).x.cell (j := 0) rfl)
  have C1 : Hid (∀ W : World, Below w1.heap.size w1 W → W.cell? ⟨X, 1, none⟩ = some (PT bT)) := (show _ from fun W hW => by rw [← HbT.out]; exact (H1.out.kept hW).x.cell (j := 1) rfl)
  have T0 : Hid (∀ W : World, Below w1.heap.size w1 W → W.cell? ⟨bT, 0, none⟩ = some (.int .i64 sn)) := (show _ from fun W hW => by rw [← HbT.out, ← HSN.out]; exact ((H1.out.kept hW).tx b t rfl).d.cell (j := 0) rfl)
  have T1 : Hid (∀ W : World, Below w1.heap.size w1 W → W.cell? ⟨bT, 1, none⟩ = some (.bool st)) := (show _ from fun W hW => by rw [← HbT.out, ← HST.out]; exact ((H1.out.kept hW).tx b t rfl).d.cell (j := 1) rfl)
  have T2 : Hid (∀ W : World, Below w1.heap.size w1 W → W.cell? ⟨bT, 2, none⟩ = some bv) := (show _ from fun W hW => by rw [← HbT.out, ← HBV.out]; exact ((H1.out.kept hW).tx b t rfl).d.cell (j := 2) rfl)
  have T4 : Hid (∀ W : World, Below w1.heap.size w1 W → W.cell? ⟨bT, 4, none⟩ = some (PT bD)) := (show _ from fun W hW => by rw [← HbT.out, ← HbD.out]; exact ((H1.out.kept hW).tx b t rfl).d.cell (j := 4) rfl)
  have CC : Hid (∀ W : World, Below w1.heap.size w1 W → Calls Tryz.prog 34 #[bv] W fun e w' => ∃ v' L, e = .returned v' ∧ OwnR9 w' N v' L ∧ L.map plR = t.R ∧ Below W.heap.size W w') := (show _ from fun W hW => by
    have ht := (H1.out.kept hW).tx b t rfl
    have hlen : b.Q.length ≤ 64 := by
      have h1 := congrArg List.length ht.pl
      rw [List.length_map] at h1
      have := ht.len
      have := ht.ops
      omega
    have := zCopied_any (v := b.v) (Q := b.Q) ⟨ht.row.rd, fun y hy => (ht.ps y hy).rd⟩ (by omega) (fun y hy => by
      have h1 := hp (plR y) (by rw [← ht.pl]; exact List.mem_map_of_mem hy)
      exact h1)
    rw [HBV.out] at this
    refine this.mono ?_
    rintro e w' ⟨v', L, rfl, h1, h2, h3⟩
    have hN : N ≤ W.heap.size := by have := hW.size; have := l1.out.size; have := HN.out; omega
    exact ⟨v', L, rfl, ⟨h1.row.mono hN, fun y hy => (h1.ps y hy).mono hN⟩, h2.trans ht.pl, h3⟩)
  have CW : Hid (∀ W : World, Below w1.heap.size w1 W → Calls Tryz.prog 35 #[PT bD] W fun e w' => ∃ v', e = .returned v' ∧ OwnG PE w' N 51 v' t.W ∧ Below W.heap.size W w') := (show _ from fun W hW => by
    have ht := (H1.out.kept hW).tx b t rfl
    rw [← HbD.out]
    refine (writes_any ht.buf).mono ?_
    rintro e w' ⟨v', rfl, h1, h2⟩
    have hN : N ≤ W.heap.size := by have := hW.size; have := l1.out.size; have := HN.out; omega
    exact ⟨v', rfl, h1.mono hN, h2⟩)
  clear h hp hw1
  go_enter Tryz.func10, Tryz.ntmps10
  go_upto_region 1 with fail
  change Code.wp _ _ _ _ (w.alloc (.cells (RC zr).toArray 41 (0, 0)))
  rw [← HW.out, HN.out]
  go_wp2_with fail
  refine CO.out.mono ?_
  rintro e w_ ⟨rfl, hw⟩
  subst w_
  go_upto_region 3 with fail
  refine wp_region_tails Tryz.mixed (KS (fun i_ => match i_ with | 0 | 4 | 11 | 18 | 26 => .val (PT X) | 1 | 2 | 5 | 12 | 19 | 27 => .val (.pointer (some ⟨X, 0, none⟩)) | 3 => .val (.int .i64 id) | 6 | 13 | 20 | 28 => .val (.pointer (some ⟨X, 1, none⟩)) | 7 | 14 | 21 | 29 => .val (PT bT) | 8 | 9 | 15 | 22 | 30 => .val (.pointer (some ⟨bT, 0, none⟩)) | 10 => .val (.int .i64 sn) | 16 => .val (.pointer (some ⟨bT, 1, none⟩)) | 17 => .val (.bool st) | 23 => .val (.pointer (some ⟨bT, 2, none⟩)) | 24 => .val (bv) | 25 => .of (fun w v_ => ∃ L, OwnR9 w N v_ L ∧ L.map plR = t.R) (fun _ _ _ hg ⟨L, h1, h2⟩ => ⟨L, h1.kept hg, h2⟩) | 31 => .val (.pointer (some ⟨bT, 4, none⟩)) | 32 => .val (PT bD) | 33 => .of (fun w v_ => OwnG PE w N 51 v_ t.W) (fun _ _ _ hg h => h.kept hg) | _ => .free)) 43 rfl (by decide +kernel) 34 (by decide) (by decide +kernel) (KS_mono _) ?_ ?_
  · refine AllFrom.cons ⟨rfl, fun a' w' hg hk hd => ?_⟩ (AllFrom.cons ⟨rfl, fun a' w' hg hk hd => ?_⟩ (AllFrom.cons ⟨rfl, fun a' w' hg hk hd => ?_⟩ (AllFrom.cons ⟨rfl, fun a' w' hg hk hd => ?_⟩ (AllFrom.cons ⟨rfl, fun a' w' hg hk hd => ?_⟩ (AllFrom.cons ⟨rfl, fun a' w' hg hk hd => ?_⟩ (AllFrom.cons ⟨rfl, fun a' w' hg hk hd => ?_⟩ (AllFrom.cons ⟨rfl, fun a' w' hg hk hd => ?_⟩ (AllFrom.cons ⟨rfl, fun a' w' hg hk hd => ?_⟩ (AllFrom.cons ⟨rfl, fun a' w' hg hk hd => ?_⟩ (AllFrom.cons ⟨rfl, fun a' w' hg hk hd => ?_⟩ (AllFrom.cons ⟨rfl, fun a' w' hg hk hd => ?_⟩ (AllFrom.cons ⟨rfl, fun a' w' hg hk hd => ?_⟩ (AllFrom.cons ⟨rfl, fun a' w' hg hk hd => ?_⟩ (AllFrom.cons ⟨rfl, fun a' w' hg hk hd => ?_⟩ (AllFrom.cons ⟨rfl, fun a' w' hg hk hd => ?_⟩ (AllFrom.cons ⟨rfl, fun a' w' hg hk hd => ?_⟩ (AllFrom.cons ⟨rfl, fun a' w' hg hk hd => ?_⟩ (AllFrom.cons ⟨rfl, fun a' w' hg hk hd => ?_⟩ (AllFrom.cons ⟨rfl, fun a' w' hg hk hd => ?_⟩ (AllFrom.cons ⟨rfl, fun a' w' hg hk hd => ?_⟩ (AllFrom.cons ⟨rfl, fun a' w' hg hk hd => ?_⟩ (AllFrom.cons ⟨rfl, fun a' w' hg hk hd => ?_⟩ (AllFrom.cons ⟨rfl, fun a' w' hg hk hd => ?_⟩ (AllFrom.cons ⟨rfl, fun a' w' hg hk hd => ?_⟩ (AllFrom.cons ⟨rfl, fun a' w' hg hk hd => ?_⟩ (AllFrom.cons ⟨rfl, fun a' w' hg hk hd => ?_⟩ (AllFrom.cons ⟨rfl, fun a' w' hg hk hd => ?_⟩ (AllFrom.cons ⟨rfl, fun a' w' hg hk hd => ?_⟩ (AllFrom.cons ⟨rfl, fun a' w' hg hk hd => ?_⟩ (AllFrom.cons ⟨rfl, fun a' w' hg hk hd => ?_⟩ (AllFrom.cons ⟨rfl, fun a' w' hg hk hd => ?_⟩ (AllFrom.cons ⟨rfl, fun a' w' hg hk hd => ?_⟩ (AllFrom.cons ⟨rfl, fun a' w' hg hk hd => ?_⟩ AllFrom.nil)))))))))))))))))))))))))))))))))
    · skip
      intro Q
      have e0 : a'.eval (.tmp 0) = PT X := hk.at 0 (by decide +kernel)
      exact wp_value _ (by simp only [execOp, e0]; rfl) (KS_mkv rfl rfl)
    · skip
      intro Q
      have e8 : a'.eval (.tmp 8) = PT X := KS_val (hd.val 0 8 (by decide +kernel)) rfl
      clear hd hk
      exact wp_value (.pointer (some ⟨X, 0, none⟩)) (by simp only [execOp, e8]; go_simp) (KS_mkv rfl rfl)
    · skip
      intro Q
      have e9 : a'.eval (.tmp 9) = .pointer (some ⟨X, 0, none⟩) := KS_val (hd.val 1 9 (by decide +kernel)) rfl
      clear hd hk
      exact wp_value (.pointer (some ⟨X, 0, none⟩)) (by simp only [execOp, e9]; go_simp) (KS_mkv rfl rfl)
    · skip
      intro Q
      have e10 : a'.eval (.tmp 10) = .pointer (some ⟨X, 0, none⟩) := KS_val (hd.val 2 10 (by decide +kernel)) rfl
      have hc := C0.out _ hg
      clear hd hk
      exact wp_value (.int .i64 id) (by simp only [execOp, e10]; go_simp) (KS_mkv rfl rfl)
    · skip
      intro Q
      have e0 : a'.eval (.tmp 0) = PT X := hk.at 0 (by decide +kernel)
      exact wp_value _ (by simp only [execOp, e0]; rfl) (KS_mkv rfl rfl)
    · skip
      intro Q
      have e12 : a'.eval (.tmp 12) = PT X := KS_val (hd.val 4 12 (by decide +kernel)) rfl
      clear hd hk
      exact wp_value (.pointer (some ⟨X, 0, none⟩)) (by simp only [execOp, e12]; go_simp) (KS_mkv rfl rfl)
    · skip
      intro Q
      have e13 : a'.eval (.tmp 13) = .pointer (some ⟨X, 0, none⟩) := KS_val (hd.val 5 13 (by decide +kernel)) rfl
      clear hd hk
      exact wp_value (.pointer (some ⟨X, 1, none⟩)) (by simp only [execOp, e13]; go_simp) (KS_mkv rfl rfl)
    · skip
      intro Q
      have e14 : a'.eval (.tmp 14) = .pointer (some ⟨X, 1, none⟩) := KS_val (hd.val 6 14 (by decide +kernel)) rfl
      have hc := C1.out _ hg
      clear hd hk
      exact wp_value (PT bT) (by simp only [execOp, e14]; go_simp) (KS_mkv rfl rfl)
    · skip
      intro Q
      have e15 : a'.eval (.tmp 15) = PT bT := KS_val (hd.val 7 15 (by decide +kernel)) rfl
      clear hd hk
      exact wp_value (.pointer (some ⟨bT, 0, none⟩)) (by simp only [execOp, e15]; go_simp) (KS_mkv rfl rfl)
    · skip
      intro Q
      have e16 : a'.eval (.tmp 16) = .pointer (some ⟨bT, 0, none⟩) := KS_val (hd.val 8 16 (by decide +kernel)) rfl
      clear hd hk
      exact wp_value (.pointer (some ⟨bT, 0, none⟩)) (by simp only [execOp, e16]; go_simp) (KS_mkv rfl rfl)
    · skip
      intro Q
      have e17 : a'.eval (.tmp 17) = .pointer (some ⟨bT, 0, none⟩) := KS_val (hd.val 9 17 (by decide +kernel)) rfl
      have hc := T0.out _ hg
      clear hd hk
      exact wp_value (.int .i64 sn) (by simp only [execOp, e17]; go_simp) (KS_mkv rfl rfl)
    · skip
      intro Q
      have e0 : a'.eval (.tmp 0) = PT X := hk.at 0 (by decide +kernel)
      exact wp_value _ (by simp only [execOp, e0]; rfl) (KS_mkv rfl rfl)
    · skip
      intro Q
      have e19 : a'.eval (.tmp 19) = PT X := KS_val (hd.val 11 19 (by decide +kernel)) rfl
      clear hd hk
      exact wp_value (.pointer (some ⟨X, 0, none⟩)) (by simp only [execOp, e19]; go_simp) (KS_mkv rfl rfl)
    · skip
      intro Q
      have e20 : a'.eval (.tmp 20) = .pointer (some ⟨X, 0, none⟩) := KS_val (hd.val 12 20 (by decide +kernel)) rfl
      clear hd hk
      exact wp_value (.pointer (some ⟨X, 1, none⟩)) (by simp only [execOp, e20]; go_simp) (KS_mkv rfl rfl)
    · skip
      intro Q
      have e21 : a'.eval (.tmp 21) = .pointer (some ⟨X, 1, none⟩) := KS_val (hd.val 13 21 (by decide +kernel)) rfl
      have hc := C1.out _ hg
      clear hd hk
      exact wp_value (PT bT) (by simp only [execOp, e21]; go_simp) (KS_mkv rfl rfl)
    · skip
      intro Q
      have e22 : a'.eval (.tmp 22) = PT bT := KS_val (hd.val 14 22 (by decide +kernel)) rfl
      clear hd hk
      exact wp_value (.pointer (some ⟨bT, 0, none⟩)) (by simp only [execOp, e22]; go_simp) (KS_mkv rfl rfl)
    · skip
      intro Q
      have e23 : a'.eval (.tmp 23) = .pointer (some ⟨bT, 0, none⟩) := KS_val (hd.val 15 23 (by decide +kernel)) rfl
      clear hd hk
      exact wp_value (.pointer (some ⟨bT, 1, none⟩)) (by simp only [execOp, e23]; go_simp) (KS_mkv rfl rfl)
    · skip
      intro Q
      have e24 : a'.eval (.tmp 24) = .pointer (some ⟨bT, 1, none⟩) := KS_val (hd.val 16 24 (by decide +kernel)) rfl
      have hc := T1.out _ hg
      clear hd hk
      exact wp_value (.bool st) (by simp only [execOp, e24]; go_simp) (KS_mkv rfl rfl)
    · skip
      intro Q
      have e0 : a'.eval (.tmp 0) = PT X := hk.at 0 (by decide +kernel)
      exact wp_value _ (by simp only [execOp, e0]; rfl) (KS_mkv rfl rfl)
    · skip
      intro Q
      have e26 : a'.eval (.tmp 26) = PT X := KS_val (hd.val 18 26 (by decide +kernel)) rfl
      clear hd hk
      exact wp_value (.pointer (some ⟨X, 0, none⟩)) (by simp only [execOp, e26]; go_simp) (KS_mkv rfl rfl)
    · skip
      intro Q
      have e27 : a'.eval (.tmp 27) = .pointer (some ⟨X, 0, none⟩) := KS_val (hd.val 19 27 (by decide +kernel)) rfl
      clear hd hk
      exact wp_value (.pointer (some ⟨X, 1, none⟩)) (by simp only [execOp, e27]; go_simp) (KS_mkv rfl rfl)
    · skip
      intro Q
      have e28 : a'.eval (.tmp 28) = .pointer (some ⟨X, 1, none⟩) := KS_val (hd.val 20 28 (by decide +kernel)) rfl
      have hc := C1.out _ hg
      clear hd hk
      exact wp_value (PT bT) (by simp only [execOp, e28]; go_simp) (KS_mkv rfl rfl)
    · skip
      intro Q
      have e29 : a'.eval (.tmp 29) = PT bT := KS_val (hd.val 21 29 (by decide +kernel)) rfl
      clear hd hk
      exact wp_value (.pointer (some ⟨bT, 0, none⟩)) (by simp only [execOp, e29]; go_simp) (KS_mkv rfl rfl)
    · skip
      intro Q
      have e30 : a'.eval (.tmp 30) = .pointer (some ⟨bT, 0, none⟩) := KS_val (hd.val 22 30 (by decide +kernel)) rfl
      clear hd hk
      exact wp_value (.pointer (some ⟨bT, 2, none⟩)) (by simp only [execOp, e30]; go_simp) (KS_mkv rfl rfl)
    · skip
      intro Q
      have e31 : a'.eval (.tmp 31) = .pointer (some ⟨bT, 2, none⟩) := KS_val (hd.val 23 31 (by decide +kernel)) rfl
      have hc := T2.out _ hg
      clear hd hk
      exact wp_value (bv) (by simp only [execOp, e31]; go_simp) (KS_mkv rfl rfl)
    · skip
      intro Q
      have e32 : a'.eval (.tmp 32) = bv := KS_val (hd.val 24 32 (by decide +kernel)) rfl
      refine wp_call 34 _ (run_enter 34 _ _ rfl (by kernel_rfl)) ?_
      simp only [List.map_toArray, List.map_nil, List.map_cons, e32]
      refine (CC.out _ hg).mono ?_
      rintro e w5 ⟨v5, L5, rfl, h1, h2, hb5⟩
      exact ⟨_, rfl, KS_mko rfl ⟨L5, h1, h2⟩, hb5⟩
    · skip
      intro Q
      have e0 : a'.eval (.tmp 0) = PT X := hk.at 0 (by decide +kernel)
      exact wp_value _ (by simp only [execOp, e0]; rfl) (KS_mkv rfl rfl)
    · skip
      intro Q
      have e34 : a'.eval (.tmp 34) = PT X := KS_val (hd.val 26 34 (by decide +kernel)) rfl
      clear hd hk
      exact wp_value (.pointer (some ⟨X, 0, none⟩)) (by simp only [execOp, e34]; go_simp) (KS_mkv rfl rfl)
    · skip
      intro Q
      have e35 : a'.eval (.tmp 35) = .pointer (some ⟨X, 0, none⟩) := KS_val (hd.val 27 35 (by decide +kernel)) rfl
      clear hd hk
      exact wp_value (.pointer (some ⟨X, 1, none⟩)) (by simp only [execOp, e35]; go_simp) (KS_mkv rfl rfl)
    · skip
      intro Q
      have e36 : a'.eval (.tmp 36) = .pointer (some ⟨X, 1, none⟩) := KS_val (hd.val 28 36 (by decide +kernel)) rfl
      have hc := C1.out _ hg
      clear hd hk
      exact wp_value (PT bT) (by simp only [execOp, e36]; go_simp) (KS_mkv rfl rfl)
    · skip
      intro Q
      have e37 : a'.eval (.tmp 37) = PT bT := KS_val (hd.val 29 37 (by decide +kernel)) rfl
      clear hd hk
      exact wp_value (.pointer (some ⟨bT, 0, none⟩)) (by simp only [execOp, e37]; go_simp) (KS_mkv rfl rfl)
    · skip
      intro Q
      have e38 : a'.eval (.tmp 38) = .pointer (some ⟨bT, 0, none⟩) := KS_val (hd.val 30 38 (by decide +kernel)) rfl
      clear hd hk
      exact wp_value (.pointer (some ⟨bT, 4, none⟩)) (by simp only [execOp, e38]; go_simp) (KS_mkv rfl rfl)
    · skip
      intro Q
      have e39 : a'.eval (.tmp 39) = .pointer (some ⟨bT, 4, none⟩) := KS_val (hd.val 31 39 (by decide +kernel)) rfl
      have hc := T4.out _ hg
      clear hd hk
      exact wp_value (PT bD) (by simp only [execOp, e39]; go_simp) (KS_mkv rfl rfl)
    · skip
      intro Q
      have e40 : a'.eval (.tmp 40) = PT bD := KS_val (hd.val 32 40 (by decide +kernel)) rfl
      refine wp_call 35 _ (run_enter 35 _ _ rfl (by kernel_rfl)) ?_
      simp only [List.map_toArray, List.map_nil, List.map_cons, e40]
      refine (CW.out _ hg).mono ?_
      rintro e w5 ⟨v5, rfl, h1, hb5⟩
      exact ⟨_, rfl, KS_mko rfl h1, hb5⟩
  · intro a' w3 hsz hdf hk hall hg
    have e8 : a'.eval (.tmp 8) = PT X := KS_val (hall 0 _ 8 (by decide) rfl rfl) rfl
    have e9 : a'.eval (.tmp 9) = .pointer (some ⟨X, 0, none⟩) := KS_val (hall 1 _ 9 (by decide) rfl rfl) rfl
    have e10 : a'.eval (.tmp 10) = .pointer (some ⟨X, 0, none⟩) := KS_val (hall 2 _ 10 (by decide) rfl rfl) rfl
    have e11 : a'.eval (.tmp 11) = .int .i64 id := KS_val (hall 3 _ 11 (by decide) rfl rfl) rfl
    have e12 : a'.eval (.tmp 12) = PT X := KS_val (hall 4 _ 12 (by decide) rfl rfl) rfl
    have e13 : a'.eval (.tmp 13) = .pointer (some ⟨X, 0, none⟩) := KS_val (hall 5 _ 13 (by decide) rfl rfl) rfl
    have e14 : a'.eval (.tmp 14) = .pointer (some ⟨X, 1, none⟩) := KS_val (hall 6 _ 14 (by decide) rfl rfl) rfl
    have e15 : a'.eval (.tmp 15) = PT bT := KS_val (hall 7 _ 15 (by decide) rfl rfl) rfl
    have e16 : a'.eval (.tmp 16) = .pointer (some ⟨bT, 0, none⟩) := KS_val (hall 8 _ 16 (by decide) rfl rfl) rfl
    have e17 : a'.eval (.tmp 17) = .pointer (some ⟨bT, 0, none⟩) := KS_val (hall 9 _ 17 (by decide) rfl rfl) rfl
    have e18 : a'.eval (.tmp 18) = .int .i64 sn := KS_val (hall 10 _ 18 (by decide) rfl rfl) rfl
    have e19 : a'.eval (.tmp 19) = PT X := KS_val (hall 11 _ 19 (by decide) rfl rfl) rfl
    have e20 : a'.eval (.tmp 20) = .pointer (some ⟨X, 0, none⟩) := KS_val (hall 12 _ 20 (by decide) rfl rfl) rfl
    have e21 : a'.eval (.tmp 21) = .pointer (some ⟨X, 1, none⟩) := KS_val (hall 13 _ 21 (by decide) rfl rfl) rfl
    have e22 : a'.eval (.tmp 22) = PT bT := KS_val (hall 14 _ 22 (by decide) rfl rfl) rfl
    have e23 : a'.eval (.tmp 23) = .pointer (some ⟨bT, 0, none⟩) := KS_val (hall 15 _ 23 (by decide) rfl rfl) rfl
    have e24 : a'.eval (.tmp 24) = .pointer (some ⟨bT, 1, none⟩) := KS_val (hall 16 _ 24 (by decide) rfl rfl) rfl
    have e25 : a'.eval (.tmp 25) = .bool st := KS_val (hall 17 _ 25 (by decide) rfl rfl) rfl
    have e26 : a'.eval (.tmp 26) = PT X := KS_val (hall 18 _ 26 (by decide) rfl rfl) rfl
    have e27 : a'.eval (.tmp 27) = .pointer (some ⟨X, 0, none⟩) := KS_val (hall 19 _ 27 (by decide) rfl rfl) rfl
    have e28 : a'.eval (.tmp 28) = .pointer (some ⟨X, 1, none⟩) := KS_val (hall 20 _ 28 (by decide) rfl rfl) rfl
    have e29 : a'.eval (.tmp 29) = PT bT := KS_val (hall 21 _ 29 (by decide) rfl rfl) rfl
    have e30 : a'.eval (.tmp 30) = .pointer (some ⟨bT, 0, none⟩) := KS_val (hall 22 _ 30 (by decide) rfl rfl) rfl
    have e31 : a'.eval (.tmp 31) = .pointer (some ⟨bT, 2, none⟩) := KS_val (hall 23 _ 31 (by decide) rfl rfl) rfl
    have e32 : a'.eval (.tmp 32) = bv := KS_val (hall 24 _ 32 (by decide) rfl rfl) rfl
    obtain ⟨L3, O3, P3⟩ := KS_of (hall 25 _ 33 (by decide) rfl rfl) rfl
    obtain ⟨p3, c3, e33⟩ := O3.row.form
    rw [e33] at O3
    have e34 : a'.eval (.tmp 34) = PT X := KS_val (hall 26 _ 34 (by decide) rfl rfl) rfl
    have e35 : a'.eval (.tmp 35) = .pointer (some ⟨X, 0, none⟩) := KS_val (hall 27 _ 35 (by decide) rfl rfl) rfl
    have e36 : a'.eval (.tmp 36) = .pointer (some ⟨X, 1, none⟩) := KS_val (hall 28 _ 36 (by decide) rfl rfl) rfl
    have e37 : a'.eval (.tmp 37) = PT bT := KS_val (hall 29 _ 37 (by decide) rfl rfl) rfl
    have e38 : a'.eval (.tmp 38) = .pointer (some ⟨bT, 0, none⟩) := KS_val (hall 30 _ 38 (by decide) rfl rfl) rfl
    have e39 : a'.eval (.tmp 39) = .pointer (some ⟨bT, 4, none⟩) := KS_val (hall 31 _ 39 (by decide) rfl rfl) rfl
    have e40 : a'.eval (.tmp 40) = PT bD := KS_val (hall 32 _ 40 (by decide) rfl rfl) rfl
    have O4 := KS_of (hall 33 _ 41 (by decide) rfl rfl) rfl
    obtain ⟨p4, c4, e41⟩ := OwnG.form O4
    rw [e41] at O4
    obtain ⟨x42, e42⟩ : ∃ v, a'.eval (.tmp 42) = v := ⟨_, rfl⟩
    obtain ⟨x3, e3⟩ : ∃ v, a'.eval (.tmp 3) = v := ⟨_, rfl⟩
    have ha := act_puts 43 rfl hsz hdf hk [8, 9, 10, 11, 12, 13, 14, 15, 16, 17, 18, 19, 20, 21, 22, 23, 24, 25, 26, 27, 28, 29, 30, 31, 32, 33, 34, 35, 36, 37, 38, 39, 40, 41, 42, 3] (by decide +kernel)
    simp only [puts, List.foldl_cons, List.foldl_nil, e8, e9, e10, e11, e12, e13, e14, e15, e16, e17, e18, e19, e20, e21, e22, e23, e24, e25, e26, e27, e28, e29, e30, e31, e32, e33, e34, e35, e36, e37, e38, e39, e40, e41, e42, e3] at ha
    simp only [Act.put, List.setIfInBounds_toArray, List.set_cons_succ, List.set_cons_zero] at ha
    have G3 := hide hg
    have O3 := hide O3
    have O4 := hide O4
    have P3 := hide P3
    clear hall hk hsz hdf hg e8 e9 e10 e11 e12 e13 e14 e15 e16 e17 e18 e19 e20 e21 e22 e23 e24 e25 e26 e27 e28 e29 e30 e31 e32 e33 e34 e35 e36 e37 e38 e39 e40 e41 e42 e3
    subst ha
    obtain ⟨rl, HRL⟩ : ∃ z, Hid (L3.length = z) := ⟨_, rfl⟩
    obtain ⟨wl, HWL⟩ : ∃ z, Hid (t.W.length = z) := ⟨_, rfl⟩
    obtain ⟨r, hr⟩ : ∃ r : Rc, r = ⟨id, sn, st, L3, t.W, p3, c3, p4, c4⟩ := ⟨_, rfl⟩
    have HRC : Hid (RC r = [.int .i64 id, .int .i64 sn, .bool st, .slice p3 L3.length c3, .slice p4 t.W.length c4]) := (show _ = _ by rw [hr]; rfl)
    have B3 : Hid (Blk w3 N 41 (RC zr)) := (show Blk _ _ _ _ from b1.out.kept G3.out)
    refine wpSeq_val rfl (.agg (RC r).toArray) (by
      rw [HRC.out]
      simp only [execOp, List.map_toArray, List.map_cons, List.map_nil, Sem.run_bind, Sem.run_pure]
      exact congrArg (fun r => Result.andThen r _) (build_rec id sn st p3 p4 L3.length c3 t.W.length c4 _)) ?_
    refine ⟨rfl, ?_⟩
    refine wp_store_blk 41 _ _ rfl N (RC zr) (RC r) 41 rfl rfl B3.out rfl Tryz.size41 (RC_one r) ?_
    intro w4 hb4 hu4
    refine ⟨_, rfl, ?_⟩
    refine wpSeq_val rfl (.bool true) (by simp only [execOp]; rfl) ?_
    simp only [wpSeq]
    have B4 := hide hb4
    have U4 := hide hu4
    clear hb4 hu4
    go_wp2_with fail
    refine bodyPost_ret (results_rec rfl _ _ N r true rfl rfl B4.out) rfl ⟨⟨r, rfl, ?_⟩, ?_⟩
    · have hC : Chg (fun k => k = N) w3 w4 := Chg.of_but U4.out rfl
      have hne : ∀ {T : TypeId} {cs : Array Value} {k : Nat} {p : Nat × Nat}, w3.heap[k]? = some (.cells cs T p) → T ≠ 41 → ¬ k = N := fun h hT e => cells_ne h B3.out hT e
      have o4 : OwnR9 w4 N (.slice p3 L3.length c3) L3 := ⟨O3.out.row.chg hC (fun k hk => by obtain ⟨_, _, cur, hc⟩ := O3.out.row.block hk; exact hne hc (by decide)), fun y hy => (O3.out.ps y hy).chg hC (fun k hk => by obtain ⟨_, _, cur, hc⟩ := (O3.out.ps y hy).block hk; exact hne hc (by decide))⟩
      have o5 : OwnG PE w4 N 51 (.slice p4 t.W.length c4) t.W := O4.out.chg hC (fun k hk => by obtain ⟨_, _, cur, hc⟩ := OwnG.block O4.out hk; exact hne hc (by decide))
      rw [HN.out]
      subst hr
      exact ⟨rfl, HSN.out.symm, HST.out.symm, o4, P3.out, o5, rfl⟩
    · rw [HN.out]
      have hl1 : Below N w w1 := l1.out.mono (Nat.le_of_eq HN.out.symm)
      have hN1 : N ≤ w1.heap.size := by have := l1.out.size; have := HN.out; omega
      exact (hl1.trans (G3.out.mono hN1)).trans (U4.out.below (Nat.le_refl _) (Nat.le_trans hN1 G3.out.size))
end Go.Proofs.YtcicekggeampcaaGreat

/-
  package session: what the calls do of a session that no call made, or that has no transaction.
-/
namespace Go.Proofs.YtcicekggeampcaaGreat
open Go.RowKit
set_option maxRecDepth 100000 in
theorem zAct_no {w : World} {B X : Nat} {id : Int} (h : SesAt w B X id none) : Calls Tryz.prog 43 #[PT X] w fun e w' => e = .returned (.int .i64 9) ∧ w' = w := by
  have CM := hide (zMade_any h.x h.id.1)
  have CO := hide (zOpen_any h)
  clear h
  go_enter Tryz.func43, Tryz.ntmps43
  go_wp2_with fail
  refine CM.out.mono ?_
  rintro e w_ ⟨rfl, hw⟩
  subst w_
  go_wp2_with fail
  refine CO.out.mono ?_
  rintro e w_ ⟨rfl, hw⟩
  subst w_
  go_wp2_with fail
  go_ret
  exact ⟨rfl, rfl⟩
set_option maxRecDepth 100000 in
theorem zGet_no {w : World} {B X : Nat} {id : Int} (h : SesAt w B X id none) (x : Value) (k : ByteArray) : Calls Tryz.prog 18 #[PT X, x, .string k] w fun e w' => e = .returned (.tuple #[.string ⟨#[]⟩, .int .i64 9]) ∧ w' = w := by
  have CA := hide (zAct_no h)
  clear h
  go_enter Tryz.func18, Tryz.ntmps18
  go_wp2_with fail
  refine CA.out.mono ?_
  rintro e w_ ⟨rfl, hw⟩
  subst w_
  go_wp2_with fail
  go_ret2
  exact ⟨rfl, rfl⟩
set_option maxRecDepth 100000 in
theorem zPut_no {w : World} {B X : Nat} {id : Int} (h : SesAt w B X id none) (k y : ByteArray) : Calls Tryz.prog 17 #[PT X, .string k, .string y] w fun e w' => e = .returned (.int .i64 9) ∧ w' = w := by
  have CA := hide (zAct_no h)
  clear h
  go_enter Tryz.func17, Tryz.ntmps17
  go_wp2_with fail
  refine CA.out.mono ?_
  rintro e w_ ⟨rfl, hw⟩
  subst w_
  go_wp2_with fail
  go_ret
  exact ⟨rfl, rfl⟩
set_option maxRecDepth 100000 in
theorem zDrop_no {w : World} {B X : Nat} {id : Int} (h : SesAt w B X id none) (k : ByteArray) : Calls Tryz.prog 22 #[PT X, .string k] w fun e w' => e = .returned (.int .i64 9) ∧ w' = w := by
  have CA := hide (zAct_no h)
  clear h
  go_enter Tryz.func22, Tryz.ntmps22
  go_wp2_with fail
  refine CA.out.mono ?_
  rintro e w_ ⟨rfl, hw⟩
  subst w_
  go_wp2_with fail
  go_ret
  exact ⟨rfl, rfl⟩
set_option maxRecDepth 100000 in
theorem zScan_no {w : World} {B X : Nat} {id : Int} (h : SesAt w B X id none) (x : Value) (a b : ByteArray) : Calls Tryz.prog 24 #[PT X, x, .string a, .string b] w fun e w' => e = .returned (.tuple #[.slice none 0 0, .int .i64 9]) ∧ w' = w := by
  have CA := hide (zAct_no h)
  clear h
  go_enter Tryz.func24, Tryz.ntmps24
  go_wp2_with fail
  refine CA.out.mono ?_
  rintro e w_ ⟨rfl, hw⟩
  subst w_
  go_wp2_with fail
  go_ret2
  exact ⟨rfl, rfl⟩
theorem zRec_none {w : World} {B X : Nat} {id : Int} (h : SesAt w B X id none) : Calls Tryz.prog 10 #[PT X] w fun e w' => e = .returned (.tuple #[.agg (RC zr).toArray, .bool false]) ∧ Below w.heap.size w w' := zRec_no (fun _ hW => zOpen_any (h.kept hW))
end Go.Proofs.YtcicekggeampcaaGreat

/-
  A store and a session beside each other: Begin, Close, Install.
-/
namespace Go.Proofs.YtcicekggeampcaaGreat
open Go.RowKit
theorem Duo.new {w0 w1 w2 : World} {D X : Nat} {id : Int} (h : LS w0 w1 D 0 sp0 (fun _ => False)) (hs : SesAt w2 w1.heap.size X id none) (hb : Below w1.heap.size w1 w2) : Duo w0 w2 D 0 sp0 X id none :=
  ⟨h.more hb (fun b hb' => .inr (by cases hb'; exact ⟨hs.lo, hs.x.lt⟩)), ⟨hs.x, Nat.le_trans h.lo.size hs.lo, hs.id, fun _ _ e => by cases e⟩⟩
theorem Duo.begin {w0 w : World} {D i : Nat} {s : SP} {X : Nat} {id : Int} (h : Duo w0 w D i s X id none) (hi : i ≤ 1000) (st : Bool) :
    Calls Tryz.prog 16 #[PT X, PT D, .bool st] w fun e w' => e = .returned (.int .i64 0) ∧ ∃ b, Duo w0 w' D i s X id (some (b, ⟨s.last, st, [], [], 0⟩)) ∧ Chg (fun k => k = X) w w' ∧ ∀ k, b.G k → w.heap.size ≤ k := by
  refine (zBegin_any h.ls hi h.ss st).mono ?_
  rintro e w' ⟨rfl, b, h1, h2, h3⟩
  exact ⟨rfl, b, h.step h1 h2 (fun k hk => hk) (fun k hk => hk.imp (fun h => h) (h3 k)), h2, h3⟩
/-- What a store's calls may change is none of O, and no block of cells of other types. -/
structure StoreF (w : World) (O F : Nat → Prop) : Prop where
  off : ∀ b, O b → ¬ F b
  cells : ∀ b cs T p, w.heap[b]? = some (.cells cs T p) → T ≠ 65 → T ≠ 9 → ¬ F b
theorem LS.installF {w wr : World} {D i : Nat} {s : SP} {O : Nat → Prop} (h : LS w wr D i s O) (hi : i ≤ 1000) {vl : Value} {L : List Pr} (hr : RdG PE wr vl L) (hL : L.length ≤ 60) (hap : ∀ b, InB vl b → b < w.heap.size) (n : Int) :
    Calls Tryz.prog 29 #[.pointer (some ⟨D, 0, none⟩), .int .i64 n, vl] wr fun e w' => e = .returned (.int .i64 (if instOk s n L = true then 0 else 2)) ∧ LS w w' D (i + 1) (instP s n L) O ∧ ∃ F, StoreF wr O F ∧ Chg F wr w' ∧ ∀ b, F b → w.heap.size ≤ b := by
  obtain ⟨M, vk, ks, h1, h2, h3, h0⟩ := h
  refine (install_any h1.st hr (fun b hb hm => by have := h1.mine hm; have := hap b hb; omega) (by omega) (by omega) n).mono ?_
  rintro e w' ⟨he, vk', ks', h4, h5, h6, h7⟩
  refine ⟨he, ⟨M, vk', ks', h1.act h4 h6 h7, by omega, inst_last h3, fun b hb => mine_new (h0 b hb) h6.size h7⟩, Mine D M vk, ⟨fun b hb => (h0 b hb).2, fun b cs T p hb hT h9 hm => ?_⟩, h6, fun b hb => h1.mine hb⟩
  rcases hm with rfl | rfl | hm
  · exact cells_ne hb h1.st.d hT rfl
  · exact cells_map hb h1.st.mp.block rfl
  · obtain ⟨_, _, cur, hc⟩ := h1.st.kk.block hm
    exact cells_ne hb hc h9 rfl
end Go.Proofs.YtcicekggeampcaaGreat
