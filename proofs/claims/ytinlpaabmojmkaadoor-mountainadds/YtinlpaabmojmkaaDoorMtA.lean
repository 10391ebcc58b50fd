/-
  mountain.Peaks.Add: what the call does.
-/
import Derived.Test.YtinlpaabmojmkaaDoorMtG
import Derived.Test.YtinlpaabmojmkaaDoorMtC
import Derived.Test.YtinlpaabmojmkaaDoorGR9
namespace Go.Proofs.YtinlpaabmojmkaaDoor
open Go.RowKit
/-- May a tree of this size, with as many peaks, have one leaf more? -/
def addOk (s : Int) (n : Nat) : Bool := goodB s n && !decide (s = 1099511627776)
def addS (s : Int) (n : Nat) : Int := if addOk s n = true then s + 1 else s
/-- The peaks with one leaf more. -/
def addT (s : Int) (L : List Hs) (h : Hs) : List Hs := if addOk s L.length = true then (carry nd s.toNat L.reverse h).reverse else L
/-- A peaks' value with a row of its own. -/
def OPk (N : Nat) (e : TypeId) (s : Int) (L : List Hs) (w : World) (x : Value) : Prop := ∃ a n c, x = .agg #[.int .i64 s, .slice a n c] ∧ OwnG HE w N e (.slice a n c) L
theorem OPk.kept {N : Nat} {e : TypeId} {s : Int} {L : List Hs} (w w' : World) (x : Value) (hg : Gr w w') (h : OPk N e s L w x) : OPk N e s L w' x := by
  obtain ⟨a, n, c, rfl, ho⟩ := h
  exact ⟨a, n, c, rfl, ho.kept hg⟩
theorem Tryd.sizeP : (Tryd.prog.info? 25).map (·.size) = some 2 := by kernel_rfl
theorem results_peaks {P : Program} {fn : Func} {p u : Tmp} {ty : TypeId} (h : fn.results = #[.cell p ty, .tmp u]) (tmps : Array Value) (w : World) (g : Nat) (T : TypeId) (cs : List Value) (b : Value) {d : TypeDesc}
    (hp : tmps.getD p undef = .pointer (some ⟨g, 0, none⟩)) (hb : tmps.getD u undef = b) (hB : Blk w g T cs) (hu : P.underlying ty = some d) (hd : d.isRow = true) (hi : (P.info? ty).map (·.size) = some cs.length) : (results fn tmps).run P w = .ok (.tuple #[.agg cs.toArray, b]) w := by
  rw [results_cell_tmp h, hp, hb]
  have := run_loadVar_mid (P := P) w g 0 ty cs d hB.range0 hu hd hi
  simp [asAddr, this]
/-- A new row of one hash. -/
theorem hash_new (w : World) (x : Hs) : ∃ w1, (Instr.buildSlice 22 1 #[(0, HV x)]).run Tryd.prog w = .ok (.slice (some ⟨w.heap.size, 0, none⟩) 1 1) w1 ∧ Gr w w1 ∧ RdG HE w1 (.slice (some ⟨w.heap.size, 0, none⟩) 1 1) [x] := by
  obtain ⟨w1, h1, h2, b, cap, e, hb, hc, hx⟩ := hashes_new w [x.1] (by simp [x.2]) (by simp) (by simp)
  simp only [List.length_singleton, Value.slice.injEq, Option.some.injEq, Addr.mk.injEq, and_true] at e
  obtain ⟨rfl, -, rfl⟩ := e
  refine ⟨w1, h1, h2, some ⟨w.heap.size, 0, none⟩, 1, rfl, by simp, by simp [maxLen], fun h => by simp at h, fun _ => ⟨w.heap.size, 0, rfl, hb, fun j u hj => ?_⟩⟩
  have := hx 0 (by simp) j u (by simpa [HE, Enc.cs] using hj)
  simpa using this
theorem boxes9 {w w0 : World} {N : Nat} {c0 c1 c2 : List Value} {T0 T1 T2 : TypeId} (HN : Hid (w.heap.size = N)) (hw : w0 = ((w.alloc (.cells c0.toArray T0 (0, 0))).alloc (.cells c1.toArray T1 (0, 0))).alloc (.cells c2.toArray T2 (0, 0))) :
    Blk w0 N T0 c0 ∧ Blk w0 (N + 1) T1 c1 ∧ Blk w0 (N + 1 + 1) T2 c2 ∧ Below N w w0 := by
  subst hw
  have h1 := Blk.new w T0 c0
  have h2 := Blk.new (w.alloc (.cells c0.toArray T0 (0, 0))) T1 c1
  have h3 := Blk.new ((w.alloc (.cells c0.toArray T0 (0, 0))).alloc (.cells c1.toArray T1 (0, 0))) T2 c2
  rw [show (w.alloc (.cells c0.toArray T0 (0, 0))).heap.size = N + 1 by simp [HN.out]] at h2
  rw [show ((w.alloc (.cells c0.toArray T0 (0, 0))).alloc (.cells c1.toArray T1 (0, 0))).heap.size = N + 1 + 1 by simp [HN.out]] at h3
  rw [HN.out] at h1
  exact ⟨(h1.alloc _).alloc _, h2.alloc _, h3, (((Below.refl _ _).alloc (by rw [HN.out]; exact Nat.le_refl _) _).alloc (by simp [HN.out]) _).alloc (by simp [HN.out]; omega) _⟩
theorem carry_even {c : Nat} (h : c % 2 = 0) (T : List Hs) (x : Hs) : (carry nd c T.reverse x).reverse = T ++ [x] := by
  cases hT : T.reverse with
  | nil =>
    have : T = [] := by simpa using hT
    subst this
    rfl
  | cons t R =>
    rw [carry, if_neg (by omega), List.reverse_cons, ← hT, List.reverse_reverse]
theorem carry_odd {c k : Nat} (h : c % 2 = 1) (L : List Hs) (hk : k < L.length) (x : Hs) : carry nd c (L.take (k + 1)).reverse x = carry nd (c / 2) (L.take k).reverse (nd L[k] x) := by
  rw [List.take_add_one, List.getElem?_eq_getElem hk, Option.toList_some, List.reverse_append, List.reverse_singleton, List.singleton_append, carry, if_pos h]
theorem rangeAt_kept9 {w w' : World} {b off : Nat} {cs : List Value} (h : w.rangeAt b off cs) (hb : b < w.heap.size) (hg : Below w.heap.size w w') : w'.rangeAt b off cs :=
  fun j u hj => (hg.cell (p := ⟨b, off + j, none⟩) hb).trans (h j u hj)
theorem bits_pop {c : Nat} (h : c < 9223372036854775808) : (bitsFrom 63 c).length = c % 2 + (bitsFrom 63 (c / 2)).length := by
  rw [bits_half 62 c (by omega), bits_any (k := 62) (k' := 63) (by omega) (by omega)]
set_option maxHeartbeats 4000000 in
set_option maxRecDepth 100000 in
theorem add_any (s : Int) (t : Value) (L : List Hs) (h : Hs) (h1 : s ≤ 9223372036854775807) (hlb : L.length ≤ 100000) (w : World) (hT : Tabs w) (hr : RdG HE w t L) :
    Calls Tryd.prog 13 #[.agg #[.int .i64 s, t], HV h] w fun e w' => ∃ t', e = .returned (.tuple #[.agg #[.int .i64 (addS s L.length), t'], .bool (addOk s L.length)]) ∧ OwnG HE w' w.heap.size 30 t' (addT s L h) ∧ Below w.heap.size w w' := by
  have R := hide hr
  have hcap := hr.cap'
  obtain ⟨a, cp, rfl⟩ := hr.slice
  have hcp := hr.cap
  have HLB := hide hlb
  obtain ⟨n, HN⟩ : ∃ n, Hid (L.length = n) := ⟨_, rfl⟩
  rw [HN.out] at R hcap hcp ⊢
  have HT := hide hT
  clear hr hT hlb
  obtain ⟨N, HNw⟩ : ∃ N, Hid (w.heap.size = N) := ⟨_, rfl⟩
  have HNT : Hid (2 ≤ N) := (show _ by rw [← HNw.out]; exact HT.out.size)
  go_enter Tryd.func13, Tryd.ntmps13
  go_upto_region 1 with fail
  obtain ⟨w0, hw0⟩ : ∃ z, z = ((w.alloc (.cells [.int .i64 s, .slice a n cp].toArray 25 (0, 0))).alloc (.cells (By h.1).toArray 30 (0, 0))).alloc (.cells [.int .i64 0, .slice none 0 0].toArray 25 (0, 0)) := ⟨_, rfl⟩
  change Code.wp _ _ _ _ (((w.alloc (.cells [.int .i64 s, .slice a n cp].toArray 25 (0, 0))).alloc (.cells (By h.1).toArray 30 (0, 0))).alloc (.cells [.int .i64 0, .slice none 0 0].toArray 25 (0, 0)))
  rw [← hw0, HNw.out]
  obtain ⟨b0, b1, b2, ln⟩ := boxes9 HNw hw0
  have r0 := R.out.kept (by rw [HNw.out]; exact ln)
  clear hw0
  have CG := good_any s (.slice a n cp) L h1 w0 r0
  rw [HN.out] at CG
  have D0 := hide b0
  go_wp2_with (first
    | (refine wpList_load_mid rfl 25 _ rfl N 0 rfl [.int .i64 s, .slice a n cp] _ D0.out.range0 Tryd.underlying25 rfl Tryd.sizeP ?_)
    | fail)
  refine CG.mono ?_
  clear CG
  rintro e w1 ⟨rfl, hb1⟩
  have LN : Hid (Below N w w1) := ln.trans (hb1.mono (Nat.le_trans (by omega) (Nat.le_of_lt b2.lt)))
  have B0 := hide (b0.kept hb1)
  have B1 := hide (b1.kept hb1)
  have B2 := hide (b2.kept hb1)
  have R0 := hide (r0.kept hb1)
  have c0 : w1.cell? ⟨N, 0, none⟩ = some (.int .i64 s) := B0.out.cell (j := 0) rfl
  have c1 : w1.cell? ⟨N, 1, none⟩ = some (.slice a n cp) := B0.out.cell (j := 1) rfl
  clear b0 b1 b2 r0 ln hb1 D0
  cases hgd : goodB s n with
  | false =>
    have HA : Hid (addOk s n = false) := (show _ = _ by unfold addOk; rw [hgd]; rfl)
    have HGD := hide hgd
    clear hgd
    go_upto_region 2 with fail
    refine wp_region_tails Tryd.mixed (KS (fun i_ => match i_ with | 0 => .val (.pointer (some ⟨N, 0, none⟩)) | 1 => .val (.int .i64 s) | 2 => .val (.pointer (some ⟨N, 1, none⟩)) | 3 => .val (.slice a n cp) | 4 => .of (fun w v_ => OwnG HE w N 30 v_ (L)) (fun _ _ _ hg h => OwnG.kept h hg) | 5 => .of (OPk N 30 (s) (L)) (OPk.kept) | _ => .free)) 52 rfl (by decide +kernel) 6 (by decide) (by decide +kernel) (KS_mono _) ?_ ?_
    · refine AllFrom.cons ⟨rfl, fun a' w' hg hk hd => ?_⟩ (AllFrom.cons ⟨rfl, fun a' w' hg hk hd => ?_⟩ (AllFrom.cons ⟨rfl, fun a' w' hg hk hd => ?_⟩ (AllFrom.cons ⟨rfl, fun a' w' hg hk hd => ?_⟩ (AllFrom.cons ⟨rfl, fun a' w' hg hk hd => ?_⟩ (AllFrom.cons ⟨rfl, fun a' w' hg hk hd => ?_⟩ AllFrom.nil)))))
      · -- 0: Op.fieldAddr 25 (Operand.tmp 2) 0
        intro Q
        have e2 : a'.eval (.tmp 2) = .pointer (some ⟨N, 0, none⟩) := hk.at 2 (by decide +kernel)
        clear hd hk
        exact wp_value (.pointer (some ⟨N, 0, none⟩)) (by simp only [execOp, e2]; go_simp) (KS_mkv rfl rfl)
      · -- 1: Op.load 3 (Operand.tmp 16)
        intro Q
        have e16 : a'.eval (.tmp 16) = .pointer (some ⟨N, 0, none⟩) := KS_val (hd.val 0 16 (by decide +kernel)) rfl
        have hc := (B0.out.kept hg).cell (j := 0) rfl
        clear hd hk
        exact wp_value (.int .i64 s) (by simp only [execOp, e16]; go_simp) (KS_mkv rfl rfl)
      · -- 2: Op.fieldAddr 25 (Operand.tmp 2) 1
        intro Q
        have e2 : a'.eval (.tmp 2) = .pointer (some ⟨N, 0, none⟩) := hk.at 2 (by decide +kernel)
        clear hd hk
        exact wp_value (.pointer (some ⟨N, 1, none⟩)) (by simp only [execOp, e2]; go_simp) (KS_mkv rfl rfl)
      · -- 3: Op.load 22 (Operand.tmp 18)
        intro Q
        have e18 : a'.eval (.tmp 18) = .pointer (some ⟨N, 1, none⟩) := KS_val (hd.val 2 18 (by decide +kernel)) rfl
        have hc := (B0.out.kept hg).cell (j := 1) rfl
        clear hd hk
        exact wp_value (.slice a n cp) (by simp only [execOp, e18]; go_simp) (KS_mkv rfl rfl)
      · -- 4: Op.call ( callee := Callee.value (Operand.func 26), args := #[Operand.
        intro Q
        have e19 : a'.eval (.tmp 19) = .slice a n cp := KS_val (hd.val 3 19 (by decide +kernel)) rfl
        refine wp_call 26 _ (run_enter 26 _ _ rfl (by kernel_rfl)) ?_
        simp only [List.map_toArray, List.map_nil, List.map_cons, e19]
        refine (behind_any _ _ L [] _ ((R0.out.kept hg)) (RdG_nil _) (by have := HLB.out; simp; omega)).mono ?_
        rintro e w5 ⟨v5, rfl, ho5, hb5⟩
        rw [List.append_nil] at ho5
        exact ⟨_, rfl, KS_mko rfl (ho5.mono (Nat.le_trans (Nat.le_of_lt (by have := B0.out.lt; omega)) hg.size)), hb5⟩
      · -- 5: Op.build 25 #[(0, Operand.tmp 17), (1, Operand.tmp 20)]
        intro Q
        have e17 : a'.eval (.tmp 17) = .int .i64 s := KS_val (hd.val 1 17 (by decide +kernel)) rfl
        have r20 := KS_of (hd.val 4 20 (by decide +kernel)) rfl
        obtain ⟨a6, c6, f20⟩ := r20.rd.slice
        rw [f20] at r20
        exact wp_value (.agg #[.int .i64 s, .slice a6 L.length c6]) (by clear hd hk; simp only [execOp, e17, f20, List.map_toArray, List.map_cons, List.map_nil]; go_simp) (KS_mko rfl ⟨_, _, _, rfl, r20⟩)
    · intro a' w' hsz hdf hk hall hg
      obtain ⟨a6, n6, c6, e21, o21⟩ := KS_of (hall 5 _ 21 (by decide) rfl rfl) rfl
      have ep : a'.eval (.tmp 4) = .pointer (some ⟨N + 1 + 1, 0, none⟩) := hk.at 4 (by decide +kernel)
      have O2 := B2.out.kept hg
      have s0 : a'.tmps.size = 52 := hsz
      have d0 : a'.defers = [] := hdf
      have L3 : Below N w w' := LN.out.trans (Below.mono hg (Nat.le_trans (by omega) (Nat.le_of_lt B2.out.lt)))
      have o3 : OwnG HE w' N 30 (.slice a6 n6 c6) (L) := o21
      refine ⟨rfl, ?_⟩
      refine wp_store_blk 25 _ _ rfl (N + 1 + 1) _ [.int .i64 (s), .slice a6 n6 c6] 25 ep e21 O2 rfl Tryd.sizeP (by simp [Value.oneCell']) ?_
      intro w2 hb2 hu2
      refine ⟨undef, rfl, rfl, ?_⟩
      refine ⟨.bool false, rfl, ?_⟩
      show Exit.then _ _ Exit.normal ((a'.put none undef).put (some 5) (.bool false)) w2
      have e4 : ((a'.put none undef).put (some 5) (.bool false)).eval (.tmp 4) = .pointer (some ⟨N + 1 + 1, 0, none⟩) := by rw [eval_put_other (by simp), eval_put_other (by simp)]; exact ep
      have e5 : ((a'.put none undef).put (some 5) (.bool false)).eval (.tmp 5) = .bool false := eval_put_same (by rw [put_size]; omega)
      have d1 : ((a'.put none undef).put (some 5) (.bool false)).defers = [] := by rw [put_defers', put_defers']; exact d0
      generalize (a'.put none undef).put (some 5) (.bool false) = af at e4 e5 d1 ⊢
      clear hk hall hsz hdf
      have o4 : OwnG HE w2 N 30 (.slice a6 n6 c6) (L) := o3.chg (F := fun b => b = N + 1 + 1) (Chg.of_but hu2 rfl) (fun b hb e => by
        subst e
        obtain ⟨_, _, cur, hcur⟩ := o3.block hb
        have := O2.symm.trans hcur
        simp at this)
      go_wp2_with fail
      refine bodyPost_ret (results_peaks rfl _ _ (N + 1 + 1) _ [.int .i64 (s), .slice a6 n6 c6] (.bool false) e4 e5 hb2 Tryd.underlying25 rfl Tryd.sizeP) d1 ⟨.slice a6 n6 c6, by rw [HA.out]; unfold addS; rw [HA.out]; rfl, by rw [HNw.out]; unfold addT; rw [HN.out, HA.out]; exact o4, by rw [HNw.out]; exact L3.trans (hu2.below (by omega) (by have := O2.lt; omega))⟩
  | true =>
    by_cases h40 : s = 1099511627776
    · have HA : Hid (addOk s n = false) := (show _ = _ by unfold addOk; rw [hgd, h40]; rfl)
      have HGD := hide hgd
      clear hgd
      go_upto_region 2 with fail
      refine wp_region_tails Tryd.mixed (KS (fun i_ => match i_ with | 0 => .val (.pointer (some ⟨N, 0, none⟩)) | 1 => .val (.int .i64 s) | 2 => .val (.pointer (some ⟨N, 1, none⟩)) | 3 => .val (.slice a n cp) | 4 => .of (fun w v_ => OwnG HE w N 30 v_ (L)) (fun _ _ _ hg h => OwnG.kept h hg) | 5 => .of (OPk N 30 (s) (L)) (OPk.kept) | _ => .free)) 52 rfl (by decide +kernel) 6 (by decide) (by decide +kernel) (KS_mono _) ?_ ?_
      · refine AllFrom.cons ⟨rfl, fun a' w' hg hk hd => ?_⟩ (AllFrom.cons ⟨rfl, fun a' w' hg hk hd => ?_⟩ (AllFrom.cons ⟨rfl, fun a' w' hg hk hd => ?_⟩ (AllFrom.cons ⟨rfl, fun a' w' hg hk hd => ?_⟩ (AllFrom.cons ⟨rfl, fun a' w' hg hk hd => ?_⟩ (AllFrom.cons ⟨rfl, fun a' w' hg hk hd => ?_⟩ AllFrom.nil)))))
        · -- 0: Op.fieldAddr 25 (Operand.tmp 2) 0
          intro Q
          have e2 : a'.eval (.tmp 2) = .pointer (some ⟨N, 0, none⟩) := hk.at 2 (by decide +kernel)
          clear hd hk
          exact wp_value (.pointer (some ⟨N, 0, none⟩)) (by simp only [execOp, e2]; go_simp) (KS_mkv rfl rfl)
        · -- 1: Op.load 3 (Operand.tmp 16)
          intro Q
          have e16 : a'.eval (.tmp 16) = .pointer (some ⟨N, 0, none⟩) := KS_val (hd.val 0 16 (by decide +kernel)) rfl
          have hc := (B0.out.kept hg).cell (j := 0) rfl
          clear hd hk
          exact wp_value (.int .i64 s) (by simp only [execOp, e16]; go_simp) (KS_mkv rfl rfl)
        · -- 2: Op.fieldAddr 25 (Operand.tmp 2) 1
          intro Q
          have e2 : a'.eval (.tmp 2) = .pointer (some ⟨N, 0, none⟩) := hk.at 2 (by decide +kernel)
          clear hd hk
          exact wp_value (.pointer (some ⟨N, 1, none⟩)) (by simp only [execOp, e2]; go_simp) (KS_mkv rfl rfl)
        · -- 3: Op.load 22 (Operand.tmp 18)
          intro Q
          have e18 : a'.eval (.tmp 18) = .pointer (some ⟨N, 1, none⟩) := KS_val (hd.val 2 18 (by decide +kernel)) rfl
          have hc := (B0.out.kept hg).cell (j := 1) rfl
          clear hd hk
          exact wp_value (.slice a n cp) (by simp only [execOp, e18]; go_simp) (KS_mkv rfl rfl)
        · -- 4: Op.call ( callee := Callee.value (Operand.func 26), args := #[Operand.
          intro Q
          have e19 : a'.eval (.tmp 19) = .slice a n cp := KS_val (hd.val 3 19 (by decide +kernel)) rfl
          refine wp_call 26 _ (run_enter 26 _ _ rfl (by kernel_rfl)) ?_
          simp only [List.map_toArray, List.map_nil, List.map_cons, e19]
          refine (behind_any _ _ L [] _ ((R0.out.kept hg)) (RdG_nil _) (by have := HLB.out; simp; omega)).mono ?_
          rintro e w5 ⟨v5, rfl, ho5, hb5⟩
          rw [List.append_nil] at ho5
          exact ⟨_, rfl, KS_mko rfl (ho5.mono (Nat.le_trans (Nat.le_of_lt (by have := B0.out.lt; omega)) hg.size)), hb5⟩
        · -- 5: Op.build 25 #[(0, Operand.tmp 17), (1, Operand.tmp 20)]
          intro Q
          have e17 : a'.eval (.tmp 17) = .int .i64 s := KS_val (hd.val 1 17 (by decide +kernel)) rfl
          have r20 := KS_of (hd.val 4 20 (by decide +kernel)) rfl
          obtain ⟨a6, c6, f20⟩ := r20.rd.slice
          rw [f20] at r20
          exact wp_value (.agg #[.int .i64 s, .slice a6 L.length c6]) (by clear hd hk; simp only [execOp, e17, f20, List.map_toArray, List.map_cons, List.map_nil]; go_simp) (KS_mko rfl ⟨_, _, _, rfl, r20⟩)
      · intro a' w' hsz hdf hk hall hg
        obtain ⟨a6, n6, c6, e21, o21⟩ := KS_of (hall 5 _ 21 (by decide) rfl rfl) rfl
        have ep : a'.eval (.tmp 4) = .pointer (some ⟨N + 1 + 1, 0, none⟩) := hk.at 4 (by decide +kernel)
        have O2 := B2.out.kept hg
        have s0 : a'.tmps.size = 52 := hsz
        have d0 : a'.defers = [] := hdf
        have L3 : Below N w w' := LN.out.trans (Below.mono hg (Nat.le_trans (by omega) (Nat.le_of_lt B2.out.lt)))
        have o3 : OwnG HE w' N 30 (.slice a6 n6 c6) (L) := o21
        refine ⟨rfl, ?_⟩
        refine wp_store_blk 25 _ _ rfl (N + 1 + 1) _ [.int .i64 (s), .slice a6 n6 c6] 25 ep e21 O2 rfl Tryd.sizeP (by simp [Value.oneCell']) ?_
        intro w2 hb2 hu2
        refine ⟨undef, rfl, rfl, ?_⟩
        refine ⟨.bool false, rfl, ?_⟩
        show Exit.then _ _ Exit.normal ((a'.put none undef).put (some 5) (.bool false)) w2
        have e4 : ((a'.put none undef).put (some 5) (.bool false)).eval (.tmp 4) = .pointer (some ⟨N + 1 + 1, 0, none⟩) := by rw [eval_put_other (by simp), eval_put_other (by simp)]; exact ep
        have e5 : ((a'.put none undef).put (some 5) (.bool false)).eval (.tmp 5) = .bool false := eval_put_same (by rw [put_size]; omega)
        have d1 : ((a'.put none undef).put (some 5) (.bool false)).defers = [] := by rw [put_defers', put_defers']; exact d0
        generalize (a'.put none undef).put (some 5) (.bool false) = af at e4 e5 d1 ⊢
        clear hk hall hsz hdf
        have o4 : OwnG HE w2 N 30 (.slice a6 n6 c6) (L) := o3.chg (F := fun b => b = N + 1 + 1) (Chg.of_but hu2 rfl) (fun b hb e => by
          subst e
          obtain ⟨_, _, cur, hcur⟩ := o3.block hb
          have := O2.symm.trans hcur
          simp at this)
        go_wp2_with fail
        refine bodyPost_ret (results_peaks rfl _ _ (N + 1 + 1) _ [.int .i64 (s), .slice a6 n6 c6] (.bool false) e4 e5 hb2 Tryd.underlying25 rfl Tryd.sizeP) d1 ⟨.slice a6 n6 c6, by rw [HA.out]; unfold addS; rw [HA.out]; rfl, by rw [HNw.out]; unfold addT; rw [HN.out, HA.out]; exact o4, by rw [HNw.out]; exact L3.trans (hu2.below (by omega) (by have := O2.lt; omega))⟩
    · have HA : Hid (addOk s n = true) := (show _ = _ by unfold addOk; rw [hgd, decide_eq_false h40]; rfl)
      have hs0 : 0 ≤ s ∧ s ≤ 1099511627776 ∧ n = (bitsFrom 63 s.toNat).length := by
        unfold goodB at hgd
        simp only [Bool.and_eq_true, decide_eq_true_eq] at hgd
        exact ⟨hgd.1.1, hgd.1.2, hgd.2⟩
      obtain ⟨hs0, hs40, hbn⟩ := hs0
      have HBN := hide hbn
      have HGD := hide hgd
      have HTL : Hid (addT s L h = (carry nd s.toNat L.reverse h).reverse) := (show _ = _ by unfold addT; rw [HN.out, HA.out]; rfl)
      have hsn : ((s.toNat : Nat) : Int) = s := by omega
      have HSN := hide hsn
      have q40 : (s == (1099511627776 : Int)) = false := by simpa using h40
      have T1 : Hid (Tabs w1) := HT.out.kept (LN.out.mono HNT.out)
      clear hgd hbn hsn
      go_wp2_with fail
      go_loopg [6, 7] (n + 1) (fun g y z wr => ∃ (k c : Nat) (x : Hs), g = k + 1 ∧ y = .int .i64 (k : Int) ∧ z = .int .i64 (c : Int) ∧ k ≤ n ∧ c ≤ 1099511627776 ∧ Hid ((bitsFrom 63 c).length = k) ∧ Hid (carry nd s.toNat L.reverse h = carry nd c (L.take k).reverse x) ∧ Hid (Blk wr N 25 [.int .i64 s, .slice a n cp]) ∧ Hid (Blk wr (N + 1) 30 (By x.1)) ∧ Hid (Blk wr (N + 1 + 1) 25 [.int .i64 0, .slice none 0 0]) ∧ Hid (RdG HE wr (.slice a n cp) L) ∧ Hid (Below N w wr))
      case atStart => exact ⟨n, s.toNat, h, rfl, rfl, by rw [HSN.out], Nat.le_refl _, by omega, HBN.out.symm, (show _ = _ by rw [List.take_of_length_le (by rw [HN.out]; exact Nat.le_refl _)]), B0.out, B1.out, B2.out, R0.out, LN.out⟩
      case round =>
        clear c0 c1 B0 B1 B2 R0 LN T1
        obtain ⟨k, c, x, rfl, rfl, rfl, hkn, hc40, HK, HC, BR0, BR1, B2, R0, LN⟩ := hrel
        have ha := and_one (c : Int)
        have hpop := bits_pop (c := c) (by omega)
        rw [HK.out] at hpop
        have TR : Hid (Tabs wr) := HT.out.kept (LN.out.mono HNT.out)
        by_cases hodd : c % 2 = 1
        · obtain ⟨k, rfl⟩ : ∃ k', k = k' + 1 := ⟨k - 1, by omega⟩
          have ha1 : bits .and .i64 (c : Int) 1 = 1 := by rw [ha]; omega
          have HP : Hid ((bitsFrom 63 (c / 2)).length = k) := (show _ = _ by omega)
          have hkL : k < L.length := by rw [HN.out]; omega
          have HCO := hide (carry_odd hodd L hkL x)
          obtain ⟨b, off, rfl, hlb9, hx9⟩ := R0.out.nth (by omega)
          have hrk : wr.rangeAt b (off + k * 32) (By L[k].1) := hx9 k hkL
          generalize L[k] = y at *
          have e2 : (c : Int) / 2 = ((c / 2 : Nat) : Int) := by omega
          obtain ⟨c2, HC2⟩ : ∃ c2, Hid (c / 2 = c2) := ⟨_, rfl⟩
          have hc2 : c2 ≤ 1099511627776 := by have := HC2.out; omega
          rw [HC2.out] at e2 HP HCO
          have HODD := hide hodd
          have HPOP := hide hpop
          have q9 : (k : Int) < (n : Int) := by omega
          have q9' : ¬ n ≤ k := by omega
          clear ha hpop hodd hx9
          go_upto_region 8 with fail
          refine wp_region_tail Tryd.mixed (KS (fun i_ => match i_ with | 0 => .val (.pointer (some ⟨N, 1, none⟩)) | 1 => .val (.slice (some ⟨b, off, none⟩) n cp) | 2 => .val (.int .i64 (k : Int)) | 3 => .val (.pointer (some ⟨b, off + k * 32, none⟩)) | 4 => .val (HV y) | 5 => .val (HV x) | 6 => .val (HV (nd y x)) | _ => .free)) 52 rfl (by decide +kernel) 7 _ rfl (by decide +kernel) (KS_mono _) ?_ ?_
          · refine AllFrom.cons (fun a' w' hg hk hd => ?_) (AllFrom.cons (fun a' w' hg hk hd => ?_) (AllFrom.cons (fun a' w' hg hk hd => ?_) (AllFrom.cons (fun a' w' hg hk hd => ?_) (AllFrom.cons (fun a' w' hg hk hd => ?_) (AllFrom.cons (fun a' w' hg hk hd => ?_) (AllFrom.cons (fun a' w' hg hk hd => ?_) AllFrom.nil))))))
            · -- 0: Op.fieldAddr 25 (Operand.tmp 2) 1
              intro Q
              have e2 : a'.eval (.tmp 2) = .pointer (some ⟨N, 0, none⟩) := hk.at 2 (by decide +kernel)
              clear hd hk
              exact wp_value (.pointer (some ⟨N, 1, none⟩)) (by simp only [execOp, e2]; go_simp) (KS_mkv rfl rfl)
            · -- 1: Op.load 22 (Operand.tmp 34)
              intro Q
              have e34 : a'.eval (.tmp 34) = .pointer (some ⟨N, 1, none⟩) := KS_val (hd.val 0 34 (by decide +kernel)) rfl
              have hc := (BR0.out.kept hg).cell (j := 1) rfl
              clear hd hk
              exact wp_value (.slice (some ⟨b, off, none⟩) n cp) (by simp only [execOp, e34]; go_simp) (KS_mkv rfl rfl)
            · -- 2: Op.move (Operand.tmp 6)
              intro Q
              have e6 : a'.eval (.tmp 6) = .int .i64 (k : Int) := hk.at 6 (by decide +kernel)
              exact wp_value _ (by simp only [execOp, e6]; rfl) (KS_mkv rfl rfl)
            · -- 3: Op.indexAddr 22 (Operand.tmp 35) (Operand.tmp 36)
              intro Q
              have e35 : a'.eval (.tmp 35) = .slice (some ⟨b, off, none⟩) n cp := KS_val (hd.val 1 35 (by decide +kernel)) rfl
              have e36 : a'.eval (.tmp 36) = .int .i64 (k : Int) := KS_val (hd.val 2 36 (by decide +kernel)) rfl
              clear hd hk
              exact wp_value (.pointer (some ⟨b, off + k * 32, none⟩)) (by simp only [execOp, e35, e36]; go_simp) (KS_mkv rfl rfl)
            · -- 4: Op.load 30 (Operand.tmp 37)
              intro Q
              have e37 : a'.eval (.tmp 37) = .pointer (some ⟨b, off + k * 32, none⟩) := KS_val (hd.val 3 37 (by decide +kernel)) rfl
              exact wp_load_row 30 _ rfl _ _ e37 (By (y).1) _ (rangeAt_kept9 hrk hlb9 hg) Tryd.underlying30 rfl (Tryd.sizeH _) (KS_mkv rfl rfl)
            · -- 5: Op.load 30 (Operand.tmp 3)
              intro Q
              have e3 : a'.eval (.tmp 3) = .pointer (some ⟨N + 1, 0, none⟩) := hk.at 3 (by decide +kernel)
              exact wp_load_row 30 _ rfl _ _ e3 (By (x).1) _ ((BR1.out.kept hg).range0) Tryd.underlying30 rfl (Tryd.sizeH _) (KS_mkv rfl rfl)
            · -- 6: Op.call ( callee := Callee.value (Operand.func 23), args := #[Operand.
              intro Q
              have e38 : a'.eval (.tmp 38) = HV y := KS_val (hd.val 4 38 (by decide +kernel)) rfl
              have e39 : a'.eval (.tmp 39) = HV x := KS_val (hd.val 5 39 (by decide +kernel)) rfl
              refine wp_call 23 _ (run_enter 23 _ _ rfl (by kernel_rfl)) ?_
              simp only [List.map_toArray, List.map_nil, List.map_cons, e38, e39]
              refine (hnode_any _ _ _ (TR.out.gr hg)).mono ?_
              rintro e w5 ⟨rfl, hb5⟩
              exact ⟨_, rfl, KS_mkv rfl rfl, hb5⟩
          · intro a' w' hsz hdf hk hall hg
            have ev : a'.eval (.tmp 40) = HV (nd y x) := KS_val (hall 6 _ 40 (by decide) rfl rfl) rfl
            have ep : a'.eval (.tmp 3) = .pointer (some ⟨N + 1, 0, none⟩) := hk.at 3 (by decide +kernel)
            have M0 := BR0.out.kept hg
            have M1 := BR1.out.kept hg
            have M2 := B2.out.kept hg
            have MR := R0.out.kept hg
            have ML : Below N w w' := LN.out.trans (Below.mono hg (Nat.le_trans (by omega) (Nat.le_of_lt B2.out.lt)))
            refine wp_store_blk 30 _ _ rfl (N + 1) (By x.1) (By (nd y x).1) 30 ep ev M1 (by rw [By_len, By_len]) (Tryd.sizeH _) (By_one _) ?_
            intro w2 hb2 hu2
            have Q0 := hide (M0.but hu2 (by omega))
            have Q1 := hide hb2
            have Q2 := hide (M2.but hu2 (by omega))
            have QR : Hid (RdG HE w2 (.slice (some ⟨b, off, none⟩) n cp) L) := MR.chg (F := fun b => b = N + 1) (Chg.of_but hu2 rfl) (fun b' hb' e => by
              have h9 := R.out.inB_lt hb'
              rw [HNw.out] at h9
              omega)
            have QL : Hid (Below N w w2) := ML.trans (hu2.below (by omega) (by have := M1.lt; omega))
            clear M0 M1 M2 MR ML hb2 hu2 ev ep
            have e34 : a'.eval (.tmp 34) = .pointer (some ⟨N, 1, none⟩) := KS_val (hall 0 _ 34 (by decide) rfl rfl) rfl
            have e35 : a'.eval (.tmp 35) = .slice (some ⟨b, off, none⟩) n cp := KS_val (hall 1 _ 35 (by decide) rfl rfl) rfl
            have e36 : a'.eval (.tmp 36) = .int .i64 (k : Int) := KS_val (hall 2 _ 36 (by decide) rfl rfl) rfl
            have e37 : a'.eval (.tmp 37) = .pointer (some ⟨b, off + k * 32, none⟩) := KS_val (hall 3 _ 37 (by decide) rfl rfl) rfl
            have e38 : a'.eval (.tmp 38) = HV y := KS_val (hall 4 _ 38 (by decide) rfl rfl) rfl
            have e39 : a'.eval (.tmp 39) = HV x := KS_val (hall 5 _ 39 (by decide) rfl rfl) rfl
            have e40 : a'.eval (.tmp 40) = HV (nd y x) := KS_val (hall 6 _ 40 (by decide) rfl rfl) rfl
            have ha := act_puts 52 rfl hsz hdf hk [34, 35, 36, 37, 38, 39, 40] (by decide +kernel)
            simp only [puts, List.foldl_cons, List.foldl_nil, e34, e35, e36, e37, e38, e39, e40] at ha
            simp only [Act.put, List.setIfInBounds_toArray, List.set_cons_succ, List.set_cons_zero] at ha
            clear hall hk hsz hdf e34 e35 e36 e37 e38 e39 e40
            subst ha
            simp only [Act.put]
            go_wp2
            go_roundg (k + 1)
            case measure => omega
            case rel => exact ⟨k, c2, nd y x, rfl, by go_num, by go_num, by omega, by omega, HP.out, (show _ = _ by rw [HC.out, HCO.out]), Q0.out, Q1.out, Q2.out, QR.out, QL.out⟩
        · have ha1 : bits .and .i64 (c : Int) 1 = 0 := by rw [ha]; omega
          have HE2 := hide (carry_even (c := c) (by omega) (L.take k) x)
          obtain ⟨hs1, hs1r⟩ := slice_G_to (E := HE) (P := Tryd.prog) Tryd.underlying22 Tryd.size30 a n cp k (by omega) (by omega)
          have RT := hide (hs1r _ _ R0.out)
          have hw1 : IntKind.i64.wrap (s + 1) = s + 1 := by rw [IntKind.wrap_i64]; omega
          clear ha hpop hodd hs1r
          have c0 : wr.cell? ⟨N, 0, none⟩ = some (.int .i64 s) := BR0.out.cell (j := 0) rfl
          have c1 : wr.cell? ⟨N, 1, none⟩ = some (.slice a n cp) := BR0.out.cell (j := 1) rfl
          go_upto_region 9 with fail
          refine wp_region_tails Tryd.mixed (KS (fun i_ => match i_ with | 0 => .val (.pointer (some ⟨N, 0, none⟩)) | 1 => .val (.int .i64 s) | 2 => .val (.int .i64 (s + 1)) | 3 => .val (.pointer (some ⟨N, 1, none⟩)) | 4 => .val (.slice a n cp) | 5 => .val (.int .i64 (k : Int)) | 6 => .val (.slice a k cp) | 7 => .val (HV x) | 8 => .of (fun w v => RdG HE w v [x]) (fun _ _ _ hg h => RdG.kept h hg) | 9 => .of (fun w v_ => OwnG HE w N 30 v_ (L.take k ++ [x])) (fun _ _ _ hg h => OwnG.kept h hg) | 10 => .of (OPk N 30 (s + 1) (L.take k ++ [x])) (OPk.kept) | _ => .free)) 52 rfl (by decide +kernel) 11 (by decide) (by decide +kernel) (KS_mono _) ?_ ?_
          · refine AllFrom.cons ⟨rfl, fun a' w' hg hk hd => ?_⟩ (AllFrom.cons ⟨rfl, fun a' w' hg hk hd => ?_⟩ (AllFrom.cons ⟨rfl, fun a' w' hg hk hd => ?_⟩ (AllFrom.cons ⟨rfl, fun a' w' hg hk hd => ?_⟩ (AllFrom.cons ⟨rfl, fun a' w' hg hk hd => ?_⟩ (AllFrom.cons ⟨rfl, fun a' w' hg hk hd => ?_⟩ (AllFrom.cons ⟨rfl, fun a' w' hg hk hd => ?_⟩ (AllFrom.cons ⟨rfl, fun a' w' hg hk hd => ?_⟩ (AllFrom.cons ⟨rfl, fun a' w' hg hk hd => ?_⟩ (AllFrom.cons ⟨rfl, fun a' w' hg hk hd => ?_⟩ (AllFrom.cons ⟨rfl, fun a' w' hg hk hd => ?_⟩ AllFrom.nil))))))))))
            · -- 0: Op.fieldAddr 25 (Operand.tmp 2) 0
              intro Q
              have e2 : a'.eval (.tmp 2) = .pointer (some ⟨N, 0, none⟩) := hk.at 2 (by decide +kernel)
              clear hd hk
              exact wp_value (.pointer (some ⟨N, 0, none⟩)) (by simp only [execOp, e2]; go_simp) (KS_mkv rfl rfl)
            · -- 1: Op.load 3 (Operand.tmp 41)
              intro Q
              have e41 : a'.eval (.tmp 41) = .pointer (some ⟨N, 0, none⟩) := KS_val (hd.val 0 41 (by decide +kernel)) rfl
              have hc := (BR0.out.kept hg).cell (j := 0) rfl
              clear hd hk
              exact wp_value (.int .i64 s) (by simp only [execOp, e41]; go_simp) (KS_mkv rfl rfl)
            · -- 2: Op.binOp BinOp.add 3 (Operand.tmp 42) (Operand.const (Value.int IntKin
              intro Q
              have e42 : a'.eval (.tmp 42) = .int .i64 s := KS_val (hd.val 1 42 (by decide +kernel)) rfl
              clear hd hk
              exact wp_value (.int .i64 (s + 1)) (by simp only [execOp, e42]; go_simp) (KS_mkv rfl rfl)
            · -- 3: Op.fieldAddr 25 (Operand.tmp 2) 1
              intro Q
              have e2 : a'.eval (.tmp 2) = .pointer (some ⟨N, 0, none⟩) := hk.at 2 (by decide +kernel)
              clear hd hk
              exact wp_value (.pointer (some ⟨N, 1, none⟩)) (by simp only [execOp, e2]; go_simp) (KS_mkv rfl rfl)
            · -- 4: Op.load 22 (Operand.tmp 44)
              intro Q
              have e44 : a'.eval (.tmp 44) = .pointer (some ⟨N, 1, none⟩) := KS_val (hd.val 3 44 (by decide +kernel)) rfl
              have hc := (BR0.out.kept hg).cell (j := 1) rfl
              clear hd hk
              exact wp_value (.slice a n cp) (by simp only [execOp, e44]; go_simp) (KS_mkv rfl rfl)
            · -- 5: Op.move (Operand.tmp 6)
              intro Q
              have e6 : a'.eval (.tmp 6) = .int .i64 (k : Int) := hk.at 6 (by decide +kernel)
              exact wp_value _ (by simp only [execOp, e6]; rfl) (KS_mkv rfl rfl)
            · -- 6: Op.slice 22 (Operand.tmp 45) none (some (Operand.tmp 46)) none
              intro Q
              have e45 : a'.eval (.tmp 45) = .slice a n cp := KS_val (hd.val 4 45 (by decide +kernel)) rfl
              have e46 : a'.eval (.tmp 46) = .int .i64 (k : Int) := KS_val (hd.val 5 46 (by decide +kernel)) rfl
              exact wp_value _ (by simp only [execOp, e45, e46, hs1, Sem.run_bind, Result.andThen_ok, Option.map_none, Option.map_some]; rfl) (KS_mkv rfl rfl)
            · -- 7: Op.load 30 (Operand.tmp 3)
              intro Q
              have e3 : a'.eval (.tmp 3) = .pointer (some ⟨N + 1, 0, none⟩) := hk.at 3 (by decide +kernel)
              exact wp_load_row 30 _ rfl _ _ e3 (By (x).1) _ ((BR1.out.kept hg).range0) Tryd.underlying30 rfl (Tryd.sizeH _) (KS_mkv rfl rfl)
            · -- 8: Op.buildSlice 22 1 #[(0, Operand.tmp 48)]
              intro Q
              have e48 : a'.eval (.tmp 48) = HV x := KS_val (hd.val 7 48 (by decide +kernel)) rfl
              obtain ⟨w9, hr, hg9, hr9⟩ := hash_new w' x
              exact wp_grow _ w9 (by simp only [execOp, List.map_toArray, List.map_cons, List.map_nil, e48, hr, Sem.run_bind, Sem.run_pure, Result.andThen_ok]) hg9 (KS_mko rfl hr9)
            · -- 9: Op.call ( callee := Callee.value (Operand.func 26), args := #[Operand.
              intro Q
              have e47 : a'.eval (.tmp 47) = .slice a k cp := KS_val (hd.val 6 47 (by decide +kernel)) rfl
              have r49 := KS_of (hd.val 8 49 (by decide +kernel)) rfl
              refine wp_call 26 _ (run_enter 26 _ _ rfl (by kernel_rfl)) ?_
              simp only [List.map_toArray, List.map_nil, List.map_cons, e47]
              refine (behind_any _ _ (L.take k) [x] _ (RT.out.kept hg) r49 (by have := HLB.out; simp only [List.length_take, List.length_cons, List.length_nil]; omega)).mono ?_
              rintro e w5 ⟨v5, rfl, ho5, hb5⟩
              exact ⟨_, rfl, KS_mko rfl (ho5.mono (Nat.le_trans (Nat.le_of_lt (by have := BR0.out.lt; omega)) hg.size)), hb5⟩
            · -- 10: Op.build 25 #[(0, Operand.tmp 43), (1, Operand.tmp 50)]
              intro Q
              have e43 : a'.eval (.tmp 43) = .int .i64 (s + 1) := KS_val (hd.val 2 43 (by decide +kernel)) rfl
              have r50 := KS_of (hd.val 9 50 (by decide +kernel)) rfl
              obtain ⟨a6, c6, f50⟩ := r50.rd.slice
              rw [f50] at r50
              exact wp_value (.agg #[.int .i64 (s + 1), .slice a6 (L.take k ++ [x] : List Hs).length c6]) (by clear hd hk; simp only [execOp, e43, f50, List.map_toArray, List.map_cons, List.map_nil]; go_simp) (KS_mko rfl ⟨_, _, _, rfl, r50⟩)
          · intro a' w' hsz hdf hk hall hg
            obtain ⟨a6, n6, c6, e51, o51⟩ := KS_of (hall 10 _ 51 (by decide) rfl rfl) rfl
            have ep : a'.eval (.tmp 4) = .pointer (some ⟨N + 1 + 1, 0, none⟩) := hk.at 4 (by decide +kernel)
            have O2 := B2.out.kept hg
            have s0 : a'.tmps.size = 52 := hsz
            have d0 : a'.defers = [] := hdf
            have L3 : Below N w w' := LN.out.trans (Below.mono hg (Nat.le_trans (by omega) (Nat.le_of_lt B2.out.lt)))
            have o3 : OwnG HE w' N 30 (.slice a6 n6 c6) (L.take k ++ [x]) := o51
            refine ⟨rfl, ?_⟩
            refine wp_store_blk 25 _ _ rfl (N + 1 + 1) _ [.int .i64 (s + 1), .slice a6 n6 c6] 25 ep e51 O2 rfl Tryd.sizeP (by simp [Value.oneCell']) ?_
            intro w2 hb2 hu2
            refine ⟨undef, rfl, rfl, ?_⟩
            refine ⟨.bool true, rfl, ?_⟩
            show Exit.then _ _ Exit.normal ((a'.put none undef).put (some 5) (.bool true)) w2
            have e4 : ((a'.put none undef).put (some 5) (.bool true)).eval (.tmp 4) = .pointer (some ⟨N + 1 + 1, 0, none⟩) := by rw [eval_put_other (by simp), eval_put_other (by simp)]; exact ep
            have e5 : ((a'.put none undef).put (some 5) (.bool true)).eval (.tmp 5) = .bool true := eval_put_same (by rw [put_size]; omega)
            have d1 : ((a'.put none undef).put (some 5) (.bool true)).defers = [] := by rw [put_defers', put_defers']; exact d0
            generalize (a'.put none undef).put (some 5) (.bool true) = af at e4 e5 d1 ⊢
            clear hk hall hsz hdf
            have o4 : OwnG HE w2 N 30 (.slice a6 n6 c6) (L.take k ++ [x]) := o3.chg (F := fun b => b = N + 1 + 1) (Chg.of_but hu2 rfl) (fun b hb e => by
              subst e
              obtain ⟨_, _, cur, hcur⟩ := o3.block hb
              have := O2.symm.trans hcur
              simp at this)
            go_wp2_with fail
            refine bodyPost_ret (results_peaks rfl _ _ (N + 1 + 1) _ [.int .i64 (s + 1), .slice a6 n6 c6] (.bool true) e4 e5 hb2 Tryd.underlying25 rfl Tryd.sizeP) d1 ⟨.slice a6 n6 c6, by rw [HA.out]; unfold addS; rw [HA.out]; rfl, by rw [HNw.out, HTL.out, HC.out, HE2.out]; exact o4, by rw [HNw.out]; exact L3.trans (hu2.below (by omega) (by have := O2.lt; omega))⟩
#print axioms add_any
end Go.Proofs.YtinlpaabmojmkaaDoor
