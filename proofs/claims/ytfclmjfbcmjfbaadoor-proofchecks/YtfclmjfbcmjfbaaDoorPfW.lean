/-
  Parts, turns and ways in memory; a part's root, what joins two halves, whether leaves stand ahead.
-/
import Derived.Test.YtfclmjfbcmjfbaaDoorPfP
import Derived.Test.YtfclmjfbcmjfbaaDoorGPa
import Derived.Test.YtfclmjfbcmjfbaaDoorGMb
import Derived.Test.YtfclmjfbcmjfbaaDoorMtA
namespace Go.Proofs.YtfclmjfbcmjfbaaDoor
open Go.RowKit
section
variable {α : Type} {E : Enc α}
/-- From place i on, below j, with no room behind. -/
theorem slice_G_3 {P : Program} {t e : TypeId} (ht : P.underlying t = some (.slice e)) (hsz : (P.info? e).map (·.size) = some E.n) (a : Option Addr) (n cap i j : Nat) (hij : i ≤ j) (hj : j ≤ n) (hn : n ≤ cap) :
    ∃ a', (∀ W, (Instr.sliceAt t (.slice a n cap) (some (.int .i64 (i : Int))) (some (.int .i64 (j : Int))) (some (.int .i64 (j : Int)))).run P W = .ok (.slice a' (j - i) (j - i)) W) ∧
      (∀ w (L : List α), RdG E w (.slice a n cap) L → RdG E w (.slice a' (j - i) (j - i)) (seg L i j)) := by
  have e2 : (j : Int) ≤ (cap : Int) := by omega
  have e1 : (i : Int) ≤ (j : Int) := by omega
  have e3 : i * E.n + (j - i) * E.n = j * E.n := by rw [← Nat.add_mul, Nat.add_sub_cancel' hij]
  refine ⟨if j = i then a else a.map (·.add (i * E.n)), fun W => ?_, fun w L hr => ?_⟩
  · cases hq : P.info? e with
    | none => simp [hq] at hsz
    | some k =>
      have hk : k.size = E.n := by simpa [hq] using hsz
      simp [Instr.sliceAt, Instr.slice, run_underlying ht, Instr.sliceBounds, run_sliceBound, e1, e2, sizeOf, typeInfo, hq, hk]
  · obtain ⟨a0, cap0, e, h1, h2, h3, h4⟩ := hr
    simp only [Value.slice.injEq] at e
    obtain ⟨rfl, rfl, rfl⟩ := e
    have hl : (seg L i j).length = j - i := seg_len hj
    refine ⟨if j = i then a else a.map (·.add (i * E.n)), j - i, by rw [hl], by omega, by omega, fun h => ?_, fun hp => ?_⟩
    · by_cases hcc : j = i
      · omega
      · rw [if_neg hcc] at h
        have := h3 (by simpa using h)
        omega
    · rw [hl] at hp
      obtain ⟨b, off, rfl, hlt, hcell⟩ := h4 (by omega)
      rw [if_neg (by omega)]
      refine ⟨b, off + i * E.n, by simp [Addr.add_mid], hlt, fun k u hk => ?_⟩
      rw [Nat.add_assoc]
      refine hcell (i * E.n + k) u ?_
      have hkl : k < (j - i) * E.n := by have := (List.getElem?_eq_some_iff.1 hk).1; rwa [Enc.cs_length, hl] at this
      unfold seg at hk
      rw [Enc.cs_drop, Enc.cs_take, List.getElem?_drop, List.getElem?_take_of_lt ?_] at hk
      · exact hk
      · rw [← e3]
        exact Nat.add_lt_add_left hkl _
end
/-- How a turn lies in cells. -/
def TE : Enc Tn := ⟨fun t => [.int .i64 (t.a : Int), .int .i64 (t.b : Int), .bool t.left], 3, fun _ => rfl, fun x u h => by simp at h; rcases h with rfl | rfl | rfl <;> rfl⟩
/-- A way in cells: where it begins, the array of turns, how many there are. -/
def WC (lo hi : Nat) (A : List Tn) (c : Nat) : List Value := [.int .i64 (lo : Int), .int .i64 (hi : Int)] ++ TE.cs A ++ [.int .i64 (c : Int)]
theorem WC_len {lo hi c : Nat} {A : List Tn} (h : A.length = 64) : (WC lo hi A c).length = 195 := by
  unfold WC
  rw [List.length_append, List.length_append, Enc.cs_length, h]
  rfl
theorem WC_count {lo hi c : Nat} {A : List Tn} (h : A.length = 64) : (WC lo hi A c)[194]? = some (.int .i64 (c : Int)) := by
  unfold WC
  have hl : ([.int .i64 (lo : Int), .int .i64 (hi : Int)] ++ TE.cs A : List Value).length = 194 := by rw [List.length_append, Enc.cs_length, h]; rfl
  rw [List.getElem?_append_right (by omega), hl]
  rfl
theorem boxes2' {w w0 : World} {N : Nat} {c0 c1 : List Value} {T0 T1 : TypeId} (HN : Hid (w.heap.size = N)) (hw : w0 = (w.alloc (.cells c0.toArray T0 (0, 0))).alloc (.cells c1.toArray T1 (0, 0))) :
    Blk w0 N T0 c0 ∧ Blk w0 (N + 1) T1 c1 ∧ Below N w w0 := by
  subst hw
  have h1 := Blk.new w T0 c0
  have h2 := Blk.new (w.alloc (.cells c0.toArray T0 (0, 0))) T1 c1
  rw [show (w.alloc (.cells c0.toArray T0 (0, 0))).heap.size = N + 1 by simp [HN.out]] at h2
  rw [HN.out] at h1
  exact ⟨h1.alloc _, h2, ((Below.refl _ _).alloc (by rw [HN.out]; exact Nat.le_refl _) _).alloc (by simp [HN.out]) _⟩
theorem boxes4 {w w0 : World} {N : Nat} {c0 c1 c2 c3 : List Value} {T0 T1 T2 T3 : TypeId} (HN : Hid (w.heap.size = N)) (hw : w0 = (((w.alloc (.cells c0.toArray T0 (0, 0))).alloc (.cells c1.toArray T1 (0, 0))).alloc (.cells c2.toArray T2 (0, 0))).alloc (.cells c3.toArray T3 (0, 0))) :
    Blk w0 N T0 c0 ∧ Blk w0 (N + 1) T1 c1 ∧ Blk w0 (N + 1 + 1) T2 c2 ∧ Blk w0 (N + 1 + 1 + 1) T3 c3 ∧ Below N w w0 := by
  obtain ⟨z, hz⟩ : ∃ z, z = ((w.alloc (.cells c0.toArray T0 (0, 0))).alloc (.cells c1.toArray T1 (0, 0))).alloc (.cells c2.toArray T2 (0, 0)) := ⟨_, rfl⟩
  rw [← hz] at hw
  have hs : z.heap.size = N + 1 + 1 + 1 := by rw [hz]; simp [HN.out]
  obtain ⟨h0, h1, h2, hb⟩ := boxes9 HN hz
  have h3 := Blk.new z T3 c3
  rw [hs] at h3
  subst hw
  exact ⟨h0.alloc _, h1.alloc _, h2.alloc _, h3, hb.trans ((Below.refl _ _).alloc (by omega) _)⟩
set_option maxHeartbeats 1000000 in
set_option maxRecDepth 100000 in
theorem aside_any (D lo hi c : Nat) (A : List Tn) (w : World) (hB : Blk w D 50 (WC lo hi A c)) : Calls Tryd.prog 27 #[.pointer (some ⟨D, 0, none⟩)] w fun e w' => e = .returned (.bool (decide (0 < lo))) ∧ w' = w := by
  have c0 : w.cell? ⟨D, 0, none⟩ = some (.int .i64 (lo : Int)) := hB.cell (j := 0) rfl
  clear hB
  go_enter Tryd.func27, Tryd.ntmps27
  go_wp2
  go_ret
  simp
set_option maxHeartbeats 2000000 in
set_option maxRecDepth 100000 in
theorem ptroot_any (a b : Nat) (v : Value) (L : List Hs) (hab : a ≤ b) (hb : b ≤ L.length) (w : World) (hT : Tabs w) (hr : RdG HE w v L) :
    Calls Tryd.prog 28 #[.agg #[.int .i64 (a : Int), .int .i64 (b : Int)], v] w fun e w' => e = .returned (HV (root nd em (seg L a b))) ∧ Below w.heap.size w w' := by
  have HR := hide hr
  obtain ⟨p, cp, rfl⟩ := hr.slice
  have hcp := hr.cap
  have hn := hr.len
  obtain ⟨a2, hs2, hs2r⟩ := slice_G_3 (E := HE) (P := Tryd.prog) Tryd.underlying22 Tryd.size30 p L.length cp a b hab hb hcp
  have HS := hide hs2r
  obtain ⟨n, HN⟩ : ∃ n, Hid (L.length = n) := ⟨_, rfl⟩
  rw [HN.out] at hs2 HR hb hcp HS ⊢
  obtain ⟨N, HNw⟩ : ∃ N, Hid (w.heap.size = N) := ⟨_, rfl⟩
  have HT := hide hT
  have HNT : Hid (2 ≤ N) := (show _ by rw [← HNw.out]; exact HT.out.size)
  clear hT hr hs2r hn
  go_enter Tryd.func28, Tryd.ntmps28
  go_upto_region 1 with fail
  obtain ⟨w0, hw0⟩ : ∃ z, z = (w.alloc (.cells [.int .i64 (a : Int), .int .i64 (b : Int)].toArray 45 (0, 0))).alloc (.cells (By zh.1).toArray 30 (0, 0)) := ⟨_, rfl⟩
  change Code.wp _ _ _ _ ((w.alloc (.cells [.int .i64 (a : Int), .int .i64 (b : Int)].toArray 45 (0, 0))).alloc (.cells (By zh.1).toArray 30 (0, 0)))
  rw [← hw0, HNw.out]
  obtain ⟨b0, b1, ln⟩ := boxes2' HNw hw0
  have R0 : Hid (RdG HE w0 (.slice p n cp) L) := HR.out.kept (by rw [HNw.out]; exact ln)
  have O1 := hide b1
  have L0 := hide ln
  have T0 : Hid (Tabs w0) := HT.out.kept (ln.mono HNT.out)
  have c0 : w0.cell? ⟨N, 0, none⟩ = some (.int .i64 (a : Int)) := b0.cell (j := 0) rfl
  have c1 : w0.cell? ⟨N, 1, none⟩ = some (.int .i64 (b : Int)) := b0.cell (j := 1) rfl
  clear hw0 b0 b1 ln
  go_wp2_with fail
  refine (root_any (seg L a b) _ w0 T0.out (HS.out _ _ R0.out)).mono ?_
  rintro e w1 ⟨rfl, hb1⟩
  have P1 := hide (O1.out.kept hb1)
  have L1 : Hid (Below N w w1) := L0.out.trans (hb1.mono (by have := O1.out.lt; omega))
  clear hb1 c0 c1
  obtain ⟨x, HX⟩ : ∃ x, Hid (root nd em (seg L a b) = x) := ⟨_, rfl⟩
  rw [HX.out]
  go_wp2_with (first
    | (refine wpList_store_blk rfl 30 _ _ rfl (N + 1) (By zh.1) (By x.1) 30 rfl rfl P1.out (by rw [By_len, By_len]) (Tryd.sizeH x) (By_one _) ?_; intro w2 hb2 hu2)
    | fail)
  refine bodyPost_ret (ret_hash rfl _ _ (N + 1) x rfl hb2) rfl ⟨by rw [HX.out], ?_⟩
  rw [HNw.out]
  exact L1.out.trans (hu2.below (by omega) (by have := P1.out.lt; omega))
set_option maxHeartbeats 2000000 in
set_option maxRecDepth 100000 in
theorem join_any (t : Tn) (x y : Hs) (w : World) (hT : Tabs w) :
    Calls Tryd.prog 31 #[.agg (TE.c t).toArray, HV x, HV y] w fun e w' => e = .returned (HV (jn t x y)) ∧ Below w.heap.size w w' := by
  obtain ⟨a, b, lf⟩ := t
  obtain ⟨N, HNw⟩ : ∃ N, Hid (w.heap.size = N) := ⟨_, rfl⟩
  have HT := hide hT
  have HNT : Hid (2 ≤ N) := (show _ by rw [← HNw.out]; exact HT.out.size)
  clear hT
  go_enter Tryd.func31, Tryd.ntmps31
  go_upto_region 1 with fail
  obtain ⟨w0, hw0⟩ : ∃ z, z = (((w.alloc (.cells [.int .i64 (a : Int), .int .i64 (b : Int), .bool lf].toArray 47 (0, 0))).alloc (.cells (By x.1).toArray 30 (0, 0))).alloc (.cells (By y.1).toArray 30 (0, 0))).alloc (.cells (By zh.1).toArray 30 (0, 0)) := ⟨_, rfl⟩
  change Code.wp _ _ _ _ ((((w.alloc (.cells [.int .i64 (a : Int), .int .i64 (b : Int), .bool lf].toArray 47 (0, 0))).alloc (.cells (By x.1).toArray 30 (0, 0))).alloc (.cells (By y.1).toArray 30 (0, 0))).alloc (.cells (By zh.1).toArray 30 (0, 0)))
  rw [← hw0, HNw.out]
  obtain ⟨b0, b1, b2, b3, ln⟩ := boxes4 HNw hw0
  have c0 : w0.cell? ⟨N, 2, none⟩ = some (.bool lf) := b0.cell (j := 2) rfl
  have O1 := hide b1
  have O2 := hide b2
  have O3 := hide b3
  have L0 := hide ln
  have T0 : Hid (Tabs w0) := HT.out.kept (ln.mono HNT.out)
  clear hw0 b0 b1 b2 b3 ln
  have hr1 : w0.rangeAt (N + 1) 0 (By x.1) := O1.out.range0
  have hr2 : w0.rangeAt (N + 1 + 1) 0 (By y.1) := O2.out.range0
  cases lf with
  | true =>
    have HJ : Hid (jn ⟨a, b, true⟩ x y = nd y x) := rfl
    go_wp2_with (first
      | (refine wpList_load_mid rfl 30 _ rfl (N + 1) 0 rfl (By x.1) _ hr1 Tryd.underlying30 rfl (Tryd.sizeH x) ?_)
      | (refine wpList_load_mid rfl 30 _ rfl (N + 1 + 1) 0 rfl (By y.1) _ hr2 Tryd.underlying30 rfl (Tryd.sizeH y) ?_)
      | fail)
    refine (hnode_any y x w0 T0.out).mono ?_
    rintro e w1 ⟨rfl, hb1⟩
    have P1 := hide (O3.out.kept hb1)
    have L1 : Hid (Below N w w1) := L0.out.trans (hb1.mono (by have := O3.out.lt; omega))
    clear hb1 c0 hr1 hr2
    obtain ⟨z, HX⟩ : ∃ z, Hid (nd y x = z) := ⟨_, rfl⟩
    rw [HX.out]
    go_wp2_with (first
      | (refine wpList_store_blk rfl 30 _ _ rfl (N + 1 + 1 + 1) (By zh.1) (By z.1) 30 rfl rfl P1.out (by rw [By_len, By_len]) (Tryd.sizeH z) (By_one _) ?_; intro w2 hb2 hu2)
      | fail)
    refine bodyPost_ret (ret_hash rfl _ _ (N + 1 + 1 + 1) z rfl hb2) rfl ⟨by rw [HJ.out, HX.out], ?_⟩
    rw [HNw.out]
    exact L1.out.trans (hu2.below (by omega) (by have := P1.out.lt; omega))
  | false =>
    have HJ : Hid (jn ⟨a, b, false⟩ x y = nd x y) := rfl
    go_wp2_with (first
      | (refine wpList_load_mid rfl 30 _ rfl (N + 1) 0 rfl (By x.1) _ hr1 Tryd.underlying30 rfl (Tryd.sizeH x) ?_)
      | (refine wpList_load_mid rfl 30 _ rfl (N + 1 + 1) 0 rfl (By y.1) _ hr2 Tryd.underlying30 rfl (Tryd.sizeH y) ?_)
      | fail)
    refine (hnode_any x y w0 T0.out).mono ?_
    rintro e w1 ⟨rfl, hb1⟩
    have P1 := hide (O3.out.kept hb1)
    have L1 : Hid (Below N w w1) := L0.out.trans (hb1.mono (by have := O3.out.lt; omega))
    clear hb1 c0 hr1 hr2
    obtain ⟨z, HX⟩ : ∃ z, Hid (nd x y = z) := ⟨_, rfl⟩
    rw [HX.out]
    go_wp2_with (first
      | (refine wpList_store_blk rfl 30 _ _ rfl (N + 1 + 1 + 1) (By zh.1) (By z.1) 30 rfl rfl P1.out (by rw [By_len, By_len]) (Tryd.sizeH z) (By_one _) ?_; intro w2 hb2 hu2)
      | fail)
    refine bodyPost_ret (ret_hash rfl _ _ (N + 1 + 1 + 1) z rfl hb2) rfl ⟨by rw [HJ.out, HX.out], ?_⟩
    rw [HNw.out]
    exact L1.out.trans (hu2.below (by omega) (by have := P1.out.lt; omega))
#print axioms join_any
end Go.Proofs.YtfclmjfbcmjfbaaDoor
