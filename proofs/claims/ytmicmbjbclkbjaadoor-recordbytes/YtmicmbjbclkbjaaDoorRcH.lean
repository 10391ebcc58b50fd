/-
  Leaf: what the call does.
-/
import Derived.Test.YtmicmbjbclkbjaaDoorRcF
import Derived.Test.YtmicmbjbclkbjaaDoorRcL
import Derived.Test.YtmicmbjbclkbjaaDoorGHe
namespace Go.Proofs.YtmicmbjbclkbjaaDoor
open Go.RowKit
set_option maxHeartbeats 1000000 in
set_option maxRecDepth 100000 in
theorem jleaf_any {w : World} {r : Rc} (hT : Tabs w) (hr : ROk w r) (hl : (bytesP r).length ≤ 1099511627000) : Calls Tryd.prog 11 #[.agg (RC r).toArray] w fun e w' => e = .returned (.agg (By (tg 0 [bytesP r])).toArray) ∧ Below w.heap.size w w' := by
  obtain ⟨N, HN⟩ : ∃ N, Hid (w.heap.size = N) := ⟨_, rfl⟩
  obtain ⟨w1, hw1⟩ : ∃ y, y = w.alloc (.cells (RC r).toArray 25 (0, 0)) := ⟨_, rfl⟩
  obtain ⟨b1, l1⟩ := newB HN hw1
  have HW1 := hide hw1
  have HN1 : Hid (w1.heap.size = N + 1) := (show _ = _ by rw [hw1]; simp [HN.out])
  obtain ⟨w2, hw2⟩ : ∃ y, y = w1.alloc (.cells (By (List.replicate 32 0)).toArray 31 (0, 0)) := ⟨_, rfl⟩
  have b2 : Hid (Blk w2 (N + 1) 31 (By (List.replicate 32 0))) := (show Blk _ _ _ _ by rw [hw2, ← HN1.out]; exact Blk.new w1 31 (By (List.replicate 32 0)))
  have l2 : Hid (Below w1.heap.size w1 w2) := (show Below _ _ _ by rw [hw2]; exact (Below.refl _ _).alloc (Nat.le_refl _) _)
  have HW2 := hide hw2
  have L2 : Hid (Below w.heap.size w w2) := (show Below _ _ _ from l1.out.trans (l2.out.mono l1.out.size))
  have HT : Hid (Tabs w) := hT
  have HNT : Hid (2 ≤ w.heap.size) := (show _ by exact HT.out.size)
  have CB := hide (jbytes_any (hr.kept L2.out))
  have rk := (b1.out.kept l2.out).range0
  clear hr hT hw1 hw2
  obtain ⟨y, HY⟩ : ∃ z, Hid (bytesP r = z) := ⟨_, rfl⟩
  rw [HY.out] at CB hl ⊢
  go_enter Tryd.func11, Tryd.ntmps11
  go_upto_region 1 with fail
  change Code.wp _ _ _ _ ((w.alloc (.cells (RC r).toArray 25 (0, 0))).alloc (.cells (By (List.replicate 32 0)).toArray 31 (0, 0)))
  rw [← HW1.out, HN.out, ← HW2.out]
  go_wp2_with (first
    | (refine wpList_load_mid rfl 25 _ rfl N 0 rfl (RC r) _ rk Tryd.underlying25 rfl Tryd.size25 ?_)
    | fail)
  refine CB.out.mono ?_
  rintro e w3 ⟨v, rfl, o3, hb3⟩
  have B3 := hide (b2.out.kept hb3)
  have L3 : Hid (Below w.heap.size w w3) := (show Below _ _ _ from L2.out.trans (hb3.mono L2.out.size))
  have CF := hide (leaf_any v y w3 (HT.out.kept (L3.out.mono HNT.out)) o3.rd hl)
  clear CB rk o3 hb3
  go_wp2_with fail
  refine CF.out.mono ?_
  rintro e w4 ⟨rfl, hb4⟩
  have B4 := hide (B3.out.kept hb4)
  have L4 : Hid (Below w.heap.size w w4) := (show Below _ _ _ from L3.out.trans (hb4.mono L3.out.size))
  have hl32 : (tg 0 [y]).length = 32 := sha_length _
  have t0 := B4.out.there 0 32 (by rw [By_length]; simp)
  obtain ⟨X, HX⟩ : ∃ X, Hid (tg 0 [y] = X) := ⟨_, rfl⟩
  rw [HX.out] at hl32 ⊢
  clear hb4 CF
  go_wp2_with (first
    | (refine wpList_store_mid rfl 31 _ _ rfl (N + 1) 0 _ rfl rfl (by simpa [By_length, hl32] using t0) (by simpa [By_length, hl32] using Tryd.size31) (all_one (By_one _)) ?_)
    | fail)
  have hB := Blk.over (By X) B4.out 0 (by rw [By_length, By_length, hl32]; simp)
  rw [over_all _ _ (by rw [By_length, By_length, hl32]; simp)] at hB
  refine bodyPost_ret (results_cell_row rfl _ _ (N + 1) 31 _ (0, 0) _ rfl hB Tryd.underlying31 rfl (by simpa [By_length, hl32] using Tryd.size31)) rfl ⟨by rw [HX.out], ?_⟩
  exact L4.out.trans ((But.setCells (N + 1) _ 0 w4).below (by rw [HN.out]; omega) (by have := B4.out.lt; have := L4.out.size; omega))
#print axioms jleaf_any
end Go.Proofs.YtmicmbjbclkbjaaDoor
