/-
  The document's Leaf; how long bytes may be.
-/
import Derived.Test.YtmicmbjbclkbjaaDoorRcH
import Derived.Test.YtmicmbjbclkbjaaDoorRcW
namespace Go.Proofs.YtmicmbjbclkbjaaDoor
open Go.RowKit
theorem bytes_len (r : Rc) : (bytesP r).length ≤ 5000000 := by
  unfold bytesP
  split
  · rename_i h
    obtain ⟨ho, _, _⟩ := sound_ok h
    obtain ⟨d, Hd⟩ : ∃ d, Hid (pdR r = d) := ⟨_, rfl⟩
    rw [Hd.out] at ho ⊢
    unfold eD
    have h1 := enc_length d.ses
    have h2 := enc_length d.snap
    have h3 : (fl d.st).length = 1 := rfl
    have h4 := eL_length (e := eR) (B := 67800) ho.rl (fun x hx => eR_length (ho.rs x hx))
    have h5 := eL_length (e := eW) (B := 400) ho.wl (fun x hx => eW_length (ho.ws x hx))
    simp only [List.length_append]
    omega
  · simp
set_option maxHeartbeats 1000000 in
set_option maxRecDepth 100000 in
theorem kleaf16_any {w : World} {r : Rc} (hr : ROk w r) (hl : (bytesP r).length ≤ 1099511627000) : Calls Tryd.prog 12 #[.agg (RC r).toArray] w fun e w' => e = .returned (.agg (By (tg 0 [bytesP r])).toArray) ∧ Below w.heap.size w w' := by
  obtain ⟨N, HN⟩ : ∃ N, Hid (w.heap.size = N) := ⟨_, rfl⟩
  obtain ⟨w1, hw1⟩ : ∃ y, y = w.alloc (.cells (RC r).toArray 25 (0, 0)) := ⟨_, rfl⟩
  obtain ⟨b1, l1⟩ := newB HN hw1
  have HW1 := hide hw1
  have HN1 : Hid (w1.heap.size = N + 1) := (show _ = _ by rw [hw1]; simp [HN.out])
  obtain ⟨w2, hw2⟩ : ∃ y, y = w1.alloc (.cells (By (List.replicate 32 0)).toArray 31 (0, 0)) := ⟨_, rfl⟩
  have b2 : Hid (Blk w2 (N + 1) 31 (By (List.replicate 32 0))) := (show Blk _ _ _ _ by rw [hw2, ← HN1.out]; exact Blk.new w1 31 (By (List.replicate 32 0)))
  have l2 : Hid (Below w1.heap.size w1 w2) := (show Below _ _ _ by rw [hw2]; exact (Below.refl _ _).alloc (Nat.le_refl _) _)
  have HW2 := hide hw2
  have L2 : Hid (Below w.heap.size w w2) := (show Below _ _ _ from l1.out.trans (l2.out.mono l1.out.size))
  have CB := hide (kbytes16_any (hr.kept L2.out))
  have rk := (b1.out.kept l2.out).range0
  clear hr hw1 hw2
  obtain ⟨y, HY⟩ : ∃ z, Hid (bytesP r = z) := ⟨_, rfl⟩
  rw [HY.out] at CB hl ⊢
  go_enter Tryd.func12, Tryd.ntmps12
  go_upto_region 1 with fail
  change Code.wp _ _ _ _ ((w.alloc (.cells (RC r).toArray 25 (0, 0))).alloc (.cells (By (List.replicate 32 0)).toArray 31 (0, 0)))
  rw [← HW1.out, HN.out, ← HW2.out]
  go_wp2_with (first
    | (refine wpList_load_mid rfl 25 _ rfl N 0 rfl (RC r) _ rk Tryd.underlying25 rfl Tryd.size25 ?_)
    | fail)
  refine CB.out.mono ?_
  rintro e w3 ⟨v, rfl, o3, hb3⟩
  have B3 := hide (b2.out.kept hb3)
  have L3 : Hid (Below w.heap.size w w3) := (show Below _ _ _ from L2.out.trans (hb3.mono L2.out.size))
  have CF := hide (refLeaf_any v y w3 o3 hl)
  clear CB rk o3 hb3
  go_wp2_with fail
  refine CF.out.mono ?_
  rintro e w4 ⟨rfl, hb4⟩
  have B4 := hide (B3.out.kept hb4)
  have L4 : Hid (Below w.heap.size w w4) := (show Below _ _ _ from L3.out.trans (hb4.mono L3.out.size))
  have hl32 : (tg 0 [y]).length = 32 := sha_length _
  have t0 := B4.out.there 0 32 (by rw [By_length]; simp)
  obtain ⟨X, HX⟩ : ∃ X, Hid (tg 0 [y] = X) := ⟨_, rfl⟩
  rw [HX.out] at hl32 ⊢
  clear hb4 CF
  go_wp2_with (first
    | (refine wpList_store_mid rfl 31 _ _ rfl (N + 1) 0 _ rfl rfl (by simpa [By_length, hl32] using t0) (by simpa [By_length, hl32] using Tryd.size31) (all_one (By_one _)) ?_)
    | fail)
  have hB := Blk.over (By X) B4.out 0 (by rw [By_length, By_length, hl32]; simp)
  rw [over_all _ _ (by rw [By_length, By_length, hl32]; simp)] at hB
  refine bodyPost_ret (results_cell_row rfl _ _ (N + 1) 31 _ (0, 0) _ rfl hB Tryd.underlying31 rfl (by simpa [By_length, hl32] using Tryd.size31)) rfl ⟨by rw [HX.out], ?_⟩
  exact L4.out.trans ((But.setCells (N + 1) _ 0 w4).below (by rw [HN.out]; omega) (by have := B4.out.lt; have := L4.out.size; omega))
#print axioms kleaf16_any
end Go.Proofs.YtmicmbjbclkbjaaDoor
