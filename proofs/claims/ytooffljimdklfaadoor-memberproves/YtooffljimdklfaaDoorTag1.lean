/-
  tag.hashed, indentureref04.sum, tag.Leaf, tag.Key, tag.Value, tag.Empty, tag.Nothing and the reference's: what the calls do.
-/
import Derived.Test.YtooffljimdklfaaDoorTag0
namespace Go.Proofs.YtooffljimdklfaaDoor
open Go.RowKit
/-- The hash of a kind. -/
def tg (t : UInt8) (L : List (List UInt8)) : List UInt8 := sha (t :: L.flatten)
theorem tg_length (t : UInt8) (L : List (List UInt8)) : (tg t L).length = 32 := sha_length _
set_option maxHeartbeats 1000000 in
set_option maxRecDepth 100000 in
theorem hashed_any (t : UInt8) (v : Value) (L : List (List UInt8)) (w : World) (hT : Tabs w) (hv : RdR w v L) (hn : L.flatten.length ≤ 1099511627000) (hl : L.length ≤ 1099511627776) :
    Calls Tryd.prog 55 #[.int .u8 (t.toNat : Int), v] w fun e w' => e = .returned (.agg (By (tg t L)).toArray) ∧ Below w.heap.size w w' := by
  have HV : Hid (RdR w v L) := hv
  clear hv
  have HT : Hid (Tabs w) := hT
  clear hT
  obtain ⟨N, HN⟩ : ∃ N, Hid (w.heap.size = N) := ⟨_, rfl⟩
  have HNT : Hid (2 ≤ N) := (show _ by rw [← HN.out]; exact HT.out.size)
  go_enter Tryd.func55, Tryd.ntmps55
  go_wp2_with fail
  rw [HN.out]
  obtain ⟨w0, hw0⟩ : ∃ x, x = w.alloc (.cells (By (List.replicate 32 0)).toArray 24 (0, 0)) := ⟨_, rfl⟩
  change Calls _ _ _ (w.alloc (.cells (By (List.replicate 32 0)).toArray 24 (0, 0))) _
  rw [← hw0]
  have O0 : Hid (Blk w0 N 24 (By (List.replicate 32 0))) := (show Blk _ _ _ _ by rw [hw0, ← HN.out]; exact Blk.new w 24 (By (List.replicate 32 0)))
  have L0 : Hid (Below N w w0) := (show Below _ _ _ by rw [hw0]; exact (Below.refl _ _).alloc (by rw [HN.out]; exact Nat.le_refl _) _)
  clear hw0
  refine (bytes_any t v L w0 (HV.out.kept (by rw [HN.out]; exact L0.out)) (by omega) hl).mono ?_
  rintro e w1 ⟨v1, rfl, ho1, hb1⟩
  have O1 : Hid (Blk w1 N 24 (By (List.replicate 32 0))) := O0.out.kept hb1
  have L1 : Hid (Below N w w1) := L0.out.trans (hb1.mono (Nat.le_of_lt O0.out.lt))
  have R1 : Hid (Rd w1 v1 (t :: L.flatten)) := ho1.rd
  clear hb1 ho1 O0 L0
  go_wp2_with fail
  refine (sum_any v1 (t :: L.flatten) (by rw [List.length_cons]; omega) w1 (HT.out.kept (L1.out.mono HNT.out)) R1.out).mono ?_
  rintro e w2 ⟨rfl, hb2⟩
  have O2 : Hid (Blk w2 N 24 (By (List.replicate 32 0))) := O1.out.kept hb2
  have L2 : Hid (Below N w w2) := L1.out.trans (hb2.mono (Nat.le_of_lt O1.out.lt))
  clear hb2 O1 L1 R1
  have HL : Hid (tg t L = sha (t :: L.flatten)) := rfl
  rw [← HL.out]
  have hl32 : (tg t L).length = 32 := sha_length _
  have t0 := O2.out.there 0 32 (by rw [By_length]; simp)
  obtain ⟨X, HX⟩ : ∃ X, Hid (tg t L = X) := ⟨_, rfl⟩
  rw [HX.out] at hl32 ⊢
  go_wp2_with (first
    | (refine wpList_store_mid rfl 24 _ _ rfl N 0 _ rfl rfl (by simpa [By_length, hl32] using t0) (by simpa [By_length, hl32] using Tryd.size24) (all_one (By_one _)) ?_)
    | fail)
  have hB := Blk.over (By X) O2.out 0 (by rw [By_length, By_length, hl32]; simp)
  rw [over_all _ _ (by rw [By_length, By_length, hl32]; simp)] at hB
  refine bodyPost_ret (results_cell_row rfl _ _ N 24 _ (0, 0) _ rfl hB Tryd.underlying24 rfl (by simpa [By_length, hl32] using Tryd.size24)) rfl ⟨by rw [HX.out], ?_⟩
  rw [HN.out]
  exact L2.out.trans ((But.setCells N _ 0 w2).below (by omega) (by have := O2.out.lt; omega))

set_option maxHeartbeats 1000000 in
set_option maxRecDepth 100000 in
theorem refsum_any (t : UInt8) (v : Value) (L : List (List UInt8)) (w : World) (hv : RdR w v L) (hn : L.flatten.length ≤ 1099511627000) (hl : L.length ≤ 1099511627776) :
    Calls Tryd.prog 46 #[.int .u8 (t.toNat : Int), v] w fun e w' => e = .returned (.agg (By (tg t L)).toArray) ∧ Below w.heap.size w w' := by
  have HV : Hid (RdR w v L) := hv
  clear hv
  obtain ⟨N, HN⟩ : ∃ N, Hid (w.heap.size = N) := ⟨_, rfl⟩
  go_enter Tryd.func46, Tryd.ntmps46
  go_wp2_with fail
  rw [HN.out]
  obtain ⟨w0, hw0⟩ : ∃ x, x = w.alloc (.cells (By (List.replicate 32 0)).toArray 24 (0, 0)) := ⟨_, rfl⟩
  change Calls _ _ _ (w.alloc (.cells (By (List.replicate 32 0)).toArray 24 (0, 0))) _
  rw [← hw0]
  have O0 : Hid (Blk w0 N 24 (By (List.replicate 32 0))) := (show Blk _ _ _ _ by rw [hw0, ← HN.out]; exact Blk.new w 24 (By (List.replicate 32 0)))
  have L0 : Hid (Below N w w0) := (show Below _ _ _ by rw [hw0]; exact (Below.refl _ _).alloc (by rw [HN.out]; exact Nat.le_refl _) _)
  clear hw0
  refine (refBytes_any t v L w0 (HV.out.kept (by rw [HN.out]; exact L0.out)) (by omega) hl).mono ?_
  rintro e w1 ⟨v1, rfl, ho1, hb1⟩
  have O1 : Hid (Blk w1 N 24 (By (List.replicate 32 0))) := O0.out.kept hb1
  have L1 : Hid (Below N w w1) := L0.out.trans (hb1.mono (Nat.le_of_lt O0.out.lt))
  have R1 : Hid (Rd w1 v1 (t :: L.flatten)) := ho1.rd
  clear hb1 ho1 O0 L0
  go_wp2_with fail
  refine (refSum_any v1 (t :: L.flatten) (by rw [List.length_cons]; omega) w1 R1.out).mono ?_
  rintro e w2 ⟨rfl, hb2⟩
  have O2 : Hid (Blk w2 N 24 (By (List.replicate 32 0))) := O1.out.kept hb2
  have L2 : Hid (Below N w w2) := L1.out.trans (hb2.mono (Nat.le_of_lt O1.out.lt))
  clear hb2 O1 L1 R1
  have HL : Hid (tg t L = sha (t :: L.flatten)) := rfl
  rw [← HL.out]
  have hl32 : (tg t L).length = 32 := sha_length _
  have t0 := O2.out.there 0 32 (by rw [By_length]; simp)
  obtain ⟨X, HX⟩ : ∃ X, Hid (tg t L = X) := ⟨_, rfl⟩
  rw [HX.out] at hl32 ⊢
  go_wp2_with (first
    | (refine wpList_store_mid rfl 24 _ _ rfl N 0 _ rfl rfl (by simpa [By_length, hl32] using t0) (by simpa [By_length, hl32] using Tryd.size24) (all_one (By_one _)) ?_)
    | fail)
  have hB := Blk.over (By X) O2.out 0 (by rw [By_length, By_length, hl32]; simp)
  rw [over_all _ _ (by rw [By_length, By_length, hl32]; simp)] at hB
  refine bodyPost_ret (results_cell_row rfl _ _ N 24 _ (0, 0) _ rfl hB Tryd.underlying24 rfl (by simpa [By_length, hl32] using Tryd.size24)) rfl ⟨by rw [HX.out], ?_⟩
  rw [HN.out]
  exact L2.out.trans ((But.setCells N _ 0 w2).below (by omega) (by have := O2.out.lt; omega))

set_option maxHeartbeats 1000000 in
set_option maxRecDepth 100000 in
theorem nothing_any  (w : World) (hT : Tabs w) :
    Calls Tryd.prog 42 #[] w fun e w' => e = .returned (.agg (By (tg 5 [])).toArray) ∧ Below w.heap.size w w' := by
  have HT : Hid (Tabs w) := hT
  clear hT
  obtain ⟨N, HN⟩ : ∃ N, Hid (w.heap.size = N) := ⟨_, rfl⟩
  have HNT : Hid (2 ≤ N) := (show _ by rw [← HN.out]; exact HT.out.size)
  go_enter Tryd.func42, Tryd.ntmps42
  go_wp2_with fail
  rw [HN.out]
  obtain ⟨w0, hw0⟩ : ∃ x, x = w.alloc (.cells (By (List.replicate 32 0)).toArray 24 (0, 0)) := ⟨_, rfl⟩
  change Calls _ _ _ (w.alloc (.cells (By (List.replicate 32 0)).toArray 24 (0, 0))) _
  rw [← hw0]
  have O0 : Hid (Blk w0 N 24 (By (List.replicate 32 0))) := (show Blk _ _ _ _ by rw [hw0, ← HN.out]; exact Blk.new w 24 (By (List.replicate 32 0)))
  have L0 : Hid (Below N w w0) := (show Below _ _ _ by rw [hw0]; exact (Below.refl _ _).alloc (by rw [HN.out]; exact Nat.le_refl _) _)
  clear hw0
  refine (hashed_any 5 _ [] w0 (HT.out.kept (L0.out.mono HNT.out)) (RdR_nil _) (by simp) (by simp)).mono ?_
  rintro e w1 ⟨rfl, hb1⟩
  have O1 : Hid (Blk w1 N 24 (By (List.replicate 32 0))) := O0.out.kept hb1
  have L1 : Hid (Below N w w1) := L0.out.trans (hb1.mono (Nat.le_of_lt O0.out.lt))
  clear hb1
  have hl32 : (tg 5 []).length = 32 := sha_length _
  have t0 := O1.out.there 0 32 (by rw [By_length]; simp)
  obtain ⟨X, HX⟩ : ∃ X, Hid (tg 5 [] = X) := ⟨_, rfl⟩
  rw [HX.out] at hl32 ⊢
  go_wp2_with (first
    | (refine wpList_store_mid rfl 24 _ _ rfl N 0 _ rfl rfl (by simpa [By_length, hl32] using t0) (by simpa [By_length, hl32] using Tryd.size24) (all_one (By_one _)) ?_)
    | fail)
  have hB := Blk.over (By X) O1.out 0 (by rw [By_length, By_length, hl32]; simp)
  rw [over_all _ _ (by rw [By_length, By_length, hl32]; simp)] at hB
  refine bodyPost_ret (results_cell_row rfl _ _ N 24 _ (0, 0) _ rfl hB Tryd.underlying24 rfl (by simpa [By_length, hl32] using Tryd.size24)) rfl ⟨by rw [HX.out], ?_⟩
  rw [HN.out]
  exact L1.out.trans ((But.setCells N _ 0 w1).below (by omega) (by have := O1.out.lt; omega))

set_option maxHeartbeats 1000000 in
set_option maxRecDepth 100000 in
theorem refNothing_any  (w : World) :
    Calls Tryd.prog 26 #[] w fun e w' => e = .returned (.agg (By (tg 5 [])).toArray) ∧ Below w.heap.size w w' := by
  obtain ⟨N, HN⟩ : ∃ N, Hid (w.heap.size = N) := ⟨_, rfl⟩
  go_enter Tryd.func26, Tryd.ntmps26
  go_wp2_with fail
  rw [HN.out]
  obtain ⟨w0, hw0⟩ : ∃ x, x = w.alloc (.cells (By (List.replicate 32 0)).toArray 24 (0, 0)) := ⟨_, rfl⟩
  change Calls _ _ _ (w.alloc (.cells (By (List.replicate 32 0)).toArray 24 (0, 0))) _
  rw [← hw0]
  have O0 : Hid (Blk w0 N 24 (By (List.replicate 32 0))) := (show Blk _ _ _ _ by rw [hw0, ← HN.out]; exact Blk.new w 24 (By (List.replicate 32 0)))
  have L0 : Hid (Below N w w0) := (show Below _ _ _ by rw [hw0]; exact (Below.refl _ _).alloc (by rw [HN.out]; exact Nat.le_refl _) _)
  clear hw0
  refine (refsum_any 5 _ [] w0 (RdR_nil _) (by simp) (by simp)).mono ?_
  rintro e w1 ⟨rfl, hb1⟩
  have O1 : Hid (Blk w1 N 24 (By (List.replicate 32 0))) := O0.out.kept hb1
  have L1 : Hid (Below N w w1) := L0.out.trans (hb1.mono (Nat.le_of_lt O0.out.lt))
  clear hb1
  have hl32 : (tg 5 []).length = 32 := sha_length _
  have t0 := O1.out.there 0 32 (by rw [By_length]; simp)
  obtain ⟨X, HX⟩ : ∃ X, Hid (tg 5 [] = X) := ⟨_, rfl⟩
  rw [HX.out] at hl32 ⊢
  go_wp2_with (first
    | (refine wpList_store_mid rfl 24 _ _ rfl N 0 _ rfl rfl (by simpa [By_length, hl32] using t0) (by simpa [By_length, hl32] using Tryd.size24) (all_one (By_one _)) ?_)
    | fail)
  have hB := Blk.over (By X) O1.out 0 (by rw [By_length, By_length, hl32]; simp)
  rw [over_all _ _ (by rw [By_length, By_length, hl32]; simp)] at hB
  refine bodyPost_ret (results_cell_row rfl _ _ N 24 _ (0, 0) _ rfl hB Tryd.underlying24 rfl (by simpa [By_length, hl32] using Tryd.size24)) rfl ⟨by rw [HX.out], ?_⟩
  rw [HN.out]
  exact L1.out.trans ((But.setCells N _ 0 w1).below (by omega) (by have := O1.out.lt; omega))
end Go.Proofs.YtooffljimdklfaaDoor
