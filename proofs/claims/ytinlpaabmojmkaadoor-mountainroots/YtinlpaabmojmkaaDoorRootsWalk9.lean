/-
  indenturelaw09.MountainRoots: what the call does.
-/
import Derived.Test.YtinlpaabmojmkaaDoorMtR
import Derived.Test.YtinlpaabmojmkaaDoorMtO
import Derived.Test.YtinlpaabmojmkaaDoorMtOr
import Derived.Test.YtinlpaabmojmkaaDoorMtS
namespace Go.Proofs.YtinlpaabmojmkaaDoor
open Go.RowKit
set_option maxHeartbeats 4000000 in
set_option maxRecDepth 100000 in
theorem mountainRoots_any (l : List Hs) (v : Value) (w : World) (hT : Tabs w) (hr : RdG HE w v l) : Calls Tryd.prog 3 #[v] w fun e w' => e = .returned (.bool true) ∧ Below w.heap.size w w' := by
  have R := hide hr
  have hcap := hr.cap'
  obtain ⟨a, cp, rfl⟩ := hr.slice
  obtain ⟨m, HM⟩ : ∃ m, Hid (l.length = m) := ⟨_, rfl⟩
  rw [HM.out] at R hcap ⊢
  have HT := hide hT
  clear hr hT
  go_enter Tryd.func3, Tryd.ntmps3
  by_cases h60 : 60 < m
  · have q2 : (60 : Int) < (m : Int) := by omega
    go_wp2_with fail
    refine (mlives_any w).mono ?_
    rintro e w4 ⟨rfl, hb4⟩
    have HB4 := hide hb4
    clear hb4
    go_wp2
    go_ret
    exact ⟨rfl, HB4.out⟩
  · have q2 : ¬ (60 : Int) < (m : Int) := by omega
    have CO := of_any l (.slice a m cp) w HT.out R.out (by rw [HM.out]; omega)
    rw [HM.out] at CO
    go_wp2_with fail
    refine CO.mono ?_
    clear CO
    rintro e w1 ⟨t1, rfl, hr1, hb1⟩
    have CO2 := nof_any l (.slice a m cp) w1 (R.out.kept hb1) (by rw [HM.out]; omega)
    rw [HM.out] at CO2
    have L1 := hide hb1
    have R1 := hide hr1
    clear hr1 hb1
    go_wp2_with fail
    refine CO2.mono ?_
    clear CO2
    rintro e w2 ⟨t2, rfl, hr2, hb2⟩
    have L2 : Hid (Below w.heap.size w w2) := L1.out.trans (hb2.mono L1.out.size)
    have R12 := hide (R1.out.kept hb2)
    have R2 := hide hr2
    clear hr2 hb2
    obtain ⟨a1, c1, ht1⟩ := R12.out.slice
    obtain ⟨a2, c2, ht2⟩ := R2.out.slice
    generalize (topsFrom nd em 63 l).length = k at ht1 ht2
    subst ht1 ht2
    generalize topsFrom nd em 63 l = T at *
    obtain ⟨E, HE9⟩ : ∃ E, Hid (w2.heap.size = E) := ⟨_, rfl⟩
    obtain ⟨w3, hw3⟩ : ∃ y, y = (w2.alloc (.cells [.int .i64 0, .slice none 0 0].toArray 25 (0, 0))).alloc (.cells [.int .i64 0, .slice none 0 0].toArray 27 (0, 0)) := ⟨_, rfl⟩
    have HW3 := hide hw3
    have B3 : Hid (Blk w3 E 25 [.int .i64 0, .slice none 0 0]) := (show Blk _ _ _ _ by rw [hw3, ← HE9.out]; exact (Blk.new w2 _ _).alloc _)
    have B4 : Hid (Blk w3 (E + 1) 27 [.int .i64 0, .slice none 0 0]) := (show Blk _ _ _ _ by
      have := Blk.new (w2.alloc (.cells [.int .i64 0, .slice none 0 0].toArray 25 (0, 0))) 27 [.int .i64 0, .slice none 0 0]
      rw [show (w2.alloc (.cells [.int .i64 0, .slice none 0 0].toArray 25 (0, 0))).heap.size = E + 1 by simp [HE9.out]] at this
      rw [hw3]; exact this)
    have L3 : Hid (Below E w2 w3) := (show Below _ _ _ by rw [hw3]; exact ((Below.refl _ _).alloc (by rw [HE9.out]; exact Nat.le_refl _) _).alloc (by simp [HE9.out]) _)
    clear hw3
    go_upto_region 4 with (first
      | (rw [HE9.out, ← HW3.out]; refine wpList_store_blk rfl 25 _ _ rfl E _ [.int .i64 (m : Int), .slice a1 k c1] 25 rfl rfl B3.out rfl Tryd.sizeP (by simp [Value.oneCell']) ?_; intro w4 hb4 hu4; have B44 := hide (B4.out.but hu4 (by omega)))
      | (refine wpList_store_blk rfl 27 _ _ rfl (E + 1) _ [.int .i64 (m : Int), .slice a2 k c2] 27 rfl rfl B44.out rfl Tryd.sizeQ (by simp [Value.oneCell']) ?_; intro w5 hb5 hu5)
      | fail)
    try simp only [Act.put]
    have b5 : Below E w2 w5 := (L3.out.trans (hu4.below (Nat.le_refl _) (by have := B3.out.lt; omega))).trans (hu5.below (by omega) (by have := B44.out.lt; omega))
    have D1 := hide (hb4.but hu5 (by omega))
    have D2 := hide hb5
    have b5' : Below w2.heap.size w2 w5 := by rw [HE9.out]; exact b5
    have RA := hide (R12.out.kept b5')
    have RB := hide (R2.out.kept b5')
    have L5 : Hid (Below w.heap.size w w5) := L2.out.trans (b5'.mono L2.out.size)
    clear hb4 hu4 hb5 hu5 b5 b5' B3 B4 B44 L3 HW3
    go_wp2_with fail
    refine (root_any l _ w5 (HT.out.gr L5.out) (R.out.kept L5.out)).mono ?_
    rintro e w6 ⟨rfl, hb6⟩
    have L6 : Hid (Below w.heap.size w w6) := L5.out.trans (hb6.mono L5.out.size)
    have D16 := hide (D1.out.kept hb6)
    have D26 := hide (D2.out.kept hb6)
    have RA6 := hide (RA.out.kept hb6)
    have RB6 := hide (RB.out.kept hb6)
    clear hb6
    go_wp2_with fail
    refine (nroot_any l _ w6 (R.out.kept L6.out)).mono ?_
    rintro e w7 ⟨rfl, hb7⟩
    have L7 : Hid (Below w.heap.size w w7) := L6.out.trans (hb7.mono L6.out.size)
    have D17 := hide (D16.out.kept hb7)
    have D27 := hide (D26.out.kept hb7)
    have RA7 := hide (RA6.out.kept hb7)
    have RB7 := hide (RB6.out.kept hb7)
    clear hb7
    have x0 : w7.cell? ⟨E, 0, none⟩ = some (.int .i64 (m : Int)) := D17.out.cell (j := 0) rfl
    have x1 : w7.cell? ⟨E, 1, none⟩ = some (.slice a1 k c1) := D17.out.cell (j := 1) rfl
    have y0 : w7.cell? ⟨E + 1, 0, none⟩ = some (.int .i64 (m : Int)) := D27.out.cell (j := 0) rfl
    have y1 : w7.cell? ⟨E + 1, 1, none⟩ = some (.slice a2 k c2) := D27.out.cell (j := 1) rfl
    have eQ := eqA (root nd em l) (root nd em l)
    rw [decide_eq_true rfl] at eQ
    simp only [HV]
    go_wp2_with fail
    refine (nsame_any RA7.out RB7.out).mono ?_
    rintro e w8 ⟨rfl, hb8⟩
    rw [decide_eq_true rfl]
    have L8 : Hid (Below w.heap.size w w8) := L7.out.trans (hb8.mono L7.out.size)
    clear hb8 x0 x1 y0 y1
    go_wp2_with fail
    refine (mlives_any _).mono ?_
    rintro e w9 ⟨rfl, hb9⟩
    have L9 : Hid (Below w.heap.size w w9) := L8.out.trans (hb9.mono L8.out.size)
    clear hb9
    go_wp2
    go_ret
    exact ⟨rfl, L9.out⟩
#print axioms mountainRoots_any
end Go.Proofs.YtinlpaabmojmkaaDoor
