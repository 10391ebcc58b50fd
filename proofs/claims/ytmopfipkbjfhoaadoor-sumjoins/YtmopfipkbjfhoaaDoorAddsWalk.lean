/-
  indenturelaw02.SumAdds, SumJoins, SumNoughts: the walks: each call returns true and makes new memory alone.
-/
import Derived.Test.YtmopfipkbjfhoaaDoorLives
namespace Go.Proofs.YtmopfipkbjfhoaaDoor
open Go.RowKit

set_option maxRecDepth 100000 in
set_option maxHeartbeats 400000 in
theorem sumAdds_any (va vb : Value) (a b : List UInt8) (n : Int) (w : World) (hT : Tab w) (ha : Rd w va a) (hb : Rd w vb b) :
    Calls Tryd.prog 3 #[va, vb, .int .i64 n] w fun e w' => e = .returned (.bool true) ∧ Below w.heap.size w w' := by
  have ha0 := ha
  have hb0 := hb
  obtain ⟨a1, c1, rfl, -⟩ := ha
  obtain ⟨a2, c2, rfl, -⟩ := hb
  by_cases h1 : 2000 < a.length
  · have h1' : (2000 : Int) < a.length := by omega
    go_enter Tryd.func3, Tryd.ntmps3
    go_wp2_with fail
    refine (lives_any w hT).mono ?_
    rintro e w1 ⟨rfl, hb1⟩
    go_wp2_with fail
    go_ret
    exact ⟨rfl, hb1⟩
  have h1' : ¬ (2000 : Int) < a.length := by omega
  by_cases h2 : 2000 < b.length
  · have h2' : (2000 : Int) < b.length := by omega
    go_enter Tryd.func3, Tryd.ntmps3
    go_wp2_with fail
    refine (lives_any w hT).mono ?_
    rintro e w1 ⟨rfl, hb1⟩
    go_wp2_with fail
    go_ret
    exact ⟨rfl, hb1⟩
  have h2' : ¬ (2000 : Int) < b.length := by omega
  by_cases h3 : 3000 < n
  · go_enter Tryd.func3, Tryd.ntmps3
    go_wp2_with fail
    refine (lives_any w hT).mono ?_
    rintro e w1 ⟨rfl, hb1⟩
    go_wp2_with fail
    go_ret
    exact ⟨rfl, hb1⟩
  have HL1 : a.length ≤ 2000 := by omega
  have HL2 : b.length ≤ 2000 := by omega
  clear h1 h2
  go_enter Tryd.func3, Tryd.ntmps3
  go_wp2_with fail
  refine (of_any _ a w hT ha0 (by omega)).mono ?_
  rintro e w1 ⟨rfl, hw1⟩
  subst hw1
  go_wp2_with fail
  refine (of_any _ b _ hT hb0 (by omega)).mono ?_
  rintro e w1 ⟨rfl, hw1⟩
  subst hw1
  go_wp2_with fail
  refine (refOf_any _ a _ ha0 (by omega)).mono ?_
  rintro e w1 ⟨rfl, hw1⟩
  subst hw1
  generalize crc a = x
  generalize crc b = y
  go_wp2_with fail
  refine (add_any x _ b _ hT hb0 (by omega)).mono ?_
  rintro e w1 ⟨rfl, hw1⟩
  subst hw1
  go_wp2_with fail
  refine (refAdd_any x _ b _ hb0 (by omega)).mono ?_
  rintro e w1 ⟨rfl, hw1⟩
  subst hw1
  generalize crcAdd x b = z
  go_wp2_with fail
  refine (join_any x y n _ (by omega)).mono ?_
  rintro e w1 ⟨rfl, hw1⟩
  subst hw1
  go_wp2_with fail
  refine (refJoin_any x y n _ (by omega)).mono ?_
  rintro e w1 ⟨rfl, hw1⟩
  subst hw1
  generalize joined x y n.toNat = j
  go_wp2_with fail
  refine (lives_any _ hT).mono ?_
  rintro e w2 ⟨rfl, hb2⟩
  go_wp2_with fail
  go_ret
  exact ⟨rfl, hb2⟩
#print axioms sumAdds_any

set_option maxRecDepth 100000 in
set_option maxHeartbeats 400000 in
theorem sumJoins_any (va vb : Value) (a b : List UInt8) (w : World) (hT : Tab w) (ha : Rd w va a) (hb : Rd w vb b) :
    Calls Tryd.prog 5 #[va, vb] w fun e w' => e = .returned (.bool true) ∧ Below w.heap.size w w' := by
  obtain ⟨i0, hi, hz0, hz1, hz2⟩ := info_parts Tryd.info5
  have ha0 := ha
  have hb0 := hb
  obtain ⟨a1, c1, rfl, -⟩ := ha
  obtain ⟨a2, c2, rfl, -⟩ := hb
  by_cases h1 : 3000 < a.length
  · have h1' : (3000 : Int) < a.length := by omega
    go_enter Tryd.func5, Tryd.ntmps5
    go_wp2_with fail
    refine (lives_any w hT).mono ?_
    rintro e w1 ⟨rfl, hb1⟩
    go_wp2_with fail
    go_ret
    exact ⟨rfl, hb1⟩
  have h1' : ¬ (3000 : Int) < a.length := by omega
  by_cases h2 : 3000 < b.length
  · have h2' : (3000 : Int) < b.length := by omega
    go_enter Tryd.func5, Tryd.ntmps5
    go_wp2_with fail
    refine (lives_any w hT).mono ?_
    rintro e w1 ⟨rfl, hb1⟩
    go_wp2_with fail
    go_ret
    exact ⟨rfl, hb1⟩
  have h2' : ¬ (3000 : Int) < b.length := by omega
  have HL1 : a.length ≤ 3000 := by omega
  have HL2 : b.length ≤ 3000 := by omega
  clear h1 h2
  have e1 : Hid (crcAdd (crc a) b = crc (a ++ b)) := crcAdd_append a b
  have e2 : Hid (joined (crc a) (crc b) b.length = crc (a ++ b)) := joined_crc a b
  have e3 : Hid (joined (crc a) 0#32 0 = crc a) := joined_none _
  have hr1 : Rd (w.alloc (.cells #[] 5 (0, 0))) (.slice a1 a.length c1) a := ha0.kept ((Below.refl _ _).alloc (Nat.le_refl _) _)
  have hr2 : Rd (w.alloc (.cells #[] 5 (0, 0))) (.slice a2 b.length c2) b := hb0.kept ((Below.refl _ _).alloc (Nat.le_refl _) _)
  go_enter Tryd.func5, Tryd.ntmps5
  go_wp2_with (first
    | (at_builtin; refine wpList_append_bytes _ rfl (.tmp 15) (.tmp 16) 22 22 rfl w.heap.size i0 Tryd.underlying22 hi hz0 hz1 hz2 _ [] rfl (own_none w _ (Nat.le_refl _)) _ a rfl (hr1.src 22 Tryd.underlying22) (by simp; omega) (by simp) ?_; intro v1 w1 ho1 hb1; simp only [List.nil_append] at ho1)
    | (at_builtin; refine wpList_append_bytes _ rfl (.tmp 17) (.tmp 18) 22 22 rfl w.heap.size i0 Tryd.underlying22 hi hz0 hz1 hz2 v1 a rfl ho1 _ b rfl (by exact (hb0.kept (((Below.refl _ _).alloc (Nat.le_refl _) _).trans hb1)).src 22 Tryd.underlying22) (by omega) (by have := hb1.size; simp at this; omega) ?_; intro v2 w2 ho2 hb2))
  have hbw : Below w.heap.size w w2 := (((Below.refl _ _).alloc (Nat.le_refl _) _).trans hb1).trans hb2
  have hT2 := hT.kept hbw
  have ha2 := ha0.kept hbw
  have hb2' := hb0.kept hbw
  refine (of_any _ (a ++ b) w2 hT2 ho2.rd (by simp; omega)).mono ?_
  rintro e w3 ⟨rfl, hw3⟩
  subst hw3
  go_wp2_with fail
  refine (of_any _ a _ hT2 ha2 (by omega)).mono ?_
  rintro e w1 ⟨rfl, hw1⟩
  subst hw1
  go_wp2_with fail
  refine (add_any _ _ b _ hT2 hb2' (by omega)).mono ?_
  rintro e w1 ⟨rfl, hw1⟩
  subst hw1
  rw [e1.out]
  go_wp2_with fail
  refine (of_any _ a _ hT2 ha2 (by omega)).mono ?_
  rintro e w1 ⟨rfl, hw1⟩
  subst hw1
  go_wp2_with fail
  refine (of_any _ b _ hT2 hb2' (by omega)).mono ?_
  rintro e w1 ⟨rfl, hw1⟩
  subst hw1
  go_wp2_with fail
  refine (join_nat _ _ b.length _ (by omega)).mono ?_
  rintro e w1 ⟨rfl, hw1⟩
  subst hw1
  rw [e2.out]
  go_wp2_with fail
  refine (of_any _ a _ hT2 ha2 (by omega)).mono ?_
  rintro e w1 ⟨rfl, hw1⟩
  subst hw1
  go_wp2_with fail
  refine (join_nat _ 0#32 0 _ (by omega)).mono ?_
  rintro e w1 ⟨rfl, hw1⟩
  subst hw1
  rw [e3.out]
  go_wp2_with fail
  refine (of_any _ a _ hT2 ha2 (by omega)).mono ?_
  rintro e w1 ⟨rfl, hw1⟩
  subst hw1
  go_wp2_with fail
  refine (lives_any _ hT2).mono ?_
  rintro e w4 ⟨rfl, hb4⟩
  go_wp2_with fail
  go_ret
  exact ⟨rfl, hbw.trans (hb4.mono hbw.size)⟩
#print axioms sumJoins_any

set_option maxRecDepth 100000 in
set_option maxHeartbeats 400000 in
theorem sumNoughts_any (va vb vc : Value) (a b c : List UInt8) (w : World) (hT : Tab w) (ha : Rd w va a) (hb : Rd w vb b) (hc : Rd w vc c)
    (la : a.length ≤ 140737488355328) (lb : b.length ≤ 140737488355328) (lc : c.length ≤ 140737488355328) :
    Calls Tryd.prog 8 #[va, vb, vc] w fun e w' => e = .returned (.bool true) ∧ Below w.heap.size w w' := by
  have ha0 := ha
  have hb0 := hb
  have hc0 := hc
  obtain ⟨a1, c1, rfl, -⟩ := ha
  obtain ⟨a2, c2, rfl, -⟩ := hb
  obtain ⟨a3, c3, rfl, -⟩ := hc
  by_cases h1 : 4000 < a.length + b.length + c.length
  · have h1' : (4000 : Int) < a.length + b.length + c.length := by omega
    go_enter Tryd.func8, Tryd.ntmps8
    go_wp2_with fail
    refine (lives_any w hT).mono ?_
    rintro e w1 ⟨rfl, hb1⟩
    go_wp2_with fail
    go_ret
    exact ⟨rfl, hb1⟩
  have h1' : ¬ (4000 : Int) < a.length + b.length + c.length := by omega
  have h2' : ¬ (4000 : Int) < a.length := by omega
  have h3' : ¬ (4000 : Int) < b.length := by omega
  have HL1 : a.length ≤ 4000 := by omega
  have HL2 : b.length ≤ 4000 := by omega
  have HL3 : c.length ≤ 4000 := by omega
  clear h1
  have e1 := joined_assoc (crc a) (crc b) (crc c) b.length c.length
  have e2 := joined_diff (crc a) (crc b) (crc c) b.length
  have E1 : Hid _ := e1
  clear e1
  have x1 := u32_xor_bv (joined (crc a) (crc b) b.length) (joined (crc c) (crc b) b.length)
  rw [e2] at x1
  have x2 := u32_xor_bv (crc a) (crc c)
  clear e2
  go_enter Tryd.func8, Tryd.ntmps8
  go_wp2_with fail
  refine (of_any _ a w hT ha0 (by omega)).mono ?_
  rintro e w1 ⟨rfl, hw1⟩
  subst hw1
  go_wp2_with fail
  refine (of_any _ b _ hT hb0 (by omega)).mono ?_
  rintro e w1 ⟨rfl, hw1⟩
  subst hw1
  go_wp2_with fail
  refine (of_any _ c _ hT hc0 (by omega)).mono ?_
  rintro e w1 ⟨rfl, hw1⟩
  subst hw1
  generalize hX : crc a = x at *
  generalize hY : crc b = y at *
  generalize hZ : crc c = z at *
  clear hX hY hZ
  go_wp2_with fail
  refine (join_nat x y b.length _ (by omega)).mono ?_
  rintro e w1 ⟨rfl, hw1⟩
  subst hw1
  go_wp2_with fail
  refine (join_nat _ z c.length _ (by omega)).mono ?_
  rintro e w1 ⟨rfl, hw1⟩
  subst hw1
  rw [E1.out]
  go_wp2_with fail
  refine (join_nat y z c.length _ (by omega)).mono ?_
  rintro e w1 ⟨rfl, hw1⟩
  subst hw1
  go_wp2_with fail
  refine (join_nat x _ (b.length + c.length) _ (by omega)).mono ?_
  rintro e w1 ⟨rfl, hw1⟩
  subst hw1
  go_wp2_with fail
  refine (join_nat x y b.length _ (by omega)).mono ?_
  rintro e w1 ⟨rfl, hw1⟩
  subst hw1
  go_wp2_with fail
  refine (join_nat z y b.length _ (by omega)).mono ?_
  rintro e w1 ⟨rfl, hw1⟩
  subst hw1
  go_wp2_with fail
  refine (join_nat (x ^^^ z) 0#32 b.length _ (by omega)).mono ?_
  rintro e w1 ⟨rfl, hw1⟩
  subst hw1
  go_wp2_with fail
  refine (lives_any _ hT).mono ?_
  rintro e w4 ⟨rfl, hb4⟩
  go_wp2_with fail
  go_ret
  exact ⟨rfl, hb4⟩
#print axioms sumNoughts_any
end Go.Proofs.YtmopfipkbjfhoaaDoor
