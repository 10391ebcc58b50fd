/-
  indenturelaw10.ProofPaths: the walk.
-/
import Derived.Test.YtfclmjfbcmjfbaaDoorPfY
import Derived.Test.YtfclmjfbcmjfbaaDoorMtS
namespace Go.Proofs.YtfclmjfbcmjfbaaDoor
open Go.RowKit
theorem paths_same (L : List Hs) (i : Int) : (if 0 ≤ i ∧ i < (L.length : Int) then pathR 40 L i.toNat else []) = pathW L i := by
  unfold pathW
  by_cases h : 0 ≤ i ∧ i < (L.length : Int)
  · rw [if_pos h, if_pos h, way_path L 40 0 L.length i.toNat (Nat.zero_le _) (by omega) (Nat.le_refl _), seg_all, Nat.sub_zero]
  · rw [if_neg h, if_neg h]
theorem grown_same (L : List Hs) (m : Int) (hl : L.length ≤ 60) : (if 1 ≤ m ∧ m ≤ (L.length : Int) then subR 40 m.toNat L true else []) = grownC L m := by
  unfold grownC
  by_cases h : 1 ≤ m ∧ m ≤ (L.length : Int)
  · have := way_sub L 40 0 L.length m.toNat (by omega) (by omega) (Nat.le_refl _) (by omega)
    rw [seg_all, Nat.sub_zero] at this
    rw [if_pos h, if_pos h, this]
    rfl
  · rw [if_neg h, if_neg h]
set_option maxHeartbeats 8000000 in
set_option maxRecDepth 100000 in
theorem proofPaths_any (L : List Hs) (v : Value) (i : Int) (w : World) (hT : Tabs w) (hL : RdG HE w v L) :
    Calls Tryd.prog 3 #[v, .int .i64 i] w fun e w' => e = .returned (.bool true) ∧ Below w.heap.size w w' := by
  have HT := hide hT
  have RL := hide hL
  have CL := light_any v L w hL
  obtain ⟨p, cp, rfl⟩ := hL.slice
  obtain ⟨n, HN⟩ : ∃ n, Hid (L.length = n) := ⟨_, rfl⟩
  rw [HN.out] at RL CL ⊢
  clear hT hL
  have hlive : ∀ w2, Below w.heap.size w w2 → Calls Tryd.prog 10 #[] w2 fun e w' => e = .returned (.bool true) ∧ Below w.heap.size w w' := fun w2 hb2 =>
    (lives_any w2 (HT.out.kept (hb2.mono HT.out.size))).mono (fun e w' h => ⟨h.1, hb2.trans (h.2.mono hb2.size)⟩)
  have HLV := hide hlive
  clear hlive
  by_cases hn : n ≤ 60
  · rw [decide_eq_true hn] at CL
    have HCL := hide CL
    clear CL
    obtain ⟨P, HP⟩ : ∃ P, Hid (pathW L i = P) := ⟨_, rfl⟩
    obtain ⟨G, HG⟩ : ∃ P, Hid (grownC L i = P) := ⟨_, rfl⟩
    obtain ⟨o1, HO1⟩ : ∃ b, Hid (decide (0 ≤ i ∧ i < (n : Int)) = b) := ⟨_, rfl⟩
    obtain ⟨o2, HO2⟩ : ∃ b, Hid (decide (1 ≤ i ∧ i ≤ (n : Int)) = b) := ⟨_, rfl⟩
    have HC1 : Hid (∀ w2, Below w.heap.size w w2 → Calls Tryd.prog 11 #[.slice p n cp, .int .i64 i] w2 fun e w' => (∃ a k c, e = .returned (.tuple #[.slice a k c, .bool o1]) ∧ RdG HE w' (.slice a k c) P) ∧ Below w2.heap.size w2 w') := (fun w2 hb => by
      have := path_any _ L i (by rw [HN.out]; omega) w2 (HT.out.kept (hb.mono HT.out.size)) (RL.out.kept hb)
      rw [HN.out, HO1.out, HP.out] at this
      refine this.mono ?_
      rintro e w' ⟨⟨v', rfl, ho⟩, hb'⟩
      obtain ⟨a, c, hv⟩ := ho.rd.slice
      have hr := ho.rd
      rw [hv] at hr
      exact ⟨⟨a, P.length, c, by rw [hv], hr⟩, hb'⟩)
    have HC2 : Hid (∀ w2, Below w.heap.size w w2 → Calls Tryd.prog 12 #[.slice p n cp, .int .i64 i] w2 fun e w' => (∃ a k c, e = .returned (.tuple #[.slice a k c, .bool o1]) ∧ RdG HE w' (.slice a k c) P) ∧ Below w2.heap.size w2 w') := (fun w2 hb => by
      have := xpath_any 40 (Nat.le_refl _) L _ i w2 (by rw [HN.out]; omega) (by rw [HN.out]; exact hn) (RL.out.kept hb)
      rw [paths_same, HN.out, HO1.out, HP.out] at this
      exact this)
    have HC3 : Hid (∀ w2, Below w.heap.size w w2 → Calls Tryd.prog 13 #[.slice p n cp, .int .i64 i] w2 fun e w' => (∃ a k c, e = .returned (.tuple #[.slice a k c, .bool o2]) ∧ RdG HE w' (.slice a k c) G) ∧ Below w2.heap.size w2 w') := (fun w2 hb => by
      have := grown_any _ L i (by rw [HN.out]; omega) w2 (HT.out.kept (hb.mono HT.out.size)) (RL.out.kept hb)
      rw [HN.out, HO2.out, HG.out] at this
      refine this.mono ?_
      rintro e w' ⟨⟨v', rfl, ho⟩, hb'⟩
      obtain ⟨a, c, hv⟩ := ho.rd.slice
      have hr := ho.rd
      rw [hv] at hr
      exact ⟨⟨a, G.length, c, by rw [hv], hr⟩, hb'⟩)
    have HC4 : Hid (∀ w2, Below w.heap.size w w2 → Calls Tryd.prog 14 #[.slice p n cp, .int .i64 i] w2 fun e w' => (∃ a k c, e = .returned (.tuple #[.slice a k c, .bool o2]) ∧ RdG HE w' (.slice a k c) G) ∧ Below w2.heap.size w2 w') := (fun w2 hb => by
      have := xgrown_any L _ i w2 (by rw [HN.out]; exact hn) (RL.out.kept hb)
      rw [grown_same L i (by rw [HN.out]; exact hn), HN.out, HO2.out, HG.out] at this
      exact this)
    clear HP HG HO1 HO2
    go_enter Tryd.func3, Tryd.ntmps3
    go_wp2_with fail
    refine HCL.out.mono ?_
    rintro e w1 ⟨rfl, hw1⟩
    subst w1
    go_wp2_with fail
    refine (HC1.out w (Below.refl _ _)).mono ?_
    rintro e w2 ⟨⟨a1, k1, c1, rfl, hr1⟩, hb2⟩
    have L2 := hide hb2
    have R12 := hide hr1
    clear hr1 hb2
    go_wp2_with fail
    refine (HC2.out w2 L2.out).mono ?_
    rintro e w3 ⟨⟨a2, k2, c2, rfl, hr2⟩, hb3⟩
    have L3 : Hid (Below w.heap.size w w3) := L2.out.trans (hb3.mono L2.out.size)
    have R13 := hide (R12.out.kept hb3)
    have R23 := hide hr2
    clear hr2 hb3
    go_wp2_with fail
    refine (HC3.out w3 L3.out).mono ?_
    rintro e w4 ⟨⟨a3, k3, c3, rfl, hr3⟩, hb4⟩
    have L4 : Hid (Below w.heap.size w w4) := L3.out.trans (hb4.mono L3.out.size)
    have R14 := hide (R13.out.kept hb4)
    have R24 := hide (R23.out.kept hb4)
    have R34 := hide hr3
    clear hr3 hb4
    go_wp2_with fail
    refine (HC4.out w4 L4.out).mono ?_
    rintro e w5 ⟨⟨a4, k4, c4, rfl, hr4⟩, hb5⟩
    have L5 : Hid (Below w.heap.size w w5) := L4.out.trans (hb5.mono L4.out.size)
    have R15 := hide (R14.out.kept hb5)
    have R25 := hide (R24.out.kept hb5)
    have R35 := hide (R34.out.kept hb5)
    have R45 := hide hr4
    clear hr4 hb5
    go_wp2_with fail
    have C5 := nsame_any R15.out R25.out
    rw [decide_eq_true rfl] at C5
    refine C5.mono ?_
    clear C5
    rintro e w6 ⟨rfl, hb6⟩
    have L6 : Hid (Below w.heap.size w w6) := L5.out.trans (hb6.mono L5.out.size)
    have R36 := hide (R35.out.kept hb6)
    have R46 := hide (R45.out.kept hb6)
    clear hb6
    have C6 := nsame_any R36.out R46.out
    rw [decide_eq_true rfl] at C6
    have HC6 := hide C6
    clear C6
    go_wp2_with fail
    refine HC6.out.mono ?_
    rintro e w7 ⟨rfl, hb7⟩
    have L7 : Hid (Below w.heap.size w w7) := L6.out.trans (hb7.mono L6.out.size)
    clear hb7
    go_wp2_with fail
    refine (HLV.out w7 L7.out).mono ?_
    rintro e w8 ⟨rfl, hb8⟩
    go_wp2_with fail
    go_ret
    exact ⟨rfl, hb8⟩
  · rw [decide_eq_false hn] at CL
    have HCL := hide CL
    clear CL
    go_enter Tryd.func3, Tryd.ntmps3
    go_wp2_with fail
    refine HCL.out.mono ?_
    rintro e w1 ⟨rfl, hw1⟩
    subst w1
    go_wp2_with fail
    refine (HLV.out w (Below.refl _ _)).mono ?_
    rintro e w2 ⟨rfl, hb2⟩
    go_wp2_with fail
    go_ret
    exact ⟨rfl, hb2⟩
#print axioms proofPaths_any
end Go.Proofs.YtfclmjfbcmjfbaaDoor
