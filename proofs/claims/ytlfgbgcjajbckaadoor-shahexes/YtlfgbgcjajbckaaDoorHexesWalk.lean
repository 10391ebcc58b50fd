/-
  indenturelaw03.ShaHexes: the walk.
-/
import Derived.Test.YtlfgbgcjajbckaaDoorRefHex
import Derived.Test.YtlfgbgcjajbckaaDoorQuiet
namespace Go.Proofs.YtlfgbgcjajbckaaDoor
open Go.RowKit
theorem ba_ne {s t : ByteArray} (h : s ≠ t) : (s.toList == t.toList) = false := by
  rw [beq_eq_false_iff_ne, ByteArray.toList_eq, ByteArray.toList_eq]
  exact fun e => h (ByteArray.ext (Array.toList_inj.1 e))
set_option maxHeartbeats 1000000 in
set_option maxRecDepth 100000 in
theorem none_any (w : World) : Calls Tryd.prog 21 #[] w fun e w' => e = .returned (.agg Zh.toArray) ∧ Below w.heap.size w w' := by
  obtain ⟨Z, HZ0⟩ : ∃ Z, Hid (Zh = Z) := ⟨_, rfl⟩
  have hzl : Z.length = 32 := by rw [← HZ0.out]; rfl
  have HZ1 : Hid (∀ u ∈ Z, u.oneCell' = true) := (show ∀ u ∈ Z, _ by rw [← HZ0.out]; exact By_one _)
  go_enter Tryd.func21, Tryd.ntmps21
  go_wp2_with (first
    | (refine wpList_build rfl 25 _ rfl (.agg Zh.toArray) (by kernel_rfl) ?_; rw [HZ0.out])
    | (refine wpList_store_new rfl 25 _ _ rfl w _ _ _ rfl rfl rfl (by simpa [hzl] using Tryd.size25) (by simp [hzl]) (all_one HZ1.out) ?_)
    | fail)
  refine bodyPost_ret (results_cell_row rfl _ _ w.heap.size 25 _ (0, 0) _ rfl (Blk.new w 25 Z) Tryd.underlying25 rfl (by simpa [hzl] using Tryd.size25)) rfl ⟨by rw [HZ0.out], (Below.refl _ _).alloc (Nat.le_refl _) _⟩
set_option maxHeartbeats 1000000 in
set_option maxRecDepth 100000 in
theorem shaHexes_any (la lb s : List UInt8) (w : World) (hT : Tabs w) (ha : la.length = 32) (hb : lb.length = 32) :
    Calls Tryd.prog 8 #[.agg (By la).toArray, .agg (By lb).toArray, .string ⟨s.toArray⟩] w fun e w' => e = .returned (.bool true) ∧ Below w.heap.size w w' := by
  have HT : Hid (Tabs w) := hT
  clear hT
  have hsz : (⟨s.toArray⟩ : ByteArray).size = s.length := by simp [ByteArray.size]
  obtain ⟨N, HN⟩ : ∃ N, Hid (w.heap.size = N) := ⟨_, rfl⟩
  have HWa : Hid _ := hex_any la ha
  have HWb : Hid _ := hex_any lb hb
  have HP1 : Hid _ := parse_any s
  have HWp : Hid _ := hex_any (prs s) (prs_length s)
  have HOK : Hid (okd s = true → (⟨(hex (prs s)).toArray⟩ : ByteArray) = ⟨s.toArray⟩) := (show _ → _ from fun h => by rw [hex_prs h])
  have HNO : Hid (okd s = false → By (prs s) = Zh) := (show _ → _ from fun h => by rw [prs_none h]; rfl)
  obtain ⟨S, HS⟩ : ∃ S : ByteArray, Hid ((⟨s.toArray⟩ : ByteArray) = S) := ⟨_, rfl⟩
  obtain ⟨X, HX⟩ : ∃ X : ByteArray, Hid ((⟨(hex la).toArray⟩ : ByteArray) = X) := ⟨_, rfl⟩
  obtain ⟨Y, HY⟩ : ∃ Y : ByteArray, Hid ((⟨(hex lb).toArray⟩ : ByteArray) = Y) := ⟨_, rfl⟩
  obtain ⟨V, HV⟩ : ∃ V : ByteArray, Hid ((⟨(hex (prs s)).toArray⟩ : ByteArray) = V) := ⟨_, rfl⟩
  have hX : X.size = 64 := by rw [← HX.out]; simp [ByteArray.size, hex_length, ha]
  have HXY : Hid (X = Y ↔ la = lb) := (show _ ↔ _ by
    rw [← HX.out, ← HY.out]
    constructor
    · intro h
      have h2 : (hex la).toArray = (hex lb).toArray := congrArg ByteArray.data h
      exact hex_inj ha hb (by simpa using h2)
    · intro h; rw [h])
  rw [HX.out] at HWa
  rw [HY.out] at HWb
  rw [HV.out] at HWp HOK
  rw [HS.out] at HP1 hsz HOK ⊢
  have e1 := eq25 la lb ha hb
  have e2 := eq25 (List.replicate 32 0) (List.replicate 32 0) rfl rfl
  have e2 : ∀ W, (Op.equalIn 10000 25 (.agg Zh.toArray) (.agg Zh.toArray)).run Tryd.prog W = .ok true W := e2
  obtain ⟨ab, HAB⟩ : ∃ b, Hid ((la == lb) = b) := ⟨_, rfl⟩
  rw [HAB.out] at e1
  have HXY2 : Hid (X = Y ↔ ab = true) := (show _ ↔ _ by rw [HXY.out, ← HAB.out, beq_iff_eq])
  obtain ⟨ok, HO⟩ : ∃ b, Hid (okd s = b) := ⟨_, rfl⟩
  rw [HO.out] at HP1 HOK HNO
  obtain ⟨A, HA⟩ : ∃ D, Hid (By la = D) := ⟨_, rfl⟩
  have hal : A.length = 32 := by rw [← HA.out, By_length, ha]
  obtain ⟨B, HB⟩ : ∃ D, Hid (By lb = D) := ⟨_, rfl⟩
  have hbl : B.length = 32 := by rw [← HB.out, By_length, hb]
  obtain ⟨E, HE⟩ : ∃ E, Hid (By (prs s) = E) := ⟨_, rfl⟩
  have hel : E.length = 32 := by rw [← HE.out, By_length, prs_length]
  have HE1 : Hid (∀ u ∈ E, u.oneCell' = true) := (show ∀ u ∈ E, _ by rw [← HE.out]; exact By_one _)
  have HZN : Hid _ := none_any
  obtain ⟨Z, HZ⟩ : ∃ Z, Hid (Zh = Z) := ⟨_, rfl⟩
  rw [HA.out] at HWa e1 ⊢
  rw [HB.out] at HWb e1 ⊢
  rw [HE.out] at HP1 HWp HNO
  rw [HZ.out] at e2 HNO HZN
  clear HAB HO HS HX HY HV HXY
  by_cases hbig : 1000 < s.length
  · have q1 : (1000 : Int) < (s.length : Int) := by omega
    have HL0 : Hid (∀ o o', Below w.heap.size w ((w.alloc o).alloc o')) := (show ∀ o o', _ from fun o o' => ((Below.refl _ _).alloc (Nat.le_refl _) _).alloc (by simp) _)
    go_enter Tryd.func8, Tryd.ntmps8
    go_wp2_with fail
    refine (lives_any _ (HT.out.kept ((HL0.out _ _).mono HT.out.size))).mono ?_
    rintro e w1 ⟨rfl, hb1⟩
    go_wp2
    go_ret
    exact ⟨rfl, (HL0.out _ _).trans (hb1.mono (HL0.out _ _).size)⟩
  · have q1 : ¬ (1000 : Int) < (s.length : Int) := by omega
    go_enter Tryd.func8, Tryd.ntmps8
    go_wp2_with fail
    obtain ⟨w1, hw1⟩ : ∃ x, x = (w.alloc (.cells A.toArray 25 (0, 0))).alloc (.cells B.toArray 25 (0, 0)) := ⟨_, rfl⟩
    change Code.wp _ _ _ _ ((w.alloc (.cells A.toArray 25 (0, 0))).alloc (.cells B.toArray 25 (0, 0)))
    rw [← hw1]
    rw [HN.out]
    have A1 : Hid (Blk w1 N 25 A) := (show Blk _ _ _ _ by rw [hw1, ← HN.out]; exact (Blk.new w 25 A).alloc _)
    have B1 : Hid (Blk w1 (N + 1) 25 B) := (show Blk _ _ _ _ by
      have := Blk.new (w.alloc (.cells A.toArray 25 (0, 0))) 25 B
      rw [show (w.alloc (.cells A.toArray 25 (0, 0))).heap.size = N + 1 by simp [HN.out]] at this
      rw [hw1]; exact this)
    have L1 : Hid (Below N w w1) := (show Below _ _ _ by rw [hw1]; exact ((Below.refl _ _).alloc (by rw [HN.out]; exact Nat.le_refl _) _).alloc (by simp [HN.out]) _)
    clear hw1
    have cA : ∀ d os, Calls Tryd.prog 14 #[.agg A.toArray] (Go.Sort.grow (redrawn w1 d) os) fun e w'' => e = .returned (.string X) ∧ ∃ p : Regrown, w'' = Go.Sort.grow (redrawn w1 p.d) p.os := fun d os => Calls.regrown_of (HWa.out _)
    have cB : ∀ d os, Calls Tryd.prog 14 #[.agg B.toArray] (Go.Sort.grow (redrawn w1 d) os) fun e w'' => e = .returned (.string Y) ∧ ∃ p : Regrown, w'' = Go.Sort.grow (redrawn w1 p.d) p.os := fun d os => Calls.regrown_of (HWb.out _)
    refine wp_region_quiet_below Tryd.mixed (by kernel_rfl) ?_
    refine wpQuiet_load_mid rfl 25 _ rfl N 0 rfl A _ A1.out.class Tryd.underlying25 rfl (by rw [hal]; exact Tryd.size25) ?_
    simp only [Act.put, List.setIfInBounds_toArray, List.set_cons_succ, List.set_cons_zero]
    go_big_quiet_step (exact cA _ _)
    refine wpQuiet_load_mid rfl 25 _ rfl (N + 1) 0 rfl B _ B1.out.class Tryd.underlying25 rfl (by rw [hbl]; exact Tryd.size25) ?_
    simp only [Act.put, List.setIfInBounds_toArray, List.set_cons_succ, List.set_cons_zero]
    go_big_quiet_step (exact cB _ _)
    iterate 2 (go_big_quiet_step (fail))
    refine wpQuiet_nil ?_
    intro w2 hw2
    have L12 : Hid (Below w1.heap.size w1 w2) := (show Below _ _ _ by obtain ⟨⟨dq, osq⟩, rfl⟩ := hw2; exact below_regrown w1 dq osq)
    have A2 : Hid (Blk w2 N 25 A) := A1.out.kept L12.out
    have B2 : Hid (Blk w2 (N + 1) 25 B) := B1.out.kept L12.out
    have L2 : Hid (Below N w w2) := L1.out.trans (L12.out.mono (Nat.le_of_lt A1.out.lt))
    clear hw2 cA cB L12 A1 B1 L1
    go_wp2_with fail
    refine (HP1.out w2).mono ?_
    rintro e w4 ⟨rfl, hb4⟩
    have A4 : Hid (Blk w4 N 25 A) := A2.out.kept hb4
    have B4 : Hid (Blk w4 (N + 1) 25 B) := B2.out.kept hb4
    have L4 : Hid (Below N w w4) := L2.out.trans (hb4.mono (Nat.le_of_lt A2.out.lt))
    clear hb4 A2 B2 L2
    obtain ⟨M1, HM1⟩ : ∃ M, Hid (w4.heap.size = M) := ⟨_, rfl⟩
    go_wp2_with (first
      | (refine wpList_store_new rfl 25 _ _ rfl w4 _ _ _ rfl rfl rfl (by simpa [hel] using Tryd.size25) (by simp [hel]) (all_one HE1.out) ?_)
      | fail)
    rw [HM1.out]
    obtain ⟨w5, hw5⟩ : ∃ x, x = w4.alloc (.cells E.toArray 25 (0, 0)) := ⟨_, rfl⟩
    rw [← hw5]
    have A5 : Hid (Blk w5 N 25 A) := (show Blk _ _ _ _ by rw [hw5]; exact A4.out.alloc _)
    have B5 : Hid (Blk w5 (N + 1) 25 B) := (show Blk _ _ _ _ by rw [hw5]; exact B4.out.alloc _)
    have E5 : Hid (Blk w5 M1 25 E) := (show Blk _ _ _ _ by rw [hw5, ← HM1.out]; exact Blk.new w4 25 E)
    have L5 : Hid (Below N w w5) := (show Below _ _ _ by rw [hw5]; exact L4.out.alloc (Nat.le_of_lt A4.out.lt) _)
    clear hw5 A4 B4 L4
    have HT5 : Hid (Tabs w5) := HT.out.kept (L5.out.mono (by rw [← HN.out]; exact HT.out.size))
    have cL : ∀ d os, Calls Tryd.prog 9 #[] (Go.Sort.grow (redrawn w5 d) os) fun e w'' => e = .returned (.bool true) ∧ ∃ p : Regrown, w'' = Go.Sort.grow (redrawn w5 p.d) p.os := fun d os => Calls.regrown_of (lives_any _ (HT5.out.kept ((below_regrown w5 d os).mono HT5.out.size)))
    cases ok
    · have hE := HNO.out rfl
      subst hE
      have cN : ∀ d os, Calls Tryd.prog 21 #[] (Go.Sort.grow (redrawn w5 d) os) fun e w'' => e = .returned (.agg E.toArray) ∧ ∃ p : Regrown, w'' = Go.Sort.grow (redrawn w5 p.d) p.os := fun d os => Calls.regrown_of (HZN.out _)
      cases ab
      · have hne : ¬ X = Y := fun h => by have := HXY2.out.1 h; simp at this
        have hne2 := ba_ne hne
        refine wp_region_quiet_below Tryd.mixed (by kernel_rfl) ?_
        iterate 7 (go_big_quiet_step (fail))
        refine wpQuiet_load_mid rfl 25 _ rfl N 0 rfl A _ A5.out.class Tryd.underlying25 rfl (by rw [hal]; exact Tryd.size25) ?_
        simp only [Act.put, List.setIfInBounds_toArray, List.set_cons_succ, List.set_cons_zero]
        refine wpQuiet_load_mid rfl 25 _ rfl (N + 1) 0 rfl B _ B5.out.class Tryd.underlying25 rfl (by rw [hbl]; exact Tryd.size25) ?_
        simp only [Act.put, List.setIfInBounds_toArray, List.set_cons_succ, List.set_cons_zero]
        iterate 7 (go_big_quiet_step (fail))
        iterate 9 (go_big_quiet_step (fail))
        refine wpQuiet_load_mid rfl 25 _ rfl M1 0 rfl E _ E5.out.class Tryd.underlying25 rfl (by rw [hel]; exact Tryd.size25) ?_
        simp only [Act.put, List.setIfInBounds_toArray, List.set_cons_succ, List.set_cons_zero]
        go_big_quiet_step (exact cN _ _)
        iterate 4 (go_big_quiet_step (fail))
        go_big_quiet_step (exact cL _ _)
        iterate 2 (go_big_quiet_step (fail))
        refine wpQuiet_nil ?_
        intro w9 hw9
        have L9 : Hid (Below N w w9) := (show Below _ _ _ by obtain ⟨⟨dq, osq⟩, rfl⟩ := hw9; exact L5.out.trans ((below_regrown w5 dq osq).mono (Nat.le_of_lt A5.out.lt)))
        clear hw9
        go_wp2
        go_ret
        exact ⟨rfl, by rw [HN.out]; exact L9.out⟩
      · have hE := HXY2.out.2 rfl
        subst hE
        refine wp_region_quiet_below Tryd.mixed (by kernel_rfl) ?_
        iterate 7 (go_big_quiet_step (fail))
        refine wpQuiet_load_mid rfl 25 _ rfl N 0 rfl A _ A5.out.class Tryd.underlying25 rfl (by rw [hal]; exact Tryd.size25) ?_
        simp only [Act.put, List.setIfInBounds_toArray, List.set_cons_succ, List.set_cons_zero]
        refine wpQuiet_load_mid rfl 25 _ rfl (N + 1) 0 rfl B _ B5.out.class Tryd.underlying25 rfl (by rw [hbl]; exact Tryd.size25) ?_
        simp only [Act.put, List.setIfInBounds_toArray, List.set_cons_succ, List.set_cons_zero]
        iterate 7 (go_big_quiet_step (fail))
        iterate 9 (go_big_quiet_step (fail))
        refine wpQuiet_load_mid rfl 25 _ rfl M1 0 rfl E _ E5.out.class Tryd.underlying25 rfl (by rw [hel]; exact Tryd.size25) ?_
        simp only [Act.put, List.setIfInBounds_toArray, List.set_cons_succ, List.set_cons_zero]
        go_big_quiet_step (exact cN _ _)
        iterate 4 (go_big_quiet_step (fail))
        go_big_quiet_step (exact cL _ _)
        iterate 2 (go_big_quiet_step (fail))
        refine wpQuiet_nil ?_
        intro w9 hw9
        have L9 : Hid (Below N w w9) := (show Below _ _ _ by obtain ⟨⟨dq, osq⟩, rfl⟩ := hw9; exact L5.out.trans ((below_regrown w5 dq osq).mono (Nat.le_of_lt A5.out.lt)))
        clear hw9
        go_wp2
        go_ret
        exact ⟨rfl, by rw [HN.out]; exact L9.out⟩
    · have hE := HOK.out rfl
      subst hE
      have cH : ∀ d os, Calls Tryd.prog 14 #[.agg E.toArray] (Go.Sort.grow (redrawn w5 d) os) fun e w'' => e = .returned (.string V) ∧ ∃ p : Regrown, w'' = Go.Sort.grow (redrawn w5 p.d) p.os := fun d os => Calls.regrown_of (HWp.out _)
      cases ab
      · have hne : ¬ X = Y := fun h => by have := HXY2.out.1 h; simp at this
        have hne2 := ba_ne hne
        refine wp_region_quiet_below Tryd.mixed (by kernel_rfl) ?_
        iterate 7 (go_big_quiet_step (fail))
        refine wpQuiet_load_mid rfl 25 _ rfl N 0 rfl A _ A5.out.class Tryd.underlying25 rfl (by rw [hal]; exact Tryd.size25) ?_
        simp only [Act.put, List.setIfInBounds_toArray, List.set_cons_succ, List.set_cons_zero]
        refine wpQuiet_load_mid rfl 25 _ rfl (N + 1) 0 rfl B _ B5.out.class Tryd.underlying25 rfl (by rw [hbl]; exact Tryd.size25) ?_
        simp only [Act.put, List.setIfInBounds_toArray, List.set_cons_succ, List.set_cons_zero]
        iterate 7 (go_big_quiet_step (fail))
        refine wpQuiet_load_mid rfl 25 _ rfl M1 0 rfl E _ E5.out.class Tryd.underlying25 rfl (by rw [hel]; exact Tryd.size25) ?_
        simp only [Act.put, List.setIfInBounds_toArray, List.set_cons_succ, List.set_cons_zero]
        go_big_quiet_step (exact cH _ _)
        iterate 7 (go_big_quiet_step (fail))
        iterate 6 (go_big_quiet_step (fail))
        go_big_quiet_step (exact cL _ _)
        iterate 2 (go_big_quiet_step (fail))
        refine wpQuiet_nil ?_
        intro w9 hw9
        have L9 : Hid (Below N w w9) := (show Below _ _ _ by obtain ⟨⟨dq, osq⟩, rfl⟩ := hw9; exact L5.out.trans ((below_regrown w5 dq osq).mono (Nat.le_of_lt A5.out.lt)))
        clear hw9
        go_wp2
        go_ret
        exact ⟨rfl, by rw [HN.out]; exact L9.out⟩
      · have hE := HXY2.out.2 rfl
        subst hE
        refine wp_region_quiet_below Tryd.mixed (by kernel_rfl) ?_
        iterate 7 (go_big_quiet_step (fail))
        refine wpQuiet_load_mid rfl 25 _ rfl N 0 rfl A _ A5.out.class Tryd.underlying25 rfl (by rw [hal]; exact Tryd.size25) ?_
        simp only [Act.put, List.setIfInBounds_toArray, List.set_cons_succ, List.set_cons_zero]
        refine wpQuiet_load_mid rfl 25 _ rfl (N + 1) 0 rfl B _ B5.out.class Tryd.underlying25 rfl (by rw [hbl]; exact Tryd.size25) ?_
        simp only [Act.put, List.setIfInBounds_toArray, List.set_cons_succ, List.set_cons_zero]
        iterate 7 (go_big_quiet_step (fail))
        refine wpQuiet_load_mid rfl 25 _ rfl M1 0 rfl E _ E5.out.class Tryd.underlying25 rfl (by rw [hel]; exact Tryd.size25) ?_
        simp only [Act.put, List.setIfInBounds_toArray, List.set_cons_succ, List.set_cons_zero]
        go_big_quiet_step (exact cH _ _)
        iterate 7 (go_big_quiet_step (fail))
        iterate 6 (go_big_quiet_step (fail))
        go_big_quiet_step (exact cL _ _)
        iterate 2 (go_big_quiet_step (fail))
        refine wpQuiet_nil ?_
        intro w9 hw9
        have L9 : Hid (Below N w w9) := (show Below _ _ _ by obtain ⟨⟨dq, osq⟩, rfl⟩ := hw9; exact L5.out.trans ((below_regrown w5 dq osq).mono (Nat.le_of_lt A5.out.lt)))
        clear hw9
        go_wp2
        go_ret
        exact ⟨rfl, by rw [HN.out]; exact L9.out⟩
theorem shaHexes_str (la lb : List UInt8) (s : ByteArray) (w : World) (hT : Tabs w) (ha : la.length = 32) (hb : lb.length = 32) :
    Calls Tryd.prog 8 #[.agg (By la).toArray, .agg (By lb).toArray, .string s] w fun e w' => e = .returned (.bool true) ∧ Below w.heap.size w w' := by
  have := shaHexes_any la lb s.data.toList w hT ha hb
  rwa [Array.toArray_toList] at this
end Go.Proofs.YtlfgbgcjajbckaaDoor
