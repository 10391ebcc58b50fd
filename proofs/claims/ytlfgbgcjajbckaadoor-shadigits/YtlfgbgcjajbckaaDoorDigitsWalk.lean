/-
  indenturelaw03.ShaDigits: the walk.
-/
import Derived.Test.YtlfgbgcjajbckaaDoorRefHex
import Derived.Test.YtlfgbgcjajbckaaDoorQuiet
namespace Go.Proofs.YtlfgbgcjajbckaaDoor
open Go.RowKit
set_option maxHeartbeats 1000000 in
set_option maxRecDepth 100000 in
theorem shaDigits_any (l s : List UInt8) (w : World) (hT : Tabs w) (hl : l.length = 32) :
    Calls Tryd.prog 4 #[.agg (By l).toArray, .string ⟨s.toArray⟩] w fun e w' => e = .returned (.bool true) ∧ Below w.heap.size w w' := by
  have HT : Hid (Tabs w) := hT
  clear hT
  have hsz : (⟨s.toArray⟩ : ByteArray).size = s.length := by simp [ByteArray.size]
  obtain ⟨N, HN⟩ : ∃ N, Hid (w.heap.size = N) := ⟨_, rfl⟩
  have HW : Hid _ := hex_any l hl
  have HW' : Hid _ := refHex_any l hl
  have HP1 : Hid _ := parse_any s
  have HP2 : Hid _ := refParse_any s
  have HP3 : Hid _ := parse_any (hex l)
  obtain ⟨hx1, hx2⟩ := prs_hex l hl
  rw [hx1, hx2] at HP3
  clear hx1 hx2
  obtain ⟨S, HS⟩ : ∃ S : ByteArray, Hid ((⟨s.toArray⟩ : ByteArray) = S) := ⟨_, rfl⟩
  obtain ⟨X, HX⟩ : ∃ X : ByteArray, Hid ((⟨(hex l).toArray⟩ : ByteArray) = X) := ⟨_, rfl⟩
  rw [HX.out] at HW HW' HP3
  rw [HS.out] at HP1 HP2 hsz ⊢
  obtain ⟨Y, HY⟩ : ∃ Y, Hid (prs s = Y) := ⟨_, rfl⟩
  have hY : Y.length = 32 := by rw [← HY.out]; exact prs_length s
  obtain ⟨b, HB⟩ : ∃ b, Hid (okd s = b) := ⟨_, rfl⟩
  rw [HY.out, HB.out] at HP1 HP2
  clear HB HY HX HS
  have e1 := eq25 Y Y hY hY
  have e2 := eq25 l l hl hl
  simp only [beq_self_eq_true] at e1 e2
  obtain ⟨D, HD⟩ : ∃ D, Hid (By l = D) := ⟨_, rfl⟩
  have hdl : D.length = 32 := by rw [← HD.out, By_length, hl]
  have HD1 : Hid (∀ u ∈ D, u.oneCell' = true) := (show ∀ u ∈ D, _ by rw [← HD.out]; exact By_one _)
  obtain ⟨E, HE⟩ : ∃ E, Hid (By Y = E) := ⟨_, rfl⟩
  have hel : E.length = 32 := by rw [← HE.out, By_length, hY]
  have HE1 : Hid (∀ u ∈ E, u.oneCell' = true) := (show ∀ u ∈ E, _ by rw [← HE.out]; exact By_one _)
  rw [HD.out] at HW HW' HP3 e2 ⊢
  rw [HE.out] at HP1 HP2 e1
  by_cases hbig : 1000 < s.length
  · have q1 : (1000 : Int) < (s.length : Int) := by omega
    go_enter Tryd.func4, Tryd.ntmps4
    go_wp2_with fail
    refine (lives_any _ (HT.out.kept (((Below.refl _ _).alloc (Nat.le_refl _) _).mono HT.out.size))).mono ?_
    rintro e w1 ⟨rfl, hb1⟩
    go_wp2
    go_ret
    exact ⟨rfl, ((Below.refl _ _).alloc (Nat.le_refl _) _).trans (hb1.mono (by simp))⟩
  · have q1 : ¬ (1000 : Int) < (s.length : Int) := by omega
    go_enter Tryd.func4, Tryd.ntmps4
    go_wp2_with fail
    obtain ⟨w1, hw1⟩ : ∃ x, x = w.alloc (.cells D.toArray 25 (0, 0)) := ⟨_, rfl⟩
    change Calls _ _ _ (w.alloc (.cells D.toArray 25 (0, 0))) _
    rw [← hw1]
    rw [HN.out]
    have A1 : Hid (Blk w1 N 25 D) := (show Blk _ _ _ _ by rw [hw1, ← HN.out]; exact Blk.new w 25 D)
    have L1 : Hid (Below N w w1) := (show Below _ _ _ by rw [hw1]; exact (Below.refl _ _).alloc (by rw [HN.out]; exact Nat.le_refl _) _)
    clear hw1
    refine (HP1.out w1).mono ?_
    rintro e w2 ⟨rfl, hb2⟩
    have A2 : Hid (Blk w2 N 25 D) := A1.out.kept hb2
    have L2 : Hid (Below N w w2) := L1.out.trans (hb2.mono (Nat.le_of_lt A1.out.lt))
    clear hb2 A1 L1
    obtain ⟨M1, HM1⟩ : ∃ M, Hid (w2.heap.size = M) := ⟨_, rfl⟩
    go_wp2_with (first
      | (refine wpList_store_new rfl 25 _ _ rfl w2 _ _ _ rfl rfl rfl (by simpa [hel] using Tryd.size25) (by simp [hel]) (all_one HE1.out) ?_)
      | fail)
    rw [HM1.out]
    obtain ⟨w3, hw3⟩ : ∃ x, x = w2.alloc (.cells E.toArray 25 (0, 0)) := ⟨_, rfl⟩
    rw [← hw3]
    have A3 : Hid (Blk w3 N 25 D) := (show Blk _ _ _ _ by rw [hw3]; exact A2.out.alloc _)
    have B3 : Hid (Blk w3 M1 25 E) := (show Blk _ _ _ _ by rw [hw3, ← HM1.out]; exact Blk.new w2 25 E)
    have L3 : Hid (Below N w w3) := (show Below _ _ _ by rw [hw3]; exact L2.out.alloc (Nat.le_of_lt A2.out.lt) _)
    clear hw3 A2 L2
    refine (HP2.out w3).mono ?_
    rintro e w4 ⟨rfl, hb4⟩
    have A4 : Hid (Blk w4 N 25 D) := A3.out.kept hb4
    have B4 : Hid (Blk w4 M1 25 E) := B3.out.kept hb4
    have L4 : Hid (Below N w w4) := L3.out.trans (hb4.mono (Nat.le_of_lt A3.out.lt))
    clear hb4 A3 B3 L3
    obtain ⟨M2, HM2⟩ : ∃ M, Hid (w4.heap.size = M) := ⟨_, rfl⟩
    have r5 : Hid ((w4.alloc (.cells E.toArray 24 (0, 0))).rangeAt N 0 D) := (show World.rangeAt _ _ _ _ from (A4.out.alloc _).range0)
    go_wp2_with (first
      | (refine wpList_store_new rfl 24 _ _ rfl w4 _ _ _ rfl rfl rfl (by simpa [hel] using Tryd.size24) (by simp [hel]) (all_one HE1.out) ?_)
      | (refine wpList_load_mid rfl 25 _ rfl N 0 rfl D _ r5.out Tryd.underlying25 rfl (by rw [hdl]; exact Tryd.size25) ?_)
      | fail)
    rw [HM2.out]
    obtain ⟨w5, hw5⟩ : ∃ x, x = w4.alloc (.cells E.toArray 24 (0, 0)) := ⟨_, rfl⟩
    rw [← hw5]
    have A5 : Hid (Blk w5 N 25 D) := (show Blk _ _ _ _ by rw [hw5]; exact A4.out.alloc _)
    have B5 : Hid (Blk w5 M1 25 E) := (show Blk _ _ _ _ by rw [hw5]; exact B4.out.alloc _)
    have C5 : Hid (Blk w5 M2 24 E) := (show Blk _ _ _ _ by rw [hw5, ← HM2.out]; exact Blk.new w4 24 E)
    have L5 : Hid (Below N w w5) := (show Below _ _ _ by rw [hw5]; exact L4.out.alloc (Nat.le_of_lt A4.out.lt) _)
    clear hw5 A4 B4 L4 r5
    refine (HW.out w5).mono ?_
    rintro e w6 ⟨rfl, hb6⟩
    have A6 : Hid (Blk w6 N 25 D) := A5.out.kept hb6
    have B6 : Hid (Blk w6 M1 25 E) := B5.out.kept hb6
    have C6 : Hid (Blk w6 M2 24 E) := C5.out.kept hb6
    have L6 : Hid (Below N w w6) := L5.out.trans (hb6.mono (Nat.le_of_lt A5.out.lt))
    clear hb6 A5 B5 C5 L5
    go_wp2_with fail
    refine (HP3.out w6).mono ?_
    rintro e w7 ⟨rfl, hb7⟩
    have A7 : Hid (Blk w7 N 25 D) := A6.out.kept hb7
    have B7 : Hid (Blk w7 M1 25 E) := B6.out.kept hb7
    have C7 : Hid (Blk w7 M2 24 E) := C6.out.kept hb7
    have L7 : Hid (Below N w w7) := L6.out.trans (hb7.mono (Nat.le_of_lt A6.out.lt))
    clear hb7 A6 B6 C6 L6
    obtain ⟨M3, HM3⟩ : ∃ M, Hid (w7.heap.size = M) := ⟨_, rfl⟩
    go_wp2_with (first
      | (refine wpList_store_new rfl 25 _ _ rfl w7 _ _ _ rfl rfl rfl (by simpa [hdl] using Tryd.size25) (by simp [hdl]) (all_one HD1.out) ?_)
      | fail)
    rw [HM3.out]
    obtain ⟨w8, hw8⟩ : ∃ x, x = w7.alloc (.cells D.toArray 25 (0, 0)) := ⟨_, rfl⟩
    rw [← hw8]
    have A8 : Hid (Blk w8 N 25 D) := (show Blk _ _ _ _ by rw [hw8]; exact A7.out.alloc _)
    have B8 : Hid (Blk w8 M1 25 E) := (show Blk _ _ _ _ by rw [hw8]; exact B7.out.alloc _)
    have C8 : Hid (Blk w8 M2 24 E) := (show Blk _ _ _ _ by rw [hw8]; exact C7.out.alloc _)
    have D8 : Hid (Blk w8 M3 25 D) := (show Blk _ _ _ _ by rw [hw8, ← HM3.out]; exact Blk.new w7 25 D)
    have L8 : Hid (Below N w w8) := (show Below _ _ _ by rw [hw8]; exact L7.out.alloc (Nat.le_of_lt A7.out.lt) _)
    clear hw8 A7 B7 C7 L7
    have HT8 : Hid (Tabs w8) := HT.out.kept (L8.out.mono (by rw [← HN.out]; exact HT.out.size))
    have cH : ∀ d os, Calls Tryd.prog 14 #[.agg D.toArray] (Go.Sort.grow (redrawn w8 d) os) fun e w'' => e = .returned (.string X) ∧ ∃ p : Regrown, w'' = Go.Sort.grow (redrawn w8 p.d) p.os := fun d os => Calls.regrown_of (HW.out _)
    have cR : ∀ d os, Calls Tryd.prog 15 #[.agg D.toArray] (Go.Sort.grow (redrawn w8 d) os) fun e w'' => e = .returned (.string X) ∧ ∃ p : Regrown, w'' = Go.Sort.grow (redrawn w8 p.d) p.os := fun d os => Calls.regrown_of (HW'.out _)
    have cL : ∀ d os, Calls Tryd.prog 9 #[] (Go.Sort.grow (redrawn w8 d) os) fun e w'' => e = .returned (.bool true) ∧ ∃ p : Regrown, w'' = Go.Sort.grow (redrawn w8 p.d) p.os := fun d os => Calls.regrown_of (lives_any _ (HT8.out.kept ((below_regrown w8 d os).mono HT8.out.size)))
    cases b
    · refine wp_region_quiet_below Tryd.mixed (by kernel_rfl) ?_
      refine wpQuiet_load_mid rfl 25 _ rfl N 0 rfl D _ A8.out.class Tryd.underlying25 rfl (by rw [hdl]; exact Tryd.size25) ?_
      simp only [Act.put, List.setIfInBounds_toArray, List.set_cons_succ, List.set_cons_zero]
      go_big_quiet_step (exact cH _ _)
      refine wpQuiet_load_mid rfl 25 _ rfl N 0 rfl D _ A8.out.class Tryd.underlying25 rfl (by rw [hdl]; exact Tryd.size25) ?_
      simp only [Act.put, List.setIfInBounds_toArray, List.set_cons_succ, List.set_cons_zero]
      go_big_quiet_step (exact cR _ _)
      iterate 2 (go_big_quiet_step (fail))
      refine wpQuiet_load_mid rfl 25 _ rfl M1 0 rfl E _ B8.out.class Tryd.underlying25 rfl (by rw [hel]; exact Tryd.size25) ?_
      simp only [Act.put, List.setIfInBounds_toArray, List.set_cons_succ, List.set_cons_zero]
      refine wpQuiet_load_mid rfl 24 _ rfl M2 0 rfl E _ C8.out.class Tryd.underlying24 rfl (by rw [hel]; exact Tryd.size24) ?_
      simp only [Act.put, List.setIfInBounds_toArray, List.set_cons_succ, List.set_cons_zero]
      iterate 11 (go_big_quiet_step (fail))
      refine wpQuiet_load_mid rfl 25 _ rfl M3 0 rfl D _ D8.out.class Tryd.underlying25 rfl (by rw [hdl]; exact Tryd.size25) ?_
      simp only [Act.put, List.setIfInBounds_toArray, List.set_cons_succ, List.set_cons_zero]
      refine wpQuiet_load_mid rfl 25 _ rfl N 0 rfl D _ A8.out.class Tryd.underlying25 rfl (by rw [hdl]; exact Tryd.size25) ?_
      simp only [Act.put, List.setIfInBounds_toArray, List.set_cons_succ, List.set_cons_zero]
      iterate 3 (go_big_quiet_step (fail))
      go_big_quiet_step (exact cL _ _)
      iterate 2 (go_big_quiet_step (fail))
      refine wpQuiet_nil ?_
      intro w9 hw9
      have L9 : Hid (Below N w w9) := (show Below _ _ _ by obtain ⟨⟨dq, osq⟩, rfl⟩ := hw9; exact L8.out.trans ((below_regrown w8 dq osq).mono (Nat.le_of_lt A8.out.lt)))
      clear hw9
      go_wp2
      go_ret
      exact ⟨rfl, by rw [HN.out]; exact L9.out⟩
    · refine wp_region_quiet_below Tryd.mixed (by kernel_rfl) ?_
      refine wpQuiet_load_mid rfl 25 _ rfl N 0 rfl D _ A8.out.class Tryd.underlying25 rfl (by rw [hdl]; exact Tryd.size25) ?_
      simp only [Act.put, List.setIfInBounds_toArray, List.set_cons_succ, List.set_cons_zero]
      go_big_quiet_step (exact cH _ _)
      refine wpQuiet_load_mid rfl 25 _ rfl N 0 rfl D _ A8.out.class Tryd.underlying25 rfl (by rw [hdl]; exact Tryd.size25) ?_
      simp only [Act.put, List.setIfInBounds_toArray, List.set_cons_succ, List.set_cons_zero]
      go_big_quiet_step (exact cR _ _)
      iterate 2 (go_big_quiet_step (fail))
      refine wpQuiet_load_mid rfl 25 _ rfl M1 0 rfl E _ B8.out.class Tryd.underlying25 rfl (by rw [hel]; exact Tryd.size25) ?_
      simp only [Act.put, List.setIfInBounds_toArray, List.set_cons_succ, List.set_cons_zero]
      refine wpQuiet_load_mid rfl 24 _ rfl M2 0 rfl E _ C8.out.class Tryd.underlying24 rfl (by rw [hel]; exact Tryd.size24) ?_
      simp only [Act.put, List.setIfInBounds_toArray, List.set_cons_succ, List.set_cons_zero]
      iterate 11 (go_big_quiet_step (fail))
      refine wpQuiet_load_mid rfl 25 _ rfl M3 0 rfl D _ D8.out.class Tryd.underlying25 rfl (by rw [hdl]; exact Tryd.size25) ?_
      simp only [Act.put, List.setIfInBounds_toArray, List.set_cons_succ, List.set_cons_zero]
      refine wpQuiet_load_mid rfl 25 _ rfl N 0 rfl D _ A8.out.class Tryd.underlying25 rfl (by rw [hdl]; exact Tryd.size25) ?_
      simp only [Act.put, List.setIfInBounds_toArray, List.set_cons_succ, List.set_cons_zero]
      iterate 3 (go_big_quiet_step (fail))
      go_big_quiet_step (exact cL _ _)
      iterate 2 (go_big_quiet_step (fail))
      refine wpQuiet_nil ?_
      intro w9 hw9
      have L9 : Hid (Below N w w9) := (show Below _ _ _ by obtain ⟨⟨dq, osq⟩, rfl⟩ := hw9; exact L8.out.trans ((below_regrown w8 dq osq).mono (Nat.le_of_lt A8.out.lt)))
      clear hw9
      go_wp2
      go_ret
      exact ⟨rfl, by rw [HN.out]; exact L9.out⟩
theorem shaDigits_str (l : List UInt8) (s : ByteArray) (w : World) (hT : Tabs w) (hl : l.length = 32) :
    Calls Tryd.prog 4 #[.agg (By l).toArray, .string s] w fun e w' => e = .returned (.bool true) ∧ Below w.heap.size w w' := by
  have := shaDigits_any l s.data.toList w hT hl
  rwa [Array.toArray_toList] at this
end Go.Proofs.YtlfgbgcjajbckaaDoor
