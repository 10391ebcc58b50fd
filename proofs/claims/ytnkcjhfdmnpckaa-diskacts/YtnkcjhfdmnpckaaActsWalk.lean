/-
  indenturelaw05.DiskActs: the walk: the call returns true and makes new memory alone.
-/
import Derived.Test.YtnkcjhfdmnpckaaAlike
import Derived.Test.YtnkcjhfdmnpckaaDLives
namespace Go.Proofs.Ytnkcjhfdmnpckaa
open Go.RowKit
open Pd (DM)
set_option maxHeartbeats 8000000 in
set_option maxRecDepth 100000 in
theorem diskActs_any {w : World} {v : Value} {L : List ActP} (z : Int) (hz0 : (Lit.int .i64 z).wf = true) (h : RdL w v L) : Calls Try.prog 3 #[.int .i64 z, v] w fun e w' => e = .returned (.bool true) ∧ Below w.heap.size w w' := by
  have HL : Hid (RdL w v L) := h
  obtain ⟨a, cp, hv, h1, h2, -⟩ := h
  subst hv
  obtain ⟨k, HN⟩ : ∃ n, Hid (L.length = n) := ⟨_, rfl⟩
  rw [HN.out] at h1 HL ⊢
  have hz := Zact
  have hn : k ≤ 9223372036854775807 := by unfold maxLen at h2; omega
  have bz := bounds_i64 hz0
  clear hz0
  have FIN : Hid (∀ w3, Below w.heap.size w w3 → Calls Try.prog 10 #[] w3 fun e w' => e = .returned (.bool true) ∧ Below w.heap.size w w') := (show _ from fun w3 s3 => (lives_any w3).mono fun e w4 ⟨h1, h2⟩ => ⟨h1, s3.trans (h2.mono s3.size)⟩)
  go_enter Try.func3, Try.ntmps3
  go_wp2_with fail
  refine (light_any HL.out).mono ?_
  rintro e w1 ⟨x, rfl, hx, hb1⟩
  have B1 : Hid (Below w.heap.size w w1) := hb1
  clear hb1
  cases x with
  | false =>
    go_wp2_with fail
    refine (FIN.out w1 B1.out).mono ?_
    rintro e w3 ⟨rfl, hb3⟩
    have B3 : Hid (Below w.heap.size w w3) := hb3
    clear hb3
    go_wp2
    go_ret
    exact ⟨rfl, B3.out⟩
  | true =>
    have HX : Hid (Light L) := hx rfl
    clear hx
    by_cases q1 : 40 < z ∧ z ≤ 4096
    · have q2 : decide (40 < z) = true := by simp; omega
      have q3 : decide (z ≤ 4096) = true := by simp; omega
      go_wp2_with fail
      refine (FIN.out w1 B1.out).mono ?_
      rintro e w3 ⟨rfl, hb3⟩
      have B3 : Hid (Below w.heap.size w w3) := hb3
      clear hb3
      go_wp2
      go_ret
      exact ⟨rfl, B3.out⟩
    by_cases q4 : z < 1 ∨ 4096 < z
    · have HNEW : Hid (∀ W : World, Calls Try.prog 11 #[.int .i64 z] W fun e w' => e = .returned (.pointer none) ∧ w' = W) := (show _ from fun W => dNew_none W z q4)
      have HREF : Hid (∀ W : World, Calls Try.prog 12 #[.int .i64 z] W fun e w' => e = .returned (.pointer none) ∧ w' = W) := (show _ from fun W => rNew_none z q4)
      by_cases q5 : 40 < z
      · have q2 : decide (40 < z) = true := by simp; omega
        have q3 : decide (z ≤ 4096) = false := by simp; omega
        clear q1 q4
        go_wp2_with fail
        refine (HNEW.out w1).mono ?_
        rintro e w2 ⟨rfl, hw⟩
        subst hw
        go_wp2_with fail
        refine (HREF.out w2).mono ?_
        rintro e w3 ⟨rfl, hw⟩
        subst hw
        go_wp2_with fail
        refine (FIN.out w3 B1.out).mono ?_
        rintro e w4 ⟨rfl, hb3⟩
        have B3 : Hid (Below w.heap.size w w4) := hb3
        clear hb3
        go_wp2
        go_ret
        exact ⟨rfl, B3.out⟩
      · have q2 : decide (40 < z) = false := by simp; omega
        clear q1 q4
        go_wp2_with fail
        refine (HNEW.out w1).mono ?_
        rintro e w2 ⟨rfl, hw⟩
        subst hw
        go_wp2_with fail
        refine (HREF.out w2).mono ?_
        rintro e w3 ⟨rfl, hw⟩
        subst hw
        go_wp2_with fail
        refine (FIN.out w3 B1.out).mono ?_
        rintro e w4 ⟨rfl, hb3⟩
        have B3 : Hid (Below w.heap.size w w4) := hb3
        clear hb3
        go_wp2
        go_ret
        exact ⟨rfl, B3.out⟩
    have q2 : decide (40 < z) = false := by simp; omega
    obtain ⟨n, rfl⟩ : ∃ n : Nat, z = (n : Int) := ⟨z.toNat, by omega⟩
    have n1 : 1 ≤ n := by omega
    have n2 : n ≤ 4096 := by omega
    clear q1 q4
    go_wp2_with fail
    refine (dNew_any w1 (fun _ => 0) 1 (by decide) n n1 n2).mono ?_
    rintro e w2 ⟨D, rfl, c2, hD, hs, hb, -⟩
    have I2 : Hid (IsD w2 c2 1 D n (Pd.new n)) := hD
    have S2 : Hid (Sea w w2 c2) := (show Sea _ _ _ from ⟨hs.norm, fun k hk => hs.ext k (Nat.lt_of_lt_of_le hk B1.out.size), B1.out.trans (hb.mono B1.out.size)⟩)
    clear hD hs hb
    go_wp2_with fail
    refine (rNew_any w2 c2 2 (by decide) n n1 n2).mono ?_
    rintro e w3 ⟨R, rfl, c3, hR, hs, -, -⟩
    have T3 : Hid (Two w w3 c3 D R n (Pd.new n) (Pd.new n)) := (show Two _ _ _ _ _ _ _ _ from ⟨S2.out.step hs (by decide), I2.out.step hs (by decide) (by decide), hR⟩)
    clear hR hs I2 S2
    go_wp2_with fail
    go_loopg [35] k (fun g x wr => ∃ i : Nat, ∃ m c, g + i = k ∧ x = .int .i64 (i : Int) ∧ Hid (Two w wr c D R n m m))
    case atStart => exact ⟨0, _, c3, by omega, rfl, T3⟩
    case round =>
      clear T3
      obtain ⟨i, m, c, hgi, rfl, TR⟩ := hrel
      by_cases hlt : i < k
      · have q3 : (i : Int) < (k : Int) := by omega
        obtain ⟨b, off, p, ab, cb, ak, ck, rfl, hp, hr, hA⟩ := HL.out.nth HN.out TR.out.sea.below hlt
        have HF : Hid (p.B.length ≤ 400 ∧ p.keep.length ≤ 100) := HX.out.nth hp
        have C1 : Hid (∀ u ∈ AC p (.slice ab p.B.length cb) (.slice ak p.keep.length ck), u.oneCell' = true) := AC_one hA
        have HA : Hid (IsA w p (.slice ab p.B.length cb) (.slice ak p.keep.length ck)) := hA
        obtain ⟨CA, HCA⟩ : ∃ CA, Hid (AC p (.slice ab p.B.length cb) (.slice ak p.keep.length ck) = CA) := ⟨_, rfl⟩
        rw [HCA.out] at hr C1
        have hcl : CA.length = 5 := by rw [← HCA.out]; rfl
        clear hA hp
        go_upto_region 11 with (first
          | (refine wpList_load_mid rfl 32 _ rfl b (off + i * 5) rfl CA _ hr Try.underlying32 rfl (by rw [hcl]; exact Try.size32) ?_)
          | (refine wpList_store_new rfl 32 _ _ rfl wr _ _ _ rfl rfl rfl (by simpa [hcl] using Try.size32) (by simp [hcl]) (all_one C1.out) ?_)
          | fail)
        obtain ⟨E, HE⟩ : ∃ E, Hid (wr.heap.size = E) := ⟨_, rfl⟩
        rw [HE.out]
        obtain ⟨w4, hw4⟩ : ∃ x, x = wr.alloc (.cells CA.toArray 32 (0, 0)) := ⟨_, rfl⟩
        rw [← hw4]
        have hb4 : Below wr.heap.size wr w4 := by rw [hw4]; exact (Below.refl _ _).alloc (Nat.le_refl _) _
        have T4 : Hid (Two w w4 c D R n m m) := TR.out.kept hb4
        have E4 : Hid (Blk w4 E 32 CA) := (show Blk _ _ _ _ by rw [hw4, ← HE.out]; exact Blk.new wr 32 CA)
        have r4 := E4.out.range0
        clear hw4 hb4 hr TR C1
        go_wp2_with (first
          | (refine wpList_load_mid rfl 32 _ rfl E 0 rfl CA _ r4 Try.underlying32 rfl (by rw [hcl]; exact Try.size32) ?_)
          | fail)
        rw [← HCA.out]
        refine (act_any T4.out HA.out HF.out).mono ?_
        rintro e w5 ⟨rfl, c5, m5, t5⟩
        have T5 : Hid (Two w w5 c5 D R n m5 m5) := t5
        clear t5 r4 E4 T4
        go_wp2_with fail
        refine (alike_any T5.out).mono ?_
        rintro e w6 ⟨rfl, t6⟩
        have T6 : Hid (Two w w6 c5 D R n m5 m5) := t6
        clear t6 T5
        go_wp2_with fail
        go_roundg (gk - 1)
        case measure => omega
        case rel => exact ⟨i + 1, m5, c5, by omega, by go_num, T6⟩
      · obtain rfl : i = k := by omega
        go_wp2_with fail
        refine (FIN.out wr TR.out.sea.below).mono ?_
        rintro e w4 ⟨rfl, hb3⟩
        have B3 : Hid (Below w.heap.size w w4) := hb3
        clear hb3
        go_wp2
        go_ret
        exact ⟨rfl, B3.out⟩
end Go.Proofs.Ytnkcjhfdmnpckaa
