/-
  mountain.Peaks.Good and the reference's: what the calls do.
-/
import Derived.Test.YtinlpaabmojmkaaDoorMtH
namespace Go.Proofs.YtinlpaabmojmkaaDoor
open Go.RowKit
/-- May a tree have this size, and as many peaks? -/
def goodB (s : Int) (n : Nat) : Bool := decide (0 ≤ s) && decide (s ≤ 1099511627776) && decide (n = (bitsFrom 63 s.toNat).length)
set_option maxHeartbeats 2000000 in
set_option maxRecDepth 100000 in
theorem good_any (s : Int) (t : Value) (L : List Hs) (h1 : s ≤ 9223372036854775807) (w : World) (hr : RdG HE w t L) : Calls Tryd.prog 15 #[.agg #[.int .i64 s, t]] w fun e w' => e = .returned (.bool (goodB s L.length)) ∧ Below w.heap.size w w' := by
  have hcap := hr.cap'
  obtain ⟨a, cp, rfl⟩ := hr.slice
  clear hr
  generalize L.length = n at *
  obtain ⟨N, HN⟩ : ∃ N, Hid (w.heap.size = N) := ⟨_, rfl⟩
  have C1 := hide (fun w => mbits_any s h1 w)
  go_enter Tryd.func15, Tryd.ntmps15
  go_upto_region 1 with fail
  obtain ⟨w0, hw0⟩ : ∃ z, z = w.alloc (.cells #[.int .i64 s, .slice a n cp] 25 (0, 0)) := ⟨_, rfl⟩
  rw [← hw0, HN.out]
  have B0 : Hid (Blk w0 N 25 [.int .i64 s, .slice a n cp]) := (show Blk _ _ _ _ by rw [hw0, ← HN.out]; exact Blk.new w 25 [.int .i64 s, .slice a n cp])
  have L0 : Hid (Below N w w0) := (show Below _ _ _ by rw [hw0]; exact (Below.refl _ _).alloc (by rw [HN.out]; exact Nat.le_refl _) _)
  clear hw0
  by_cases h0 : s < 0
  · have hgd : goodB s n = false := by unfold goodB; rw [decide_eq_false (by omega : ¬ 0 ≤ s)]; rfl
    have HG := hide hgd
    clear hgd
    have q1 : ¬ (0 : Int) ≤ s := by omega
    refine wp_region_inv Tryd.mixed (KS (fun i_ => match i_ with | 0 => .val (.pointer (some ⟨N, 0, none⟩)) | 1 => .val (.int .i64 s) | 2 | 3 | 7 | 8 | 17 | 18 => .val (.bool false) | _ => .free)) 21 rfl (by decide +kernel) (KS_mono _) ?_ ?_
    · refine AllFrom.cons (fun a' w' hg hk hd => ?_) (AllFrom.cons (fun a' w' hg hk hd => ?_) (AllFrom.cons (fun a' w' hg hk hd => ?_) (AllFrom.cons (fun a' w' hg hk hd => ?_) (AllFrom.cons (fun a' w' hg hk hd => ?_) (AllFrom.cons (fun a' w' hg hk hd => ?_) (AllFrom.cons (fun a' w' hg hk hd => ?_) (AllFrom.cons (fun a' w' hg hk hd => ?_) (AllFrom.cons (fun a' w' hg hk hd => ?_) (AllFrom.cons (fun a' w' hg hk hd => ?_) (AllFrom.cons (fun a' w' hg hk hd => ?_) (AllFrom.cons (fun a' w' hg hk hd => ?_) (AllFrom.cons (fun a' w' hg hk hd => ?_) (AllFrom.cons (fun a' w' hg hk hd => ?_) (AllFrom.cons (fun a' w' hg hk hd => ?_) (AllFrom.cons (fun a' w' hg hk hd => ?_) (AllFrom.cons (fun a' w' hg hk hd => ?_) (AllFrom.cons (fun a' w' hg hk hd => ?_) (AllFrom.cons (fun a' w' hg hk hd => ?_) AllFrom.nil))))))))))))))))))
      · skip
        intro Q
        have e1 : a'.eval (.tmp 1) = .pointer (some ⟨N, 0, none⟩) := hk.at 1 (by decide +kernel)
        clear hd hk
        exact wp_value (.pointer (some ⟨N, 0, none⟩)) (by simp only [execOp, e1]; go_simp) (KS_mkv rfl rfl)
      · skip
        intro Q
        have e3 : a'.eval (.tmp 3) = .pointer (some ⟨N, 0, none⟩) := KS_val (hd.val 0 3 (by decide +kernel)) rfl
        have hc := (B0.out.kept hg).cell (j := 0) rfl
        clear hd hk
        exact wp_value (.int .i64 s) (by simp only [execOp, e3]; go_simp) (KS_mkv rfl rfl)
      · skip
        intro Q
        have e4 : a'.eval (.tmp 4) = .int .i64 s := KS_val (hd.val 1 4 (by decide +kernel)) rfl
        clear hd hk
        exact wp_value (.bool false) (by simp only [execOp, e4]; go_simp) (KS_mkv rfl rfl)
      · skip
        intro Q
        have e5 : a'.eval (.tmp 5) = .bool false := KS_val (hd.val 2 5 (by decide +kernel)) rfl
        exact wp_value _ (by simp only [execOp, e5]; rfl) (KS_mkv rfl rfl)
      · skip
        have eg : a'.eval (.tmp 6) = .bool false := KS_val (hd.val 3 6 (by decide +kernel)) rfl
        exact ⟨6, false, rfl, eg, fun h => absurd h (by decide), fun _ => KS_mkf rfl⟩
      · skip
        have eg : a'.eval (.tmp 6) = .bool false := KS_val (hd.val 3 6 (by decide +kernel)) rfl
        exact ⟨6, false, rfl, eg, fun h => absurd h (by decide), fun _ => KS_mkf rfl⟩
      · skip
        have eg : a'.eval (.tmp 6) = .bool false := KS_val (hd.val 3 6 (by decide +kernel)) rfl
        exact ⟨6, false, rfl, eg, fun h => absurd h (by decide), fun _ => KS_mkf rfl⟩
      · skip
        intro Q
        have e6 : a'.eval (.tmp 6) = .bool false := KS_val (hd.val 3 6 (by decide +kernel)) rfl
        clear hd hk
        exact wp_value (.bool false) (by simp only [execOp, e6]; go_simp) (KS_mkv rfl rfl)
      · skip
        intro Q
        have e10 : a'.eval (.tmp 10) = .bool false := KS_val (hd.val 7 10 (by decide +kernel)) rfl
        exact wp_value _ (by simp only [execOp, e10]; rfl) (KS_mkv rfl rfl)
      · skip
        have eg : a'.eval (.tmp 11) = .bool false := KS_val (hd.val 8 11 (by decide +kernel)) rfl
        exact ⟨11, false, rfl, eg, fun h => absurd h (by decide), fun _ => KS_mkf rfl⟩
      · skip
        have eg : a'.eval (.tmp 11) = .bool false := KS_val (hd.val 8 11 (by decide +kernel)) rfl
        exact ⟨11, false, rfl, eg, fun h => absurd h (by decide), fun _ => KS_mkf rfl⟩
      · skip
        have eg : a'.eval (.tmp 11) = .bool false := KS_val (hd.val 8 11 (by decide +kernel)) rfl
        exact ⟨11, false, rfl, eg, fun h => absurd h (by decide), fun _ => KS_mkf rfl⟩
      · skip
        have eg : a'.eval (.tmp 11) = .bool false := KS_val (hd.val 8 11 (by decide +kernel)) rfl
        exact ⟨11, false, rfl, eg, fun h => absurd h (by decide), fun _ => KS_mkf rfl⟩
      · skip
        have eg : a'.eval (.tmp 11) = .bool false := KS_val (hd.val 8 11 (by decide +kernel)) rfl
        exact ⟨11, false, rfl, eg, fun h => absurd h (by decide), fun _ => KS_mkf rfl⟩
      · skip
        have eg : a'.eval (.tmp 11) = .bool false := KS_val (hd.val 8 11 (by decide +kernel)) rfl
        exact ⟨11, false, rfl, eg, fun h => absurd h (by decide), fun _ => KS_mkf rfl⟩
      · skip
        have eg : a'.eval (.tmp 11) = .bool false := KS_val (hd.val 8 11 (by decide +kernel)) rfl
        exact ⟨11, false, rfl, eg, fun h => absurd h (by decide), fun _ => KS_mkf rfl⟩
      · skip
        have eg : a'.eval (.tmp 11) = .bool false := KS_val (hd.val 8 11 (by decide +kernel)) rfl
        exact ⟨11, false, rfl, eg, fun h => absurd h (by decide), fun _ => KS_mkf rfl⟩
      · skip
        intro Q
        have e11 : a'.eval (.tmp 11) = .bool false := KS_val (hd.val 8 11 (by decide +kernel)) rfl
        clear hd hk
        exact wp_value (.bool false) (by simp only [execOp, e11]; go_simp) (KS_mkv rfl rfl)
      · skip
        intro Q
        have e20 : a'.eval (.tmp 20) = .bool false := KS_val (hd.val 17 20 (by decide +kernel)) rfl
        exact wp_value _ (by simp only [execOp, e20]; rfl) (KS_mkv rfl rfl)
    · intro a' w' hsz hdf hk hall hg
      have e2 : a'.eval (.tmp 2) = .bool false := KS_val (hall 18 _ 2 rfl rfl) rfl
      go_wp2
      exact bodyPost_ret (results_tmp Tryd.results15 _ _ _) hdf ⟨by rw [HG.out]; exact congrArg Ending.returned e2, by rw [HN.out]; exact L0.out.trans (Below.mono hg (Nat.le_of_lt B0.out.lt))⟩
  · have q1 : (0 : Int) ≤ s := by omega
    by_cases h40 : 1099511627776 < s
    · have hgd : goodB s n = false := by unfold goodB; rw [decide_eq_false (by omega : ¬ s ≤ 1099511627776), Bool.and_false]; rfl
      have HG := hide hgd
      clear hgd
      have q2 : ¬ s ≤ (1099511627776 : Int) := by omega
      refine wp_region_inv Tryd.mixed (KS (fun i_ => match i_ with | 0 | 4 => .val (.pointer (some ⟨N, 0, none⟩)) | 1 | 5 => .val (.int .i64 s) | 2 | 3 => .val (.bool true) | 6 | 7 | 8 | 17 | 18 => .val (.bool false) | _ => .free)) 21 rfl (by decide +kernel) (KS_mono _) ?_ ?_
      · refine AllFrom.cons (fun a' w' hg hk hd => ?_) (AllFrom.cons (fun a' w' hg hk hd => ?_) (AllFrom.cons (fun a' w' hg hk hd => ?_) (AllFrom.cons (fun a' w' hg hk hd => ?_) (AllFrom.cons (fun a' w' hg hk hd => ?_) (AllFrom.cons (fun a' w' hg hk hd => ?_) (AllFrom.cons (fun a' w' hg hk hd => ?_) (AllFrom.cons (fun a' w' hg hk hd => ?_) (AllFrom.cons (fun a' w' hg hk hd => ?_) (AllFrom.cons (fun a' w' hg hk hd => ?_) (AllFrom.cons (fun a' w' hg hk hd => ?_) (AllFrom.cons (fun a' w' hg hk hd => ?_) (AllFrom.cons (fun a' w' hg hk hd => ?_) (AllFrom.cons (fun a' w' hg hk hd => ?_) (AllFrom.cons (fun a' w' hg hk hd => ?_) (AllFrom.cons (fun a' w' hg hk hd => ?_) (AllFrom.cons (fun a' w' hg hk hd => ?_) (AllFrom.cons (fun a' w' hg hk hd => ?_) (AllFrom.cons (fun a' w' hg hk hd => ?_) AllFrom.nil))))))))))))))))))
        · skip
          intro Q
          have e1 : a'.eval (.tmp 1) = .pointer (some ⟨N, 0, none⟩) := hk.at 1 (by decide +kernel)
          clear hd hk
          exact wp_value (.pointer (some ⟨N, 0, none⟩)) (by simp only [execOp, e1]; go_simp) (KS_mkv rfl rfl)
        · skip
          intro Q
          have e3 : a'.eval (.tmp 3) = .pointer (some ⟨N, 0, none⟩) := KS_val (hd.val 0 3 (by decide +kernel)) rfl
          have hc := (B0.out.kept hg).cell (j := 0) rfl
          clear hd hk
          exact wp_value (.int .i64 s) (by simp only [execOp, e3]; go_simp) (KS_mkv rfl rfl)
        · skip
          intro Q
          have e4 : a'.eval (.tmp 4) = .int .i64 s := KS_val (hd.val 1 4 (by decide +kernel)) rfl
          clear hd hk
          exact wp_value (.bool true) (by simp only [execOp, e4]; go_simp) (KS_mkv rfl rfl)
        · skip
          intro Q
          have e5 : a'.eval (.tmp 5) = .bool true := KS_val (hd.val 2 5 (by decide +kernel)) rfl
          exact wp_value _ (by simp only [execOp, e5]; rfl) (KS_mkv rfl rfl)
        · skip
          have eg : a'.eval (.tmp 6) = .bool true := KS_val (hd.val 3 6 (by decide +kernel)) rfl
          refine ⟨6, true, rfl, eg, fun _ Q => ?_, fun h => absurd rfl h⟩
          have e1 : a'.eval (.tmp 1) = .pointer (some ⟨N, 0, none⟩) := hk.at 1 (by decide +kernel)
          clear hd hk
          exact wp_value (.pointer (some ⟨N, 0, none⟩)) (by simp only [execOp, e1]; go_simp) (KS_mkv rfl rfl)
        · skip
          have eg : a'.eval (.tmp 6) = .bool true := KS_val (hd.val 3 6 (by decide +kernel)) rfl
          refine ⟨6, true, rfl, eg, fun _ Q => ?_, fun h => absurd rfl h⟩
          have e7 : a'.eval (.tmp 7) = .pointer (some ⟨N, 0, none⟩) := KS_val (hd.val 4 7 (by decide +kernel)) rfl
          have hc := (B0.out.kept hg).cell (j := 0) rfl
          clear hd hk
          exact wp_value (.int .i64 s) (by simp only [execOp, e7]; go_simp) (KS_mkv rfl rfl)
        · skip
          have eg : a'.eval (.tmp 6) = .bool true := KS_val (hd.val 3 6 (by decide +kernel)) rfl
          refine ⟨6, true, rfl, eg, fun _ Q => ?_, fun h => absurd rfl h⟩
          have e8 : a'.eval (.tmp 8) = .int .i64 s := KS_val (hd.val 5 8 (by decide +kernel)) rfl
          clear hd hk
          exact wp_value (.bool false) (by simp only [execOp, e8]; go_simp) (KS_mkv rfl rfl)
        · skip
          intro Q
          have e6 : a'.eval (.tmp 6) = .bool true := KS_val (hd.val 3 6 (by decide +kernel)) rfl
          have e9 : a'.eval (.tmp 9) = .bool false := KS_val (hd.val 6 9 (by decide +kernel)) rfl
          clear hd hk
          exact wp_value (.bool false) (by simp only [execOp, e6, e9]; go_simp) (KS_mkv rfl rfl)
        · skip
          intro Q
          have e10 : a'.eval (.tmp 10) = .bool false := KS_val (hd.val 7 10 (by decide +kernel)) rfl
          exact wp_value _ (by simp only [execOp, e10]; rfl) (KS_mkv rfl rfl)
        · skip
          have eg : a'.eval (.tmp 11) = .bool false := KS_val (hd.val 8 11 (by decide +kernel)) rfl
          exact ⟨11, false, rfl, eg, fun h => absurd h (by decide), fun _ => KS_mkf rfl⟩
        · skip
          have eg : a'.eval (.tmp 11) = .bool false := KS_val (hd.val 8 11 (by decide +kernel)) rfl
          exact ⟨11, false, rfl, eg, fun h => absurd h (by decide), fun _ => KS_mkf rfl⟩
        · skip
          have eg : a'.eval (.tmp 11) = .bool false := KS_val (hd.val 8 11 (by decide +kernel)) rfl
          exact ⟨11, false, rfl, eg, fun h => absurd h (by decide), fun _ => KS_mkf rfl⟩
        · skip
          have eg : a'.eval (.tmp 11) = .bool false := KS_val (hd.val 8 11 (by decide +kernel)) rfl
          exact ⟨11, false, rfl, eg, fun h => absurd h (by decide), fun _ => KS_mkf rfl⟩
        · skip
          have eg : a'.eval (.tmp 11) = .bool false := KS_val (hd.val 8 11 (by decide +kernel)) rfl
          exact ⟨11, false, rfl, eg, fun h => absurd h (by decide), fun _ => KS_mkf rfl⟩
        · skip
          have eg : a'.eval (.tmp 11) = .bool false := KS_val (hd.val 8 11 (by decide +kernel)) rfl
          exact ⟨11, false, rfl, eg, fun h => absurd h (by decide), fun _ => KS_mkf rfl⟩
        · skip
          have eg : a'.eval (.tmp 11) = .bool false := KS_val (hd.val 8 11 (by decide +kernel)) rfl
          exact ⟨11, false, rfl, eg, fun h => absurd h (by decide), fun _ => KS_mkf rfl⟩
        · skip
          have eg : a'.eval (.tmp 11) = .bool false := KS_val (hd.val 8 11 (by decide +kernel)) rfl
          exact ⟨11, false, rfl, eg, fun h => absurd h (by decide), fun _ => KS_mkf rfl⟩
        · skip
          intro Q
          have e11 : a'.eval (.tmp 11) = .bool false := KS_val (hd.val 8 11 (by decide +kernel)) rfl
          clear hd hk
          exact wp_value (.bool false) (by simp only [execOp, e11]; go_simp) (KS_mkv rfl rfl)
        · skip
          intro Q
          have e20 : a'.eval (.tmp 20) = .bool false := KS_val (hd.val 17 20 (by decide +kernel)) rfl
          exact wp_value _ (by simp only [execOp, e20]; rfl) (KS_mkv rfl rfl)
      · intro a' w' hsz hdf hk hall hg
        have e2 : a'.eval (.tmp 2) = .bool false := KS_val (hall 18 _ 2 rfl rfl) rfl
        go_wp2
        exact bodyPost_ret (results_tmp Tryd.results15 _ _ _) hdf ⟨by rw [HG.out]; exact congrArg Ending.returned e2, by rw [HN.out]; exact L0.out.trans (Below.mono hg (Nat.le_of_lt B0.out.lt))⟩
    · have q2 : s ≤ (1099511627776 : Int) := by omega
      obtain ⟨B, HB⟩ : ∃ B, Hid ((bitsFrom 63 s.toNat).length = B) := ⟨_, rfl⟩
      have hB : B ≤ 63 := by rw [← HB.out]; exact bits_le _ _
      have hgd : goodB s n = decide (n = B) := by unfold goodB; rw [decide_eq_true q1, decide_eq_true q2, HB.out]; rfl
      have HG := hide hgd
      clear hgd
      have hdec : ((n : Int) == (B : Int)) = decide (n = B) := by rw [Bool.eq_iff_iff]; simp; omega
      generalize decide (n = B) = b at *
      refine wp_region_inv Tryd.mixed (KS (fun i_ => match i_ with | 0 | 4 | 12 => .val (.pointer (some ⟨N, 0, none⟩)) | 1 | 5 | 13 => .val (.int .i64 s) | 2 | 3 | 6 | 7 | 8 => .val (.bool true) | 9 => .val (.pointer (some ⟨N, 1, none⟩)) | 10 => .val (.slice a n cp) | 11 => .val (.int .i64 (n : Int)) | 14 => .of (fun _ x => ∃ a c, x = .slice a B c) (fun _ _ _ _ h => h) | 15 => .val (.int .i64 (B : Int)) | 16 | 17 | 18 => .val (.bool b) | _ => .free)) 21 rfl (by decide +kernel) (KS_mono _) ?_ ?_
      · refine AllFrom.cons (fun a' w' hg hk hd => ?_) (AllFrom.cons (fun a' w' hg hk hd => ?_) (AllFrom.cons (fun a' w' hg hk hd => ?_) (AllFrom.cons (fun a' w' hg hk hd => ?_) (AllFrom.cons (fun a' w' hg hk hd => ?_) (AllFrom.cons (fun a' w' hg hk hd => ?_) (AllFrom.cons (fun a' w' hg hk hd => ?_) (AllFrom.cons (fun a' w' hg hk hd => ?_) (AllFrom.cons (fun a' w' hg hk hd => ?_) (AllFrom.cons (fun a' w' hg hk hd => ?_) (AllFrom.cons (fun a' w' hg hk hd => ?_) (AllFrom.cons (fun a' w' hg hk hd => ?_) (AllFrom.cons (fun a' w' hg hk hd => ?_) (AllFrom.cons (fun a' w' hg hk hd => ?_) (AllFrom.cons (fun a' w' hg hk hd => ?_) (AllFrom.cons (fun a' w' hg hk hd => ?_) (AllFrom.cons (fun a' w' hg hk hd => ?_) (AllFrom.cons (fun a' w' hg hk hd => ?_) (AllFrom.cons (fun a' w' hg hk hd => ?_) AllFrom.nil))))))))))))))))))
        · skip
          intro Q
          have e1 : a'.eval (.tmp 1) = .pointer (some ⟨N, 0, none⟩) := hk.at 1 (by decide +kernel)
          clear hd hk
          exact wp_value (.pointer (some ⟨N, 0, none⟩)) (by simp only [execOp, e1]; go_simp) (KS_mkv rfl rfl)
        · skip
          intro Q
          have e3 : a'.eval (.tmp 3) = .pointer (some ⟨N, 0, none⟩) := KS_val (hd.val 0 3 (by decide +kernel)) rfl
          have hc := (B0.out.kept hg).cell (j := 0) rfl
          clear hd hk
          exact wp_value (.int .i64 s) (by simp only [execOp, e3]; go_simp) (KS_mkv rfl rfl)
        · skip
          intro Q
          have e4 : a'.eval (.tmp 4) = .int .i64 s := KS_val (hd.val 1 4 (by decide +kernel)) rfl
          clear hd hk
          exact wp_value (.bool true) (by simp only [execOp, e4]; go_simp) (KS_mkv rfl rfl)
        · skip
          intro Q
          have e5 : a'.eval (.tmp 5) = .bool true := KS_val (hd.val 2 5 (by decide +kernel)) rfl
          exact wp_value _ (by simp only [execOp, e5]; rfl) (KS_mkv rfl rfl)
        · skip
          have eg : a'.eval (.tmp 6) = .bool true := KS_val (hd.val 3 6 (by decide +kernel)) rfl
          refine ⟨6, true, rfl, eg, fun _ Q => ?_, fun h => absurd rfl h⟩
          have e1 : a'.eval (.tmp 1) = .pointer (some ⟨N, 0, none⟩) := hk.at 1 (by decide +kernel)
          clear hd hk
          exact wp_value (.pointer (some ⟨N, 0, none⟩)) (by simp only [execOp, e1]; go_simp) (KS_mkv rfl rfl)
        · skip
          have eg : a'.eval (.tmp 6) = .bool true := KS_val (hd.val 3 6 (by decide +kernel)) rfl
          refine ⟨6, true, rfl, eg, fun _ Q => ?_, fun h => absurd rfl h⟩
          have e7 : a'.eval (.tmp 7) = .pointer (some ⟨N, 0, none⟩) := KS_val (hd.val 4 7 (by decide +kernel)) rfl
          have hc := (B0.out.kept hg).cell (j := 0) rfl
          clear hd hk
          exact wp_value (.int .i64 s) (by simp only [execOp, e7]; go_simp) (KS_mkv rfl rfl)
        · skip
          have eg : a'.eval (.tmp 6) = .bool true := KS_val (hd.val 3 6 (by decide +kernel)) rfl
          refine ⟨6, true, rfl, eg, fun _ Q => ?_, fun h => absurd rfl h⟩
          have e8 : a'.eval (.tmp 8) = .int .i64 s := KS_val (hd.val 5 8 (by decide +kernel)) rfl
          clear hd hk
          exact wp_value (.bool true) (by simp only [execOp, e8]; go_simp) (KS_mkv rfl rfl)
        · skip
          intro Q
          have e6 : a'.eval (.tmp 6) = .bool true := KS_val (hd.val 3 6 (by decide +kernel)) rfl
          have e9 : a'.eval (.tmp 9) = .bool true := KS_val (hd.val 6 9 (by decide +kernel)) rfl
          clear hd hk
          exact wp_value (.bool true) (by simp only [execOp, e6, e9]; go_simp) (KS_mkv rfl rfl)
        · skip
          intro Q
          have e10 : a'.eval (.tmp 10) = .bool true := KS_val (hd.val 7 10 (by decide +kernel)) rfl
          exact wp_value _ (by simp only [execOp, e10]; rfl) (KS_mkv rfl rfl)
        · skip
          have eg : a'.eval (.tmp 11) = .bool true := KS_val (hd.val 8 11 (by decide +kernel)) rfl
          refine ⟨11, true, rfl, eg, fun _ Q => ?_, fun h => absurd rfl h⟩
          have e1 : a'.eval (.tmp 1) = .pointer (some ⟨N, 0, none⟩) := hk.at 1 (by decide +kernel)
          clear hd hk
          exact wp_value (.pointer (some ⟨N, 1, none⟩)) (by simp only [execOp, e1]; go_simp) (KS_mkv rfl rfl)
        · skip
          have eg : a'.eval (.tmp 11) = .bool true := KS_val (hd.val 8 11 (by decide +kernel)) rfl
          refine ⟨11, true, rfl, eg, fun _ Q => ?_, fun h => absurd rfl h⟩
          have e12 : a'.eval (.tmp 12) = .pointer (some ⟨N, 1, none⟩) := KS_val (hd.val 9 12 (by decide +kernel)) rfl
          have hc := (B0.out.kept hg).cell (j := 1) rfl
          clear hd hk
          exact wp_value (.slice a n cp) (by simp only [execOp, e12]; go_simp) (KS_mkv rfl rfl)
        · skip
          have eg : a'.eval (.tmp 11) = .bool true := KS_val (hd.val 8 11 (by decide +kernel)) rfl
          refine ⟨11, true, rfl, eg, fun _ Q => ?_, fun h => absurd rfl h⟩
          have e13 : a'.eval (.tmp 13) = .slice a n cp := KS_val (hd.val 10 13 (by decide +kernel)) rfl
          clear hd hk
          exact wp_value (.int .i64 (n : Int)) (by simp only [execOp, resolve, invoke, builtin, Sem.run_bind, Sem.run_pure, Result.andThen_ok, List.map_toArray, List.map_cons, List.map_nil, e13]; go_simp) (KS_mkv rfl rfl)
        · skip
          have eg : a'.eval (.tmp 11) = .bool true := KS_val (hd.val 8 11 (by decide +kernel)) rfl
          refine ⟨11, true, rfl, eg, fun _ Q => ?_, fun h => absurd rfl h⟩
          have e1 : a'.eval (.tmp 1) = .pointer (some ⟨N, 0, none⟩) := hk.at 1 (by decide +kernel)
          clear hd hk
          exact wp_value (.pointer (some ⟨N, 0, none⟩)) (by simp only [execOp, e1]; go_simp) (KS_mkv rfl rfl)
        · skip
          have eg : a'.eval (.tmp 11) = .bool true := KS_val (hd.val 8 11 (by decide +kernel)) rfl
          refine ⟨11, true, rfl, eg, fun _ Q => ?_, fun h => absurd rfl h⟩
          have e15 : a'.eval (.tmp 15) = .pointer (some ⟨N, 0, none⟩) := KS_val (hd.val 12 15 (by decide +kernel)) rfl
          have hc := (B0.out.kept hg).cell (j := 0) rfl
          clear hd hk
          exact wp_value (.int .i64 s) (by simp only [execOp, e15]; go_simp) (KS_mkv rfl rfl)
        · skip
          have eg : a'.eval (.tmp 11) = .bool true := KS_val (hd.val 8 11 (by decide +kernel)) rfl
          refine ⟨11, true, rfl, eg, fun _ Q => ?_, fun h => absurd rfl h⟩
          have e16 : a'.eval (.tmp 16) = .int .i64 s := KS_val (hd.val 13 16 (by decide +kernel)) rfl
          refine wp_call 21 _ (run_enter 21 _ _ rfl (by kernel_rfl)) ?_
          simp only [List.map_toArray, List.map_nil, List.map_cons, e16]
          refine (C1.out _).mono ?_
          rintro e w5 ⟨v5, rfl, ho5, hb5⟩
          obtain ⟨a5, c5, e5⟩ := ho5.rd.slice
          rw [HB.out] at e5
          exact ⟨_, rfl, KS_mko rfl ⟨a5, c5, e5⟩, hb5⟩
        · skip
          have eg : a'.eval (.tmp 11) = .bool true := KS_val (hd.val 8 11 (by decide +kernel)) rfl
          refine ⟨11, true, rfl, eg, fun _ Q => ?_, fun h => absurd rfl h⟩
          have r17 := KS_of (hd.val 14 17 (by decide +kernel)) rfl
          obtain ⟨a6, c6, e17⟩ := r17
          clear hd hk
          exact wp_value (.int .i64 (B : Int)) (by simp only [execOp, resolve, invoke, builtin, Sem.run_bind, Sem.run_pure, Result.andThen_ok, List.map_toArray, List.map_cons, List.map_nil, e17]; go_simp) (KS_mkv rfl rfl)
        · skip
          have eg : a'.eval (.tmp 11) = .bool true := KS_val (hd.val 8 11 (by decide +kernel)) rfl
          refine ⟨11, true, rfl, eg, fun _ Q => ?_, fun h => absurd rfl h⟩
          have e14 : a'.eval (.tmp 14) = .int .i64 (n : Int) := KS_val (hd.val 11 14 (by decide +kernel)) rfl
          have e18 : a'.eval (.tmp 18) = .int .i64 (B : Int) := KS_val (hd.val 15 18 (by decide +kernel)) rfl
          clear hd hk
          exact wp_value (.bool b) (by simp only [execOp, e14, e18]; go_simp) (KS_mkv rfl rfl)
        · skip
          intro Q
          have e11 : a'.eval (.tmp 11) = .bool true := KS_val (hd.val 8 11 (by decide +kernel)) rfl
          have e19 : a'.eval (.tmp 19) = .bool b := KS_val (hd.val 16 19 (by decide +kernel)) rfl
          clear hd hk
          exact wp_value (.bool b) (by simp only [execOp, e11, e19]; go_simp) (KS_mkv rfl rfl)
        · skip
          intro Q
          have e20 : a'.eval (.tmp 20) = .bool b := KS_val (hd.val 17 20 (by decide +kernel)) rfl
          exact wp_value _ (by simp only [execOp, e20]; rfl) (KS_mkv rfl rfl)
      · intro a' w' hsz hdf hk hall hg
        have e2 : a'.eval (.tmp 2) = .bool b := KS_val (hall 18 _ 2 rfl rfl) rfl
        go_wp2
        exact bodyPost_ret (results_tmp Tryd.results15 _ _ _) hdf ⟨by rw [HG.out]; exact congrArg Ending.returned e2, by rw [HN.out]; exact L0.out.trans (Below.mono hg (Nat.le_of_lt B0.out.lt))⟩
set_option maxHeartbeats 2000000 in
set_option maxRecDepth 100000 in
theorem ngood_any (s : Int) (t : Value) (L : List Hs) (h1 : s ≤ 9223372036854775807) (w : World) (hr : RdG HE w t L) : Calls Tryd.prog 16 #[.agg #[.int .i64 s, t]] w fun e w' => e = .returned (.bool (goodB s L.length)) ∧ Below w.heap.size w w' := by
  have hcap := hr.cap'
  obtain ⟨a, cp, rfl⟩ := hr.slice
  clear hr
  generalize L.length = n at *
  obtain ⟨N, HN⟩ : ∃ N, Hid (w.heap.size = N) := ⟨_, rfl⟩
  have C1 := hide (fun w => nbits_any s h1 w)
  go_enter Tryd.func16, Tryd.ntmps16
  go_upto_region 1 with fail
  obtain ⟨w0, hw0⟩ : ∃ z, z = w.alloc (.cells #[.int .i64 s, .slice a n cp] 27 (0, 0)) := ⟨_, rfl⟩
  rw [← hw0, HN.out]
  have B0 : Hid (Blk w0 N 27 [.int .i64 s, .slice a n cp]) := (show Blk _ _ _ _ by rw [hw0, ← HN.out]; exact Blk.new w 27 [.int .i64 s, .slice a n cp])
  have L0 : Hid (Below N w w0) := (show Below _ _ _ by rw [hw0]; exact (Below.refl _ _).alloc (by rw [HN.out]; exact Nat.le_refl _) _)
  clear hw0
  by_cases h0 : s < 0
  · have hgd : goodB s n = false := by unfold goodB; rw [decide_eq_false (by omega : ¬ 0 ≤ s)]; rfl
    have HG := hide hgd
    clear hgd
    have q1 : ¬ (0 : Int) ≤ s := by omega
    refine wp_region_inv Tryd.mixed (KS (fun i_ => match i_ with | 0 => .val (.pointer (some ⟨N, 0, none⟩)) | 1 => .val (.int .i64 s) | 2 | 3 | 7 | 8 | 17 | 18 => .val (.bool false) | _ => .free)) 21 rfl (by decide +kernel) (KS_mono _) ?_ ?_
    · refine AllFrom.cons (fun a' w' hg hk hd => ?_) (AllFrom.cons (fun a' w' hg hk hd => ?_) (AllFrom.cons (fun a' w' hg hk hd => ?_) (AllFrom.cons (fun a' w' hg hk hd => ?_) (AllFrom.cons (fun a' w' hg hk hd => ?_) (AllFrom.cons (fun a' w' hg hk hd => ?_) (AllFrom.cons (fun a' w' hg hk hd => ?_) (AllFrom.cons (fun a' w' hg hk hd => ?_) (AllFrom.cons (fun a' w' hg hk hd => ?_) (AllFrom.cons (fun a' w' hg hk hd => ?_) (AllFrom.cons (fun a' w' hg hk hd => ?_) (AllFrom.cons (fun a' w' hg hk hd => ?_) (AllFrom.cons (fun a' w' hg hk hd => ?_) (AllFrom.cons (fun a' w' hg hk hd => ?_) (AllFrom.cons (fun a' w' hg hk hd => ?_) (AllFrom.cons (fun a' w' hg hk hd => ?_) (AllFrom.cons (fun a' w' hg hk hd => ?_) (AllFrom.cons (fun a' w' hg hk hd => ?_) (AllFrom.cons (fun a' w' hg hk hd => ?_) AllFrom.nil))))))))))))))))))
      · skip
        intro Q
        have e1 : a'.eval (.tmp 1) = .pointer (some ⟨N, 0, none⟩) := hk.at 1 (by decide +kernel)
        clear hd hk
        exact wp_value (.pointer (some ⟨N, 0, none⟩)) (by simp only [execOp, e1]; go_simp) (KS_mkv rfl rfl)
      · skip
        intro Q
        have e3 : a'.eval (.tmp 3) = .pointer (some ⟨N, 0, none⟩) := KS_val (hd.val 0 3 (by decide +kernel)) rfl
        have hc := (B0.out.kept hg).cell (j := 0) rfl
        clear hd hk
        exact wp_value (.int .i64 s) (by simp only [execOp, e3]; go_simp) (KS_mkv rfl rfl)
      · skip
        intro Q
        have e4 : a'.eval (.tmp 4) = .int .i64 s := KS_val (hd.val 1 4 (by decide +kernel)) rfl
        clear hd hk
        exact wp_value (.bool false) (by simp only [execOp, e4]; go_simp) (KS_mkv rfl rfl)
      · skip
        intro Q
        have e5 : a'.eval (.tmp 5) = .bool false := KS_val (hd.val 2 5 (by decide +kernel)) rfl
        exact wp_value _ (by simp only [execOp, e5]; rfl) (KS_mkv rfl rfl)
      · skip
        have eg : a'.eval (.tmp 6) = .bool false := KS_val (hd.val 3 6 (by decide +kernel)) rfl
        exact ⟨6, false, rfl, eg, fun h => absurd h (by decide), fun _ => KS_mkf rfl⟩
      · skip
        have eg : a'.eval (.tmp 6) = .bool false := KS_val (hd.val 3 6 (by decide +kernel)) rfl
        exact ⟨6, false, rfl, eg, fun h => absurd h (by decide), fun _ => KS_mkf rfl⟩
      · skip
        have eg : a'.eval (.tmp 6) = .bool false := KS_val (hd.val 3 6 (by decide +kernel)) rfl
        exact ⟨6, false, rfl, eg, fun h => absurd h (by decide), fun _ => KS_mkf rfl⟩
      · skip
        intro Q
        have e6 : a'.eval (.tmp 6) = .bool false := KS_val (hd.val 3 6 (by decide +kernel)) rfl
        clear hd hk
        exact wp_value (.bool false) (by simp only [execOp, e6]; go_simp) (KS_mkv rfl rfl)
      · skip
        intro Q
        have e10 : a'.eval (.tmp 10) = .bool false := KS_val (hd.val 7 10 (by decide +kernel)) rfl
        exact wp_value _ (by simp only [execOp, e10]; rfl) (KS_mkv rfl rfl)
      · skip
        have eg : a'.eval (.tmp 11) = .bool false := KS_val (hd.val 8 11 (by decide +kernel)) rfl
        exact ⟨11, false, rfl, eg, fun h => absurd h (by decide), fun _ => KS_mkf rfl⟩
      · skip
        have eg : a'.eval (.tmp 11) = .bool false := KS_val (hd.val 8 11 (by decide +kernel)) rfl
        exact ⟨11, false, rfl, eg, fun h => absurd h (by decide), fun _ => KS_mkf rfl⟩
      · skip
        have eg : a'.eval (.tmp 11) = .bool false := KS_val (hd.val 8 11 (by decide +kernel)) rfl
        exact ⟨11, false, rfl, eg, fun h => absurd h (by decide), fun _ => KS_mkf rfl⟩
      · skip
        have eg : a'.eval (.tmp 11) = .bool false := KS_val (hd.val 8 11 (by decide +kernel)) rfl
        exact ⟨11, false, rfl, eg, fun h => absurd h (by decide), fun _ => KS_mkf rfl⟩
      · skip
        have eg : a'.eval (.tmp 11) = .bool false := KS_val (hd.val 8 11 (by decide +kernel)) rfl
        exact ⟨11, false, rfl, eg, fun h => absurd h (by decide), fun _ => KS_mkf rfl⟩
      · skip
        have eg : a'.eval (.tmp 11) = .bool false := KS_val (hd.val 8 11 (by decide +kernel)) rfl
        exact ⟨11, false, rfl, eg, fun h => absurd h (by decide), fun _ => KS_mkf rfl⟩
      · skip
        have eg : a'.eval (.tmp 11) = .bool false := KS_val (hd.val 8 11 (by decide +kernel)) rfl
        exact ⟨11, false, rfl, eg, fun h => absurd h (by decide), fun _ => KS_mkf rfl⟩
      · skip
        have eg : a'.eval (.tmp 11) = .bool false := KS_val (hd.val 8 11 (by decide +kernel)) rfl
        exact ⟨11, false, rfl, eg, fun h => absurd h (by decide), fun _ => KS_mkf rfl⟩
      · skip
        intro Q
        have e11 : a'.eval (.tmp 11) = .bool false := KS_val (hd.val 8 11 (by decide +kernel)) rfl
        clear hd hk
        exact wp_value (.bool false) (by simp only [execOp, e11]; go_simp) (KS_mkv rfl rfl)
      · skip
        intro Q
        have e20 : a'.eval (.tmp 20) = .bool false := KS_val (hd.val 17 20 (by decide +kernel)) rfl
        exact wp_value _ (by simp only [execOp, e20]; rfl) (KS_mkv rfl rfl)
    · intro a' w' hsz hdf hk hall hg
      have e2 : a'.eval (.tmp 2) = .bool false := KS_val (hall 18 _ 2 rfl rfl) rfl
      go_wp2
      exact bodyPost_ret (results_tmp Tryd.results16 _ _ _) hdf ⟨by rw [HG.out]; exact congrArg Ending.returned e2, by rw [HN.out]; exact L0.out.trans (Below.mono hg (Nat.le_of_lt B0.out.lt))⟩
  · have q1 : (0 : Int) ≤ s := by omega
    by_cases h40 : 1099511627776 < s
    · have hgd : goodB s n = false := by unfold goodB; rw [decide_eq_false (by omega : ¬ s ≤ 1099511627776), Bool.and_false]; rfl
      have HG := hide hgd
      clear hgd
      have q2 : ¬ s ≤ (1099511627776 : Int) := by omega
      refine wp_region_inv Tryd.mixed (KS (fun i_ => match i_ with | 0 | 4 => .val (.pointer (some ⟨N, 0, none⟩)) | 1 | 5 => .val (.int .i64 s) | 2 | 3 => .val (.bool true) | 6 | 7 | 8 | 17 | 18 => .val (.bool false) | _ => .free)) 21 rfl (by decide +kernel) (KS_mono _) ?_ ?_
      · refine AllFrom.cons (fun a' w' hg hk hd => ?_) (AllFrom.cons (fun a' w' hg hk hd => ?_) (AllFrom.cons (fun a' w' hg hk hd => ?_) (AllFrom.cons (fun a' w' hg hk hd => ?_) (AllFrom.cons (fun a' w' hg hk hd => ?_) (AllFrom.cons (fun a' w' hg hk hd => ?_) (AllFrom.cons (fun a' w' hg hk hd => ?_) (AllFrom.cons (fun a' w' hg hk hd => ?_) (AllFrom.cons (fun a' w' hg hk hd => ?_) (AllFrom.cons (fun a' w' hg hk hd => ?_) (AllFrom.cons (fun a' w' hg hk hd => ?_) (AllFrom.cons (fun a' w' hg hk hd => ?_) (AllFrom.cons (fun a' w' hg hk hd => ?_) (AllFrom.cons (fun a' w' hg hk hd => ?_) (AllFrom.cons (fun a' w' hg hk hd => ?_) (AllFrom.cons (fun a' w' hg hk hd => ?_) (AllFrom.cons (fun a' w' hg hk hd => ?_) (AllFrom.cons (fun a' w' hg hk hd => ?_) (AllFrom.cons (fun a' w' hg hk hd => ?_) AllFrom.nil))))))))))))))))))
        · skip
          intro Q
          have e1 : a'.eval (.tmp 1) = .pointer (some ⟨N, 0, none⟩) := hk.at 1 (by decide +kernel)
          clear hd hk
          exact wp_value (.pointer (some ⟨N, 0, none⟩)) (by simp only [execOp, e1]; go_simp) (KS_mkv rfl rfl)
        · skip
          intro Q
          have e3 : a'.eval (.tmp 3) = .pointer (some ⟨N, 0, none⟩) := KS_val (hd.val 0 3 (by decide +kernel)) rfl
          have hc := (B0.out.kept hg).cell (j := 0) rfl
          clear hd hk
          exact wp_value (.int .i64 s) (by simp only [execOp, e3]; go_simp) (KS_mkv rfl rfl)
        · skip
          intro Q
          have e4 : a'.eval (.tmp 4) = .int .i64 s := KS_val (hd.val 1 4 (by decide +kernel)) rfl
          clear hd hk
          exact wp_value (.bool true) (by simp only [execOp, e4]; go_simp) (KS_mkv rfl rfl)
        · skip
          intro Q
          have e5 : a'.eval (.tmp 5) = .bool true := KS_val (hd.val 2 5 (by decide +kernel)) rfl
          exact wp_value _ (by simp only [execOp, e5]; rfl) (KS_mkv rfl rfl)
        · skip
          have eg : a'.eval (.tmp 6) = .bool true := KS_val (hd.val 3 6 (by decide +kernel)) rfl
          refine ⟨6, true, rfl, eg, fun _ Q => ?_, fun h => absurd rfl h⟩
          have e1 : a'.eval (.tmp 1) = .pointer (some ⟨N, 0, none⟩) := hk.at 1 (by decide +kernel)
          clear hd hk
          exact wp_value (.pointer (some ⟨N, 0, none⟩)) (by simp only [execOp, e1]; go_simp) (KS_mkv rfl rfl)
        · skip
          have eg : a'.eval (.tmp 6) = .bool true := KS_val (hd.val 3 6 (by decide +kernel)) rfl
          refine ⟨6, true, rfl, eg, fun _ Q => ?_, fun h => absurd rfl h⟩
          have e7 : a'.eval (.tmp 7) = .pointer (some ⟨N, 0, none⟩) := KS_val (hd.val 4 7 (by decide +kernel)) rfl
          have hc := (B0.out.kept hg).cell (j := 0) rfl
          clear hd hk
          exact wp_value (.int .i64 s) (by simp only [execOp, e7]; go_simp) (KS_mkv rfl rfl)
        · skip
          have eg : a'.eval (.tmp 6) = .bool true := KS_val (hd.val 3 6 (by decide +kernel)) rfl
          refine ⟨6, true, rfl, eg, fun _ Q => ?_, fun h => absurd rfl h⟩
          have e8 : a'.eval (.tmp 8) = .int .i64 s := KS_val (hd.val 5 8 (by decide +kernel)) rfl
          clear hd hk
          exact wp_value (.bool false) (by simp only [execOp, e8]; go_simp) (KS_mkv rfl rfl)
        · skip
          intro Q
          have e6 : a'.eval (.tmp 6) = .bool true := KS_val (hd.val 3 6 (by decide +kernel)) rfl
          have e9 : a'.eval (.tmp 9) = .bool false := KS_val (hd.val 6 9 (by decide +kernel)) rfl
          clear hd hk
          exact wp_value (.bool false) (by simp only [execOp, e6, e9]; go_simp) (KS_mkv rfl rfl)
        · skip
          intro Q
          have e10 : a'.eval (.tmp 10) = .bool false := KS_val (hd.val 7 10 (by decide +kernel)) rfl
          exact wp_value _ (by simp only [execOp, e10]; rfl) (KS_mkv rfl rfl)
        · skip
          have eg : a'.eval (.tmp 11) = .bool false := KS_val (hd.val 8 11 (by decide +kernel)) rfl
          exact ⟨11, false, rfl, eg, fun h => absurd h (by decide), fun _ => KS_mkf rfl⟩
        · skip
          have eg : a'.eval (.tmp 11) = .bool false := KS_val (hd.val 8 11 (by decide +kernel)) rfl
          exact ⟨11, false, rfl, eg, fun h => absurd h (by decide), fun _ => KS_mkf rfl⟩
        · skip
          have eg : a'.eval (.tmp 11) = .bool false := KS_val (hd.val 8 11 (by decide +kernel)) rfl
          exact ⟨11, false, rfl, eg, fun h => absurd h (by decide), fun _ => KS_mkf rfl⟩
        · skip
          have eg : a'.eval (.tmp 11) = .bool false := KS_val (hd.val 8 11 (by decide +kernel)) rfl
          exact ⟨11, false, rfl, eg, fun h => absurd h (by decide), fun _ => KS_mkf rfl⟩
        · skip
          have eg : a'.eval (.tmp 11) = .bool false := KS_val (hd.val 8 11 (by decide +kernel)) rfl
          exact ⟨11, false, rfl, eg, fun h => absurd h (by decide), fun _ => KS_mkf rfl⟩
        · skip
          have eg : a'.eval (.tmp 11) = .bool false := KS_val (hd.val 8 11 (by decide +kernel)) rfl
          exact ⟨11, false, rfl, eg, fun h => absurd h (by decide), fun _ => KS_mkf rfl⟩
        · skip
          have eg : a'.eval (.tmp 11) = .bool false := KS_val (hd.val 8 11 (by decide +kernel)) rfl
          exact ⟨11, false, rfl, eg, fun h => absurd h (by decide), fun _ => KS_mkf rfl⟩
        · skip
          have eg : a'.eval (.tmp 11) = .bool false := KS_val (hd.val 8 11 (by decide +kernel)) rfl
          exact ⟨11, false, rfl, eg, fun h => absurd h (by decide), fun _ => KS_mkf rfl⟩
        · skip
          intro Q
          have e11 : a'.eval (.tmp 11) = .bool false := KS_val (hd.val 8 11 (by decide +kernel)) rfl
          clear hd hk
          exact wp_value (.bool false) (by simp only [execOp, e11]; go_simp) (KS_mkv rfl rfl)
        · skip
          intro Q
          have e20 : a'.eval (.tmp 20) = .bool false := KS_val (hd.val 17 20 (by decide +kernel)) rfl
          exact wp_value _ (by simp only [execOp, e20]; rfl) (KS_mkv rfl rfl)
      · intro a' w' hsz hdf hk hall hg
        have e2 : a'.eval (.tmp 2) = .bool false := KS_val (hall 18 _ 2 rfl rfl) rfl
        go_wp2
        exact bodyPost_ret (results_tmp Tryd.results16 _ _ _) hdf ⟨by rw [HG.out]; exact congrArg Ending.returned e2, by rw [HN.out]; exact L0.out.trans (Below.mono hg (Nat.le_of_lt B0.out.lt))⟩
    · have q2 : s ≤ (1099511627776 : Int) := by omega
      obtain ⟨B, HB⟩ : ∃ B, Hid ((bitsFrom 63 s.toNat).length = B) := ⟨_, rfl⟩
      have hB : B ≤ 63 := by rw [← HB.out]; exact bits_le _ _
      have hgd : goodB s n = decide (n = B) := by unfold goodB; rw [decide_eq_true q1, decide_eq_true q2, HB.out]; rfl
      have HG := hide hgd
      clear hgd
      have hdec : ((n : Int) == (B : Int)) = decide (n = B) := by rw [Bool.eq_iff_iff]; simp; omega
      generalize decide (n = B) = b at *
      refine wp_region_inv Tryd.mixed (KS (fun i_ => match i_ with | 0 | 4 | 12 => .val (.pointer (some ⟨N, 0, none⟩)) | 1 | 5 | 13 => .val (.int .i64 s) | 2 | 3 | 6 | 7 | 8 => .val (.bool true) | 9 => .val (.pointer (some ⟨N, 1, none⟩)) | 10 => .val (.slice a n cp) | 11 => .val (.int .i64 (n : Int)) | 14 => .of (fun _ x => ∃ a c, x = .slice a B c) (fun _ _ _ _ h => h) | 15 => .val (.int .i64 (B : Int)) | 16 | 17 | 18 => .val (.bool b) | _ => .free)) 21 rfl (by decide +kernel) (KS_mono _) ?_ ?_
      · refine AllFrom.cons (fun a' w' hg hk hd => ?_) (AllFrom.cons (fun a' w' hg hk hd => ?_) (AllFrom.cons (fun a' w' hg hk hd => ?_) (AllFrom.cons (fun a' w' hg hk hd => ?_) (AllFrom.cons (fun a' w' hg hk hd => ?_) (AllFrom.cons (fun a' w' hg hk hd => ?_) (AllFrom.cons (fun a' w' hg hk hd => ?_) (AllFrom.cons (fun a' w' hg hk hd => ?_) (AllFrom.cons (fun a' w' hg hk hd => ?_) (AllFrom.cons (fun a' w' hg hk hd => ?_) (AllFrom.cons (fun a' w' hg hk hd => ?_) (AllFrom.cons (fun a' w' hg hk hd => ?_) (AllFrom.cons (fun a' w' hg hk hd => ?_) (AllFrom.cons (fun a' w' hg hk hd => ?_) (AllFrom.cons (fun a' w' hg hk hd => ?_) (AllFrom.cons (fun a' w' hg hk hd => ?_) (AllFrom.cons (fun a' w' hg hk hd => ?_) (AllFrom.cons (fun a' w' hg hk hd => ?_) (AllFrom.cons (fun a' w' hg hk hd => ?_) AllFrom.nil))))))))))))))))))
        · skip
          intro Q
          have e1 : a'.eval (.tmp 1) = .pointer (some ⟨N, 0, none⟩) := hk.at 1 (by decide +kernel)
          clear hd hk
          exact wp_value (.pointer (some ⟨N, 0, none⟩)) (by simp only [execOp, e1]; go_simp) (KS_mkv rfl rfl)
        · skip
          intro Q
          have e3 : a'.eval (.tmp 3) = .pointer (some ⟨N, 0, none⟩) := KS_val (hd.val 0 3 (by decide +kernel)) rfl
          have hc := (B0.out.kept hg).cell (j := 0) rfl
          clear hd hk
          exact wp_value (.int .i64 s) (by simp only [execOp, e3]; go_simp) (KS_mkv rfl rfl)
        · skip
          intro Q
          have e4 : a'.eval (.tmp 4) = .int .i64 s := KS_val (hd.val 1 4 (by decide +kernel)) rfl
          clear hd hk
          exact wp_value (.bool true) (by simp only [execOp, e4]; go_simp) (KS_mkv rfl rfl)
        · skip
          intro Q
          have e5 : a'.eval (.tmp 5) = .bool true := KS_val (hd.val 2 5 (by decide +kernel)) rfl
          exact wp_value _ (by simp only [execOp, e5]; rfl) (KS_mkv rfl rfl)
        · skip
          have eg : a'.eval (.tmp 6) = .bool true := KS_val (hd.val 3 6 (by decide +kernel)) rfl
          refine ⟨6, true, rfl, eg, fun _ Q => ?_, fun h => absurd rfl h⟩
          have e1 : a'.eval (.tmp 1) = .pointer (some ⟨N, 0, none⟩) := hk.at 1 (by decide +kernel)
          clear hd hk
          exact wp_value (.pointer (some ⟨N, 0, none⟩)) (by simp only [execOp, e1]; go_simp) (KS_mkv rfl rfl)
        · skip
          have eg : a'.eval (.tmp 6) = .bool true := KS_val (hd.val 3 6 (by decide +kernel)) rfl
          refine ⟨6, true, rfl, eg, fun _ Q => ?_, fun h => absurd rfl h⟩
          have e7 : a'.eval (.tmp 7) = .pointer (some ⟨N, 0, none⟩) := KS_val (hd.val 4 7 (by decide +kernel)) rfl
          have hc := (B0.out.kept hg).cell (j := 0) rfl
          clear hd hk
          exact wp_value (.int .i64 s) (by simp only [execOp, e7]; go_simp) (KS_mkv rfl rfl)
        · skip
          have eg : a'.eval (.tmp 6) = .bool true := KS_val (hd.val 3 6 (by decide +kernel)) rfl
          refine ⟨6, true, rfl, eg, fun _ Q => ?_, fun h => absurd rfl h⟩
          have e8 : a'.eval (.tmp 8) = .int .i64 s := KS_val (hd.val 5 8 (by decide +kernel)) rfl
          clear hd hk
          exact wp_value (.bool true) (by simp only [execOp, e8]; go_simp) (KS_mkv rfl rfl)
        · skip
          intro Q
          have e6 : a'.eval (.tmp 6) = .bool true := KS_val (hd.val 3 6 (by decide +kernel)) rfl
          have e9 : a'.eval (.tmp 9) = .bool true := KS_val (hd.val 6 9 (by decide +kernel)) rfl
          clear hd hk
          exact wp_value (.bool true) (by simp only [execOp, e6, e9]; go_simp) (KS_mkv rfl rfl)
        · skip
          intro Q
          have e10 : a'.eval (.tmp 10) = .bool true := KS_val (hd.val 7 10 (by decide +kernel)) rfl
          exact wp_value _ (by simp only [execOp, e10]; rfl) (KS_mkv rfl rfl)
        · skip
          have eg : a'.eval (.tmp 11) = .bool true := KS_val (hd.val 8 11 (by decide +kernel)) rfl
          refine ⟨11, true, rfl, eg, fun _ Q => ?_, fun h => absurd rfl h⟩
          have e1 : a'.eval (.tmp 1) = .pointer (some ⟨N, 0, none⟩) := hk.at 1 (by decide +kernel)
          clear hd hk
          exact wp_value (.pointer (some ⟨N, 1, none⟩)) (by simp only [execOp, e1]; go_simp) (KS_mkv rfl rfl)
        · skip
          have eg : a'.eval (.tmp 11) = .bool true := KS_val (hd.val 8 11 (by decide +kernel)) rfl
          refine ⟨11, true, rfl, eg, fun _ Q => ?_, fun h => absurd rfl h⟩
          have e12 : a'.eval (.tmp 12) = .pointer (some ⟨N, 1, none⟩) := KS_val (hd.val 9 12 (by decide +kernel)) rfl
          have hc := (B0.out.kept hg).cell (j := 1) rfl
          clear hd hk
          exact wp_value (.slice a n cp) (by simp only [execOp, e12]; go_simp) (KS_mkv rfl rfl)
        · skip
          have eg : a'.eval (.tmp 11) = .bool true := KS_val (hd.val 8 11 (by decide +kernel)) rfl
          refine ⟨11, true, rfl, eg, fun _ Q => ?_, fun h => absurd rfl h⟩
          have e13 : a'.eval (.tmp 13) = .slice a n cp := KS_val (hd.val 10 13 (by decide +kernel)) rfl
          clear hd hk
          exact wp_value (.int .i64 (n : Int)) (by simp only [execOp, resolve, invoke, builtin, Sem.run_bind, Sem.run_pure, Result.andThen_ok, List.map_toArray, List.map_cons, List.map_nil, e13]; go_simp) (KS_mkv rfl rfl)
        · skip
          have eg : a'.eval (.tmp 11) = .bool true := KS_val (hd.val 8 11 (by decide +kernel)) rfl
          refine ⟨11, true, rfl, eg, fun _ Q => ?_, fun h => absurd rfl h⟩
          have e1 : a'.eval (.tmp 1) = .pointer (some ⟨N, 0, none⟩) := hk.at 1 (by decide +kernel)
          clear hd hk
          exact wp_value (.pointer (some ⟨N, 0, none⟩)) (by simp only [execOp, e1]; go_simp) (KS_mkv rfl rfl)
        · skip
          have eg : a'.eval (.tmp 11) = .bool true := KS_val (hd.val 8 11 (by decide +kernel)) rfl
          refine ⟨11, true, rfl, eg, fun _ Q => ?_, fun h => absurd rfl h⟩
          have e15 : a'.eval (.tmp 15) = .pointer (some ⟨N, 0, none⟩) := KS_val (hd.val 12 15 (by decide +kernel)) rfl
          have hc := (B0.out.kept hg).cell (j := 0) rfl
          clear hd hk
          exact wp_value (.int .i64 s) (by simp only [execOp, e15]; go_simp) (KS_mkv rfl rfl)
        · skip
          have eg : a'.eval (.tmp 11) = .bool true := KS_val (hd.val 8 11 (by decide +kernel)) rfl
          refine ⟨11, true, rfl, eg, fun _ Q => ?_, fun h => absurd rfl h⟩
          have e16 : a'.eval (.tmp 16) = .int .i64 s := KS_val (hd.val 13 16 (by decide +kernel)) rfl
          refine wp_call 27 _ (run_enter 27 _ _ rfl (by kernel_rfl)) ?_
          simp only [List.map_toArray, List.map_nil, List.map_cons, e16]
          refine (C1.out _).mono ?_
          rintro e w5 ⟨v5, rfl, ho5, hb5⟩
          obtain ⟨a5, c5, e5⟩ := ho5.rd.slice
          rw [HB.out] at e5
          exact ⟨_, rfl, KS_mko rfl ⟨a5, c5, e5⟩, hb5⟩
        · skip
          have eg : a'.eval (.tmp 11) = .bool true := KS_val (hd.val 8 11 (by decide +kernel)) rfl
          refine ⟨11, true, rfl, eg, fun _ Q => ?_, fun h => absurd rfl h⟩
          have r17 := KS_of (hd.val 14 17 (by decide +kernel)) rfl
          obtain ⟨a6, c6, e17⟩ := r17
          clear hd hk
          exact wp_value (.int .i64 (B : Int)) (by simp only [execOp, resolve, invoke, builtin, Sem.run_bind, Sem.run_pure, Result.andThen_ok, List.map_toArray, List.map_cons, List.map_nil, e17]; go_simp) (KS_mkv rfl rfl)
        · skip
          have eg : a'.eval (.tmp 11) = .bool true := KS_val (hd.val 8 11 (by decide +kernel)) rfl
          refine ⟨11, true, rfl, eg, fun _ Q => ?_, fun h => absurd rfl h⟩
          have e14 : a'.eval (.tmp 14) = .int .i64 (n : Int) := KS_val (hd.val 11 14 (by decide +kernel)) rfl
          have e18 : a'.eval (.tmp 18) = .int .i64 (B : Int) := KS_val (hd.val 15 18 (by decide +kernel)) rfl
          clear hd hk
          exact wp_value (.bool b) (by simp only [execOp, e14, e18]; go_simp) (KS_mkv rfl rfl)
        · skip
          intro Q
          have e11 : a'.eval (.tmp 11) = .bool true := KS_val (hd.val 8 11 (by decide +kernel)) rfl
          have e19 : a'.eval (.tmp 19) = .bool b := KS_val (hd.val 16 19 (by decide +kernel)) rfl
          clear hd hk
          exact wp_value (.bool b) (by simp only [execOp, e11, e19]; go_simp) (KS_mkv rfl rfl)
        · skip
          intro Q
          have e20 : a'.eval (.tmp 20) = .bool b := KS_val (hd.val 17 20 (by decide +kernel)) rfl
          exact wp_value _ (by simp only [execOp, e20]; rfl) (KS_mkv rfl rfl)
      · intro a' w' hsz hdf hk hall hg
        have e2 : a'.eval (.tmp 2) = .bool b := KS_val (hall 18 _ 2 rfl rfl) rfl
        go_wp2
        exact bodyPost_ret (results_tmp Tryd.results16 _ _ _) hdf ⟨by rw [HG.out]; exact congrArg Ending.returned e2, by rw [HN.out]; exact L0.out.trans (Below.mono hg (Nat.le_of_lt B0.out.lt))⟩
#print axioms good_any
end Go.Proofs.YtinlpaabmojmkaaDoor
