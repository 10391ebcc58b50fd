/-
  indenturelaw10.ProofChecks: the walk.
-/
import Derived.Test.YtfclmjfbcmjfbaaDoorPfT
import Derived.Test.YtfclmjfbcmjfbaaDoorClimbsWalk10
namespace Go.Proofs.YtfclmjfbcmjfbaaDoor
open Go.RowKit
set_option maxHeartbeats 8000000 in
set_option maxRecDepth 100000 in
theorem proofChecks_any (x y : Hs) (m n : Int) (p : List Hs) (pv : Value) (w : World) (hT : Tabs w) (hP : RdG HE w pv p) :
    Calls Tryd.prog 5 #[.agg (By x.1 ++ By y.1).toArray, .agg #[.int .i64 m, .int .i64 n], pv] w fun e w' => e = .returned (.bool true) ∧ Below w.heap.size w w' := by
  obtain ⟨N, HNw⟩ : ∃ N, Hid (w.heap.size = N) := ⟨_, rfl⟩
  have HNT : Hid (2 ≤ N) := (show 2 ≤ N by rw [← HNw.out]; exact hT.size)
  have HT := hide hT
  have RP := hide hP
  obtain ⟨pa, cp, rfl⟩ := hP.slice
  obtain ⟨np, HNP⟩ : ∃ k, Hid (p.length = k) := ⟨_, rfl⟩
  rw [HNP.out] at RP ⊢
  obtain ⟨rs, HRS⟩ : ∃ rs, Hid (checksC x y m n p = rs) := ⟨_, rfl⟩
  clear hP hT
  go_enter Tryd.func5, Tryd.ntmps5
  go_upto_region 1 with fail
  obtain ⟨w0, hw0⟩ : ∃ z, z = (w.alloc (.cells (By x.1 ++ By y.1).toArray 31 (0, 0))).alloc (.cells [.int .i64 m, .int .i64 n].toArray 32 (0, 0)) := ⟨_, rfl⟩
  change Code.wp _ _ _ _ ((w.alloc (.cells (By x.1 ++ By y.1).toArray 31 (0, 0))).alloc (.cells [.int .i64 m, .int .i64 n].toArray 32 (0, 0)))
  rw [← hw0, HNw.out]
  obtain ⟨b0, b1, ln⟩ := boxes2' HNw hw0
  have BH0 := hide b0
  have BI0 := hide b1
  have L0 := hide ln
  have S0 : Hid (N ≤ w0.heap.size) := (show N ≤ w0.heap.size by have := b0.lt; omega)
  have R0 := hide (RP.out.kept (show Below w.heap.size w w0 by rw [HNw.out]; exact ln))
  have T0 : Hid (Tabs w0) := HT.out.kept (L0.out.mono HNT.out)
  clear hw0 b0 b1 ln
  by_cases hnp : np ≤ 200
  · have q1 : decide ((200 : Int) < (np : Int)) = false := decide_eq_false (by omega)
    go_upto_region 3 with fail
    refine wp_region_inv Tryd.mixed (KS (fun i_ => match i_ with | 0 | 10 => .val (.pointer (some ⟨N, 0, none⟩)) | 1 | 11 => .val (HV x) | 2 | 12 => .val (.pointer (some ⟨N, 32, none⟩)) | 3 | 13 => .val (HV y) | 4 | 14 => .val (.pointer (some ⟨N + 1, 0, none⟩)) | 5 | 15 => .val (.int .i64 m) | 6 | 16 => .val (.pointer (some ⟨N + 1, 1, none⟩)) | 7 | 17 => .val (.int .i64 n) | 8 | 18 => .val (.slice pa np cp) | 9 | 19 => .val (.bool rs) | 20 | 21 | 22 | 23 | 24 => .val (.bool true) | _ => .free)) 35 rfl (by decide +kernel) (KS_mono _) ?_ ?_
    · refine AllFrom.cons (fun a' w' hg hk hd => ?_) (AllFrom.cons (fun a' w' hg hk hd => ?_) (AllFrom.cons (fun a' w' hg hk hd => ?_) (AllFrom.cons (fun a' w' hg hk hd => ?_) (AllFrom.cons (fun a' w' hg hk hd => ?_) (AllFrom.cons (fun a' w' hg hk hd => ?_) (AllFrom.cons (fun a' w' hg hk hd => ?_) (AllFrom.cons (fun a' w' hg hk hd => ?_) (AllFrom.cons (fun a' w' hg hk hd => ?_) (AllFrom.cons (fun a' w' hg hk hd => ?_) (AllFrom.cons (fun a' w' hg hk hd => ?_) (AllFrom.cons (fun a' w' hg hk hd => ?_) (AllFrom.cons (fun a' w' hg hk hd => ?_) (AllFrom.cons (fun a' w' hg hk hd => ?_) (AllFrom.cons (fun a' w' hg hk hd => ?_) (AllFrom.cons (fun a' w' hg hk hd => ?_) (AllFrom.cons (fun a' w' hg hk hd => ?_) (AllFrom.cons (fun a' w' hg hk hd => ?_) (AllFrom.cons (fun a' w' hg hk hd => ?_) (AllFrom.cons (fun a' w' hg hk hd => ?_) (AllFrom.cons (fun a' w' hg hk hd => ?_) (AllFrom.cons (fun a' w' hg hk hd => ?_) (AllFrom.cons (fun a' w' hg hk hd => ?_) (AllFrom.cons (fun a' w' hg hk hd => ?_) (AllFrom.cons (fun a' w' hg hk hd => ?_) AllFrom.nil))))))))))))))))))))))))
      · skip
        intro Q
        have e3 : a'.eval (.tmp 3) = .pointer (some ⟨N, 0, none⟩) := hk.at 3 (by decide +kernel)
        clear hd hk
        exact wp_value (.pointer (some ⟨N, 0, none⟩)) (by simp only [execOp, e3]; go_simp) (KS_mkv rfl rfl)
      · skip
        intro Q
        have e11 : a'.eval (.tmp 11) = .pointer (some ⟨N, 0, none⟩) := KS_val (hd.val 0 11 (by decide +kernel)) rfl
        exact wp_load_row 30 _ rfl _ _ e11 (By (x).1) _ (two_lo (BH0.out.kept hg)) Tryd.underlying30 rfl (Tryd.sizeH _) (KS_mkv rfl rfl)
      · skip
        intro Q
        have e3 : a'.eval (.tmp 3) = .pointer (some ⟨N, 0, none⟩) := hk.at 3 (by decide +kernel)
        clear hd hk
        exact wp_value (.pointer (some ⟨N, 32, none⟩)) (by simp only [execOp, e3]; go_simp) (KS_mkv rfl rfl)
      · skip
        intro Q
        have e13 : a'.eval (.tmp 13) = .pointer (some ⟨N, 32, none⟩) := KS_val (hd.val 2 13 (by decide +kernel)) rfl
        exact wp_load_row 30 _ rfl _ _ e13 (By (y).1) _ (two_hi (BH0.out.kept hg)) Tryd.underlying30 rfl (Tryd.sizeH _) (KS_mkv rfl rfl)
      · skip
        intro Q
        have e4 : a'.eval (.tmp 4) = .pointer (some ⟨N + 1, 0, none⟩) := hk.at 4 (by decide +kernel)
        clear hd hk
        exact wp_value (.pointer (some ⟨N + 1, 0, none⟩)) (by simp only [execOp, e4]; go_simp) (KS_mkv rfl rfl)
      · skip
        intro Q
        have e15 : a'.eval (.tmp 15) = .pointer (some ⟨N + 1, 0, none⟩) := KS_val (hd.val 4 15 (by decide +kernel)) rfl
        have hc := (BI0.out.kept hg).cell (j := 0) rfl
        clear hd hk
        exact wp_value (.int .i64 m) (by simp only [execOp, e15]; go_simp) (KS_mkv rfl rfl)
      · skip
        intro Q
        have e4 : a'.eval (.tmp 4) = .pointer (some ⟨N + 1, 0, none⟩) := hk.at 4 (by decide +kernel)
        clear hd hk
        exact wp_value (.pointer (some ⟨N + 1, 1, none⟩)) (by simp only [execOp, e4]; go_simp) (KS_mkv rfl rfl)
      · skip
        intro Q
        have e17 : a'.eval (.tmp 17) = .pointer (some ⟨N + 1, 1, none⟩) := KS_val (hd.val 6 17 (by decide +kernel)) rfl
        have hc := (BI0.out.kept hg).cell (j := 1) rfl
        clear hd hk
        exact wp_value (.int .i64 n) (by simp only [execOp, e17]; go_simp) (KS_mkv rfl rfl)
      · skip
        intro Q
        have e2 : a'.eval (.tmp 2) = .slice pa np cp := hk.at 2 (by decide +kernel)
        exact wp_value _ (by simp only [execOp, e2]; rfl) (KS_mkv rfl rfl)
      · skip
        intro Q
        have e12 : a'.eval (.tmp 12) = HV x := KS_val (hd.val 1 12 (by decide +kernel)) rfl
        have e14 : a'.eval (.tmp 14) = HV y := KS_val (hd.val 3 14 (by decide +kernel)) rfl
        have e16 : a'.eval (.tmp 16) = .int .i64 m := KS_val (hd.val 5 16 (by decide +kernel)) rfl
        have e18 : a'.eval (.tmp 18) = .int .i64 n := KS_val (hd.val 7 18 (by decide +kernel)) rfl
        have e19 : a'.eval (.tmp 19) = .slice pa np cp := KS_val (hd.val 8 19 (by decide +kernel)) rfl
        refine wp_call 20 _ (run_enter 20 _ _ rfl (by kernel_rfl)) ?_
        simp only [List.map_toArray, List.map_nil, List.map_cons, e12, e14, e16, e18, e19]
        have CC := checks_any x y m n (.slice pa np cp) p _ (T0.out.gr hg) (R0.out.kept hg)
        rw [HRS.out] at CC
        refine (CC).mono ?_
        rintro e w5 ⟨rfl, hb5⟩
        exact ⟨_, rfl, KS_mkv rfl rfl, hb5⟩
      · skip
        intro Q
        have e3 : a'.eval (.tmp 3) = .pointer (some ⟨N, 0, none⟩) := hk.at 3 (by decide +kernel)
        clear hd hk
        exact wp_value (.pointer (some ⟨N, 0, none⟩)) (by simp only [execOp, e3]; go_simp) (KS_mkv rfl rfl)
      · skip
        intro Q
        have e21 : a'.eval (.tmp 21) = .pointer (some ⟨N, 0, none⟩) := KS_val (hd.val 10 21 (by decide +kernel)) rfl
        exact wp_load_row 30 _ rfl _ _ e21 (By (x).1) _ (two_lo (BH0.out.kept hg)) Tryd.underlying30 rfl (Tryd.sizeH _) (KS_mkv rfl rfl)
      · skip
        intro Q
        have e3 : a'.eval (.tmp 3) = .pointer (some ⟨N, 0, none⟩) := hk.at 3 (by decide +kernel)
        clear hd hk
        exact wp_value (.pointer (some ⟨N, 32, none⟩)) (by simp only [execOp, e3]; go_simp) (KS_mkv rfl rfl)
      · skip
        intro Q
        have e23 : a'.eval (.tmp 23) = .pointer (some ⟨N, 32, none⟩) := KS_val (hd.val 12 23 (by decide +kernel)) rfl
        exact wp_load_row 30 _ rfl _ _ e23 (By (y).1) _ (two_hi (BH0.out.kept hg)) Tryd.underlying30 rfl (Tryd.sizeH _) (KS_mkv rfl rfl)
      · skip
        intro Q
        have e4 : a'.eval (.tmp 4) = .pointer (some ⟨N + 1, 0, none⟩) := hk.at 4 (by decide +kernel)
        clear hd hk
        exact wp_value (.pointer (some ⟨N + 1, 0, none⟩)) (by simp only [execOp, e4]; go_simp) (KS_mkv rfl rfl)
      · skip
        intro Q
        have e25 : a'.eval (.tmp 25) = .pointer (some ⟨N + 1, 0, none⟩) := KS_val (hd.val 14 25 (by decide +kernel)) rfl
        have hc := (BI0.out.kept hg).cell (j := 0) rfl
        clear hd hk
        exact wp_value (.int .i64 m) (by simp only [execOp, e25]; go_simp) (KS_mkv rfl rfl)
      · skip
        intro Q
        have e4 : a'.eval (.tmp 4) = .pointer (some ⟨N + 1, 0, none⟩) := hk.at 4 (by decide +kernel)
        clear hd hk
        exact wp_value (.pointer (some ⟨N + 1, 1, none⟩)) (by simp only [execOp, e4]; go_simp) (KS_mkv rfl rfl)
      · skip
        intro Q
        have e27 : a'.eval (.tmp 27) = .pointer (some ⟨N + 1, 1, none⟩) := KS_val (hd.val 16 27 (by decide +kernel)) rfl
        have hc := (BI0.out.kept hg).cell (j := 1) rfl
        clear hd hk
        exact wp_value (.int .i64 n) (by simp only [execOp, e27]; go_simp) (KS_mkv rfl rfl)
      · skip
        intro Q
        have e2 : a'.eval (.tmp 2) = .slice pa np cp := hk.at 2 (by decide +kernel)
        exact wp_value _ (by simp only [execOp, e2]; rfl) (KS_mkv rfl rfl)
      · skip
        intro Q
        have e22 : a'.eval (.tmp 22) = HV x := KS_val (hd.val 11 22 (by decide +kernel)) rfl
        have e24 : a'.eval (.tmp 24) = HV y := KS_val (hd.val 13 24 (by decide +kernel)) rfl
        have e26 : a'.eval (.tmp 26) = .int .i64 m := KS_val (hd.val 15 26 (by decide +kernel)) rfl
        have e28 : a'.eval (.tmp 28) = .int .i64 n := KS_val (hd.val 17 28 (by decide +kernel)) rfl
        have e29 : a'.eval (.tmp 29) = .slice pa np cp := KS_val (hd.val 18 29 (by decide +kernel)) rfl
        refine wp_call 21 _ (run_enter 21 _ _ rfl (by kernel_rfl)) ?_
        simp only [List.map_toArray, List.map_nil, List.map_cons, e22, e24, e26, e28, e29]
        have CC := xchecks_any x y m n (.slice pa np cp) p _ (R0.out.kept hg)
        rw [HRS.out] at CC
        refine (CC).mono ?_
        rintro e w5 ⟨rfl, hb5⟩
        exact ⟨_, rfl, KS_mkv rfl rfl, hb5⟩
      · skip
        intro Q
        have e20 : a'.eval (.tmp 20) = .bool rs := KS_val (hd.val 9 20 (by decide +kernel)) rfl
        have e30 : a'.eval (.tmp 30) = .bool rs := KS_val (hd.val 19 30 (by decide +kernel)) rfl
        clear hd hk
        exact wp_value (.bool true) (by simp only [execOp, e20, e30]; cases rs <;> go_simp) (KS_mkv rfl rfl)
      · skip
        intro Q
        have e31 : a'.eval (.tmp 31) = .bool true := KS_val (hd.val 20 31 (by decide +kernel)) rfl
        exact wp_value _ (by simp only [execOp, e31]; rfl) (KS_mkv rfl rfl)
      · skip
        have eg : a'.eval (.tmp 32) = .bool true := KS_val (hd.val 21 32 (by decide +kernel)) rfl
        refine ⟨32, true, rfl, eg, fun _ Q => ?_, fun h => absurd rfl h⟩
        refine wp_call 10 _ (run_enter 10 _ _ rfl (by kernel_rfl)) ?_
        simp only [List.map_toArray, List.map_nil]
        refine (lives_any _ (T0.out.gr hg)).mono ?_
        rintro e w5 ⟨rfl, hb5⟩
        exact ⟨_, rfl, KS_mkv rfl rfl, hb5⟩
      · skip
        intro Q
        have e32 : a'.eval (.tmp 32) = .bool true := KS_val (hd.val 21 32 (by decide +kernel)) rfl
        have e33 : a'.eval (.tmp 33) = .bool true := KS_val (hd.val 22 33 (by decide +kernel)) rfl
        clear hd hk
        exact wp_value (.bool true) (by simp only [execOp, e32, e33]; go_simp) (KS_mkv rfl rfl)
      · skip
        intro Q
        have e34 : a'.eval (.tmp 34) = .bool true := KS_val (hd.val 23 34 (by decide +kernel)) rfl
        exact wp_value _ (by simp only [execOp, e34]; rfl) (KS_mkv rfl rfl)
    intro a' w10 hsz hdf hk hall hg
    have e6 : a'.eval (.tmp 6) = .bool true := KS_val (hall 24 _ 6 rfl rfl) rfl
    have hd0 : a'.defers = [] := hdf
    have L10 : Below N w w10 := L0.out.trans (Below.mono hg S0.out)
    clear hall hk hsz hdf
    go_wp2_with fail
    refine bodyPost_ret (results_tmp rfl _ _ _) hd0 ⟨?_, by rw [HNw.out]; exact L10⟩
    have : a'.tmps.getD 6 undef = .bool true := e6
    rw [this]
  · have q1 : decide ((200 : Int) < (np : Int)) = true := decide_eq_true (by omega)
    go_wp2_with fail
    refine (lives_any w0 T0.out).mono ?_
    rintro e w2 ⟨rfl, hb2⟩
    go_wp2_with fail
    go_ret
    exact ⟨rfl, by rw [HNw.out]; exact L0.out.trans (hb2.mono S0.out)⟩
#print axioms proofChecks_any
end Go.Proofs.YtfclmjfbcmjfbaaDoor
