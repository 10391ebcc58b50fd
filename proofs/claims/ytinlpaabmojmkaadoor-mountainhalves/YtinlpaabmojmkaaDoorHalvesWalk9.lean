/-
  indenturelaw09.MountainHalves: what the call does.
-/
import Derived.Test.YtinlpaabmojmkaaDoorMtR
import Derived.Test.YtinlpaabmojmkaaDoorAndPow
namespace Go.Proofs.YtinlpaabmojmkaaDoor
open Go.RowKit
set_option maxHeartbeats 2000000 in
set_option maxRecDepth 100000 in
theorem mountainHalves_any (l : List Hs) (v : Value) (w : World) (hT : Tabs w) (hr : RdG HE w v l) : Calls Tryd.prog 6 #[v] w fun e w' => e = .returned (.bool true) ∧ Below w.heap.size w w' := by
  have R0 := hide hr
  have hcap := hr.cap'
  obtain ⟨a, cp, rfl⟩ := hr.slice
  have hcp := hr.cap
  obtain ⟨m, HM⟩ : ∃ m, Hid (l.length = m) := ⟨_, rfl⟩
  rw [HM.out] at R0 hcap hcp ⊢
  have HT := hide hT
  clear hr hT
  have hm63 : (m : Int) ≤ 9223372036854775807 := by omega
  have C1 := hide (fun w => split_any (m : Int) hm63 w)
  rw [show ((m : Int)).toNat = m by omega] at C1
  go_enter Tryd.func6, Tryd.ntmps6
  by_cases h60 : 60 < m
  · have q1 : ¬ (m : Int) < 2 := by omega
    have q2 : (60 : Int) < (m : Int) := by omega
    go_wp2_with fail
    refine (mlives_any w).mono ?_
    rintro e w4 ⟨rfl, hb4⟩
    have HB4 := hide hb4
    clear hb4
    go_wp2
    go_ret
    exact ⟨rfl, HB4.out⟩
  · by_cases h2 : m < 2
    · have q1 : (m : Int) < 2 := by omega
      have q2 : ¬ (60 : Int) < (m : Int) := by omega
      have hs : spl m = 0 := spl_small h2
      rw [hs] at C1
      go_wp2_with fail
      refine (C1.out w).mono ?_
      rintro e w2 ⟨rfl, rfl⟩
      go_wp2_with fail
      refine (mlives_any _).mono ?_
      rintro e w4 ⟨rfl, hb4⟩
      have HB4 := hide hb4
      clear hb4
      go_wp2
      go_ret
      exact ⟨rfl, HB4.out⟩
    · have q1 : ¬ (m : Int) < 2 := by omega
      have q2 : ¬ (60 : Int) < (m : Int) := by omega
      have HL : Hid (root nd em l = nd (root nd em (l.take (spl m))) (root nd em (l.drop (spl m)))) := (show _ = _ by rw [root_split nd em (by rw [HM.out]; omega), HM.out])
      have hk1 := spl_lt (n := m) (by omega)
      have hk0 := spl_pos (n := m) (by omega)
      have hk2 := spl_ge (n := m) (by omega)
      have g3 : spl m = 2 ^ Nat.log2 (m - 1) := by unfold spl; rw [if_neg h2]
      have hL63 : Nat.log2 (m - 1) < 63 := (Nat.log2_lt (by omega)).2 (by omega)
      have hand := and_pow hL63
      rw [← g3] at hand
      clear g3 hL63
      generalize spl m = k at *
      obtain ⟨hs1, hs1r⟩ := slice_G_to (E := HE) (P := Tryd.prog) Tryd.underlying22 Tryd.size30 a m cp k (by omega) (by omega)
      obtain ⟨a2, hs2, -, hs2r⟩ := slice_G (E := HE) (P := Tryd.prog) Tryd.underlying22 Tryd.size30 a m cp k (by omega) (by omega)
      have RT := hide (hs1r _ _ R0.out)
      have RD := hide (hs2r _ _ R0.out)
      clear hs1r hs2r
      have eQ := eqA (root nd em l) (root nd em l)
      rw [decide_eq_true rfl] at eQ
      go_upto_region 6 with (first
        | (go_at_call 19; refine (C1.out _).mono ?_; rintro e w' ⟨rfl, rfl⟩)
        | fail)
      refine wp_region_inv Tryd.mixed (KS (fun i_ => match i_ with | 0 | 2 | 6 => .val (.slice a m cp) | 1 | 10 => .val (HV (root nd em l)) | 3 | 7 => .val (.int .i64 (k : Int)) | 4 => .val (.slice a k cp) | 5 => .val (HV (root nd em (l.take k))) | 8 => .val (.slice a2 (m - k) (cp - k)) | 9 => .val (HV (root nd em (l.drop k))) | 11 | 12 | 13 | 14 | 15 => .val (.bool true) | _ => .free)) 72 rfl (by decide +kernel) (KS_mono _) ?_ ?_
      · refine AllFrom.cons (fun a' w' hg hk hd => ?_) (AllFrom.cons (fun a' w' hg hk hd => ?_) (AllFrom.cons (fun a' w' hg hk hd => ?_) (AllFrom.cons (fun a' w' hg hk hd => ?_) (AllFrom.cons (fun a' w' hg hk hd => ?_) (AllFrom.cons (fun a' w' hg hk hd => ?_) (AllFrom.cons (fun a' w' hg hk hd => ?_) (AllFrom.cons (fun a' w' hg hk hd => ?_) (AllFrom.cons (fun a' w' hg hk hd => ?_) (AllFrom.cons (fun a' w' hg hk hd => ?_) (AllFrom.cons (fun a' w' hg hk hd => ?_) (AllFrom.cons (fun a' w' hg hk hd => ?_) (AllFrom.cons (fun a' w' hg hk hd => ?_) (AllFrom.cons (fun a' w' hg hk hd => ?_) (AllFrom.cons (fun a' w' hg hk hd => ?_) (AllFrom.cons (fun a' w' hg hk hd => ?_) AllFrom.nil)))))))))))))))
        · skip
          intro Q
          have e0 : a'.eval (.tmp 0) = .slice a m cp := hk.at 0 (by decide +kernel)
          exact wp_value _ (by simp only [execOp, e0]; rfl) (KS_mkv rfl rfl)
        · skip
          intro Q
          have e57 : a'.eval (.tmp 57) = .slice a m cp := KS_val (hd.val 0 57 (by decide +kernel)) rfl
          refine wp_call 10 _ (run_enter 10 _ _ rfl (by kernel_rfl)) ?_
          simp only [List.map_toArray, List.map_nil, List.map_cons, e57]
          refine (root_any l _ _ (HT.out.gr hg) (R0.out.kept hg)).mono ?_
          rintro e w5 ⟨rfl, hb5⟩
          exact ⟨_, rfl, KS_mkv rfl rfl, hb5⟩
        · skip
          intro Q
          have e0 : a'.eval (.tmp 0) = .slice a m cp := hk.at 0 (by decide +kernel)
          exact wp_value _ (by simp only [execOp, e0]; rfl) (KS_mkv rfl rfl)
        · skip
          intro Q
          have e3 : a'.eval (.tmp 3) = .int .i64 (k : Int) := hk.at 3 (by decide +kernel)
          exact wp_value _ (by simp only [execOp, e3]; rfl) (KS_mkv rfl rfl)
        · skip
          intro Q
          have e59 : a'.eval (.tmp 59) = .slice a m cp := KS_val (hd.val 2 59 (by decide +kernel)) rfl
          have e60 : a'.eval (.tmp 60) = .int .i64 (k : Int) := KS_val (hd.val 3 60 (by decide +kernel)) rfl
          exact wp_value _ (by simp only [execOp, e59, e60, hs1, Sem.run_bind, Result.andThen_ok, Option.map_none, Option.map_some]; rfl) (KS_mkv rfl rfl)
        · skip
          intro Q
          have e61 : a'.eval (.tmp 61) = .slice a k cp := KS_val (hd.val 4 61 (by decide +kernel)) rfl
          refine wp_call 10 _ (run_enter 10 _ _ rfl (by kernel_rfl)) ?_
          simp only [List.map_toArray, List.map_nil, List.map_cons, e61]
          refine (root_any (l.take k) _ _ (HT.out.gr hg) (RT.out.kept hg)).mono ?_
          rintro e w5 ⟨rfl, hb5⟩
          exact ⟨_, rfl, KS_mkv rfl rfl, hb5⟩
        · skip
          intro Q
          have e0 : a'.eval (.tmp 0) = .slice a m cp := hk.at 0 (by decide +kernel)
          exact wp_value _ (by simp only [execOp, e0]; rfl) (KS_mkv rfl rfl)
        · skip
          intro Q
          have e3 : a'.eval (.tmp 3) = .int .i64 (k : Int) := hk.at 3 (by decide +kernel)
          exact wp_value _ (by simp only [execOp, e3]; rfl) (KS_mkv rfl rfl)
        · skip
          intro Q
          have e63 : a'.eval (.tmp 63) = .slice a m cp := KS_val (hd.val 6 63 (by decide +kernel)) rfl
          have e64 : a'.eval (.tmp 64) = .int .i64 (k : Int) := KS_val (hd.val 7 64 (by decide +kernel)) rfl
          exact wp_value _ (by simp only [execOp, e63, e64, hs2, Sem.run_bind, Result.andThen_ok, Option.map_none, Option.map_some]; rfl) (KS_mkv rfl rfl)
        · skip
          intro Q
          have e65 : a'.eval (.tmp 65) = .slice a2 (m - k) (cp - k) := KS_val (hd.val 8 65 (by decide +kernel)) rfl
          refine wp_call 10 _ (run_enter 10 _ _ rfl (by kernel_rfl)) ?_
          simp only [List.map_toArray, List.map_nil, List.map_cons, e65]
          refine (root_any (l.drop k) _ _ (HT.out.gr hg) (RD.out.kept hg)).mono ?_
          rintro e w5 ⟨rfl, hb5⟩
          exact ⟨_, rfl, KS_mkv rfl rfl, hb5⟩
        · skip
          intro Q
          have e62 : a'.eval (.tmp 62) = HV (root nd em (l.take k)) := KS_val (hd.val 5 62 (by decide +kernel)) rfl
          have e66 : a'.eval (.tmp 66) = HV (root nd em (l.drop k)) := KS_val (hd.val 9 66 (by decide +kernel)) rfl
          refine wp_call 20 _ (run_enter 20 _ _ rfl (by kernel_rfl)) ?_
          simp only [List.map_toArray, List.map_nil, List.map_cons, e62, e66]
          refine (rnode_any _ _ _).mono ?_
          rintro e w5 ⟨rfl, hb5⟩
          exact ⟨_, rfl, KS_mkv rfl (by rw [HL.out]), hb5⟩
        · skip
          intro Q
          have e58 : a'.eval (.tmp 58) = HV (root nd em l) := KS_val (hd.val 1 58 (by decide +kernel)) rfl
          have e67 : a'.eval (.tmp 67) = HV (root nd em l) := KS_val (hd.val 10 67 (by decide +kernel)) rfl
          exact wp_value (.bool true) (by simp only [execOp, e58, e67, HV]; go_simp) (KS_mkv rfl rfl)
        · skip
          intro Q
          have e68 : a'.eval (.tmp 68) = .bool true := KS_val (hd.val 11 68 (by decide +kernel)) rfl
          exact wp_value _ (by simp only [execOp, e68]; rfl) (KS_mkv rfl rfl)
        · skip
          have eg : a'.eval (.tmp 69) = .bool true := KS_val (hd.val 12 69 (by decide +kernel)) rfl
          refine ⟨69, true, rfl, eg, fun _ Q => ?_, fun h => absurd rfl h⟩
          refine wp_call 7 _ (run_enter 7 _ _ rfl (by kernel_rfl)) ?_
          simp only [List.map_toArray, List.map_nil]
          refine (mlives_any _).mono ?_
          rintro e w5 ⟨rfl, hb5⟩
          exact ⟨_, rfl, KS_mkv rfl rfl, hb5⟩
        · skip
          intro Q
          have e69 : a'.eval (.tmp 69) = .bool true := KS_val (hd.val 12 69 (by decide +kernel)) rfl
          have e70 : a'.eval (.tmp 70) = .bool true := KS_val (hd.val 13 70 (by decide +kernel)) rfl
          clear hd hk
          exact wp_value (.bool true) (by simp only [execOp, e69, e70]; go_simp) (KS_mkv rfl rfl)
        · skip
          intro Q
          have e71 : a'.eval (.tmp 71) = .bool true := KS_val (hd.val 14 71 (by decide +kernel)) rfl
          exact wp_value _ (by simp only [execOp, e71]; rfl) (KS_mkv rfl rfl)
      · intro a' w' hsz hdf hk hall hg
        have e2 : a'.eval (.tmp 2) = .bool true := KS_val (hall 15 _ 2 rfl rfl) rfl
        go_wp2
        exact bodyPost_ret (results_tmp Tryd.results6 _ _ _) hdf ⟨congrArg Ending.returned e2, hg⟩
#print axioms mountainHalves_any
end Go.Proofs.YtinlpaabmojmkaaDoor
