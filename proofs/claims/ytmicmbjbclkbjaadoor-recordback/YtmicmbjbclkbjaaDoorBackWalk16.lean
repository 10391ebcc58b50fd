/-
  The law RecordBack: what the call does.
-/
import Derived.Test.YtmicmbjbclkbjaaDoorRcH
import Derived.Test.YtmicmbjbclkbjaaDoorRegion19
namespace Go.Proofs.YtmicmbjbclkbjaaDoor
open Go.RowKit
theorem eqg_n9 (x y : Operand) (a b : ByteArray) : ∀ W, (eqGuard .neq 9 x y (.string a) (.string b)).run Tryd.prog W = .ok () W := fun W => by
  simp [eqGuard, go_sem]
theorem sneq_run (a b : List UInt8) : ∀ W, (binOp .neq 9 (.string ⟨a.toArray⟩) (.string ⟨b.toArray⟩)).run Tryd.prog W = .ok (.bool (!(a == b))) W := fun W => by
  have e : ((⟨a.toArray⟩ : ByteArray).toList == (⟨b.toArray⟩ : ByteArray).toList) = (a == b) := by rw [ByteArray.toList_eq, ByteArray.toList_eq]
  rw [← e]
  simp [binOp, Op.stringOp, go_sem]
/-- Two that are sound are alike if they have the same bytes. -/
theorem back_same {p q : Rc} (hp : soundP p = true) (hq : soundP q = true) (h : eD (pdR p) = eD (pdR q)) : sameB p q = true := by
  obtain ⟨a1, a2, a3⟩ := sound_ok hp
  obtain ⟨b1, b2, b3⟩ := sound_ok hq
  unfold sameB
  simp only [Bool.and_eq_true, decide_eq_true_eq, eqX_iff]
  have h1 := eD_inj a1 b1 h
  unfold pdR at h1
  rw [Pd.mk.injEq] at h1
  obtain ⟨e1, e2, e3, e4, e5⟩ := h1
  exact ⟨by omega, by omega, e3, e4, e5⟩
/-- Cut off they are none. -/
theorem back_cut {r z : Rc} {c : Nat} (hr : soundP r = true) (hz : soundP z = true) (hc : c < (eD (pdR r)).length) (h : eD (pdR z) = (eD (pdR r)).take c) : False := by
  refine pD_cut (e := pdR z) (sound_ok hr).1 hc ?_
  rw [← h]
  have := pD_eD (sound_ok hz).1 []
  rwa [List.append_nil] at this
theorem good_eq {r : Rc} (h : soundP r = true) (h2 : (eD (pdR r)).length ≤ 8192) : goodR r = true := by
  unfold goodR
  rw [h, decide_eq_true h2]
  rfl
theorem bytes_eq {r : Rc} (h : soundP r = true) : bytesP r = eD (pdR r) := by
  unfold bytesP
  rw [if_pos h]
set_option maxHeartbeats 8000000 in
set_option maxRecDepth 100000 in
theorem recordBack_any {w : World} {r : Rc} {v : Value} {l : List UInt8} {n : Nat} (hT : Tabs w) (hr : ROk w r) (hb : RB 140737488351232 r) (hv : Rd w v l) (hl : l.length ≤ 140737488355328) (hn : n < 18446744073709551616) : Calls Tryd.prog 4 #[.agg (RC r).toArray, v, .int .u64 (n : Int)] w fun e w' => e = .returned (.bool true) ∧ Below w.heap.size w w' := by
  obtain ⟨a, cap, rfl⟩ := hv.slice
  obtain ⟨N, HN⟩ : ∃ N, Hid (w.heap.size = N) := ⟨_, rfl⟩
  obtain ⟨m, Hm⟩ : ∃ z, Hid (l.length = z) := ⟨_, rfl⟩
  obtain ⟨w1, hw1⟩ : ∃ y, y = w.alloc (.cells (RC r).toArray 25 (0, 0)) := ⟨_, rfl⟩
  obtain ⟨b1, l1⟩ := newB HN hw1
  have HW := hide hw1
  have RO := hide (hr.kept l1.out)
  have RV := hide (hv.kept l1.out)
  have HT : Hid (Tabs w1) := (show Tabs _ from hT.kept (l1.out.mono hT.size))
  have HT2 : Hid (2 ≤ w1.heap.size) := (show 2 ≤ _ from HT.out.size)
  have HBR := hide hb
  have HLL := hide hl
  have CL := hide (mlight_any RO.out hb)
  have HNN := hide hn
  rw [Hm.out] at RV ⊢
  have rk := b1.out.range0
  clear hr hw1 hb hv hT hl hn
  go_enter Tryd.func4, Tryd.ntmps4
  go_upto_region 1 with fail
  change Code.wp _ _ _ _ (w.alloc (.cells (RC r).toArray 25 (0, 0)))
  rw [← HW.out, HN.out]
  go_wp2_with (first
    | (refine wpList_load_mid rfl 25 _ rfl N 0 rfl (RC r) _ rk Tryd.underlying25 rfl Tryd.size25 ?_)
    | (refine wpList_load_w9 rfl 25 _ rfl N 0 rfl (RC r) _ rk Tryd.underlying25 rfl Tryd.size25 ?_)
    | fail)
  refine CL.out.mono ?_
  rintro e w2 ⟨b, rfl, -, hb2⟩
  have L2 : Hid (Below w1.heap.size w1 w2) := (show Below _ _ _ from hb2)
  clear hb2 CL rk
  cases b with
  | false =>
    have CV := hide (lives_any w2)
    go_wp2_with (first
      | (refine wpList_load_mid rfl 25 _ rfl N 0 rfl (RC r) _ rk Tryd.underlying25 rfl Tryd.size25 ?_)
      | (refine wpList_load_w9 rfl 25 _ rfl N 0 rfl (RC r) _ rk Tryd.underlying25 rfl Tryd.size25 ?_)
      | fail)
    refine CV.out.mono ?_
    rintro e w9 ⟨rfl, hb9⟩
    have L9 : Hid (Below w.heap.size w w9) := (show Below _ _ _ from l1.out.trans ((L2.out.trans (hb9.mono L2.out.size)).mono l1.out.size))
    clear hb9 CV
    go_wp2_with fail
    go_ret
    exact ⟨rfl, L9.out⟩
  | true =>
    by_cases hm : 3000 < m
    · have q1 : decide ((3000 : Int) < (m : Int)) = true := by simp; omega
      have CV := hide (lives_any w2)
      go_wp2_with (first
        | (refine wpList_load_mid rfl 25 _ rfl N 0 rfl (RC r) _ rk Tryd.underlying25 rfl Tryd.size25 ?_)
        | (refine wpList_load_w9 rfl 25 _ rfl N 0 rfl (RC r) _ rk Tryd.underlying25 rfl Tryd.size25 ?_)
        | fail)
      refine CV.out.mono ?_
      rintro e w9 ⟨rfl, hb9⟩
      have L9 : Hid (Below w.heap.size w w9) := (show Below _ _ _ from l1.out.trans ((L2.out.trans (hb9.mono L2.out.size)).mono l1.out.size))
      clear hb9 CV
      go_wp2_with fail
      go_ret
      exact ⟨rfl, L9.out⟩
    · have q1 : decide ((3000 : Int) < (m : Int)) = false := by simp; omega
      have CR := hide (jread16_any (RV.out.kept L2.out) HLL.out)
      go_wp2_with fail
      refine CR.out.mono ?_
      rintro e w3 ⟨⟨X, x, rfl, ox, hx⟩, hb3⟩
      have L3 : Hid (Below w1.heap.size w1 w3) := (show Below _ _ _ from L2.out.trans (hb3.mono L2.out.size))
      have OX := hide ox
      have HX := hide hx
      clear hb3 CR ox hx
      obtain ⟨C, HC⟩ : ∃ z, Hid (w3.heap.size = z) := ⟨_, rfl⟩
      obtain ⟨w4, hw_⟩ : ∃ y, y = w3.alloc (.cells (RC X).toArray 25 (0, 0)) := ⟨_, rfl⟩
      obtain ⟨b_w4, l_w4⟩ := newB HC hw_
      have HW_w4 := hide hw_
      clear hw_
      have L4 : Hid (Below w1.heap.size w1 w4) := (show Below _ _ _ from L3.out.trans (l_w4.out.mono L3.out.size))
      rcases HX.out with ⟨rfl, sx, ex, lx⟩ | ⟨rfl, -, -⟩
      · have hgx := hide (good_eq sx (by rw [ex]; exact lx))
        have hbx := hide ((bytes_eq sx).trans ex)
        have OX4 := hide (OX.out.kept l_w4.out)
        have RV4 := hide (RV.out.kept L4.out)
        clear sx ex lx HX
        go_upto_region 4 with (first
          | (refine wpList_store_new rfl 25 _ _ rfl w3 _ (RC X).toArray _ rfl rfl rfl Tryd.size25 rfl (all_one (RC_one X)) ?_; rw [← HW_w4.out, HC.out])
          | fail)
        try simp only [Act.put]
        refine wp_region_inv Tryd.mixed (KS (fun i_ => match i_ with | 0 => .val (.int .i64 0) | 1 | 2 | 4 => .val (.bool true) | 3 | 7 => .val (.agg (RC X).toArray) | 5 | 6 | 12 | 13 | 14 => .val (.bool false) | 8 | 10 => .rd (l) | 9 | 11 => .val (.string ⟨l.toArray⟩) | _ => .free)) 91 rfl (by decide +kernel) (KS_mono _) ?_ ?_
        · refine AllFrom.cons (fun a' w' hg hk hd => ?_) (AllFrom.cons (fun a' w' hg hk hd => ?_) (AllFrom.cons (fun a' w' hg hk hd => ?_) (AllFrom.cons (fun a' w' hg hk hd => ?_) (AllFrom.cons (fun a' w' hg hk hd => ?_) (AllFrom.cons (fun a' w' hg hk hd => ?_) (AllFrom.cons (fun a' w' hg hk hd => ?_) (AllFrom.cons (fun a' w' hg hk hd => ?_) (AllFrom.cons (fun a' w' hg hk hd => ?_) (AllFrom.cons (fun a' w' hg hk hd => ?_) (AllFrom.cons (fun a' w' hg hk hd => ?_) (AllFrom.cons (fun a' w' hg hk hd => ?_) (AllFrom.cons (fun a' w' hg hk hd => ?_) (AllFrom.cons (fun a' w' hg hk hd => ?_) (AllFrom.cons (fun a' w' hg hk hd => ?_) AllFrom.nil))))))))))))))
          · skip
            intro Q
            have e8 : a'.eval (.tmp 8) = .int .i64 0 := hk.at 8 (by decide +kernel)
            exact wp_value _ (by simp only [execOp, e8]; rfl) (KS_mkv rfl rfl)
          · skip
            intro Q
            have e28 : a'.eval (.tmp 28) = .int .i64 0 := KS_val (hd.val 0 28 (by decide +kernel)) rfl
            clear hd hk
            exact wp_value (.bool true) (by simp only [execOp, e28]; go_simp) (KS_mkv rfl rfl)
          · skip
            intro Q
            have e29 : a'.eval (.tmp 29) = .bool true := KS_val (hd.val 1 29 (by decide +kernel)) rfl
            exact wp_value _ (by simp only [execOp, e29]; rfl) (KS_mkv rfl rfl)
          · skip
            have eg : a'.eval (.tmp 30) = .bool true := KS_val (hd.val 2 30 (by decide +kernel)) rfl
            refine ⟨30, true, rfl, eg, fun _ Q => ?_, fun h => absurd rfl h⟩
            have e7 : a'.eval (.tmp 7) = .pointer (some ⟨C, 0, none⟩) := hk.at 7 (by decide +kernel)
            exact wp_load_row 25 _ rfl _ _ e7 (RC X) _ ((b_w4.out.kept hg).range0) Tryd.underlying25 rfl (Tryd.size25) (KS_mkv rfl rfl)
          · skip
            have eg : a'.eval (.tmp 30) = .bool true := KS_val (hd.val 2 30 (by decide +kernel)) rfl
            refine ⟨30, true, rfl, eg, fun _ Q => ?_, fun h => absurd rfl h⟩
            have e31 : a'.eval (.tmp 31) = .agg (RC X).toArray := KS_val (hd.val 3 31 (by decide +kernel)) rfl
            refine wp_call 7 _ (run_enter 7 _ _ rfl (by kernel_rfl)) ?_
            simp only [List.map_toArray, List.map_nil, List.map_cons, e31]
            refine (jgood_any (OX4.out.kept hg)).mono ?_
            rintro e w6 ⟨rfl, hb6⟩
            rw [hgx.out]
            exact ⟨_, rfl, KS_mkv rfl rfl, hb6⟩
          · skip
            have eg : a'.eval (.tmp 30) = .bool true := KS_val (hd.val 2 30 (by decide +kernel)) rfl
            refine ⟨30, true, rfl, eg, fun _ Q => ?_, fun h => absurd rfl h⟩
            have e32 : a'.eval (.tmp 32) = .bool true := KS_val (hd.val 4 32 (by decide +kernel)) rfl
            clear hd hk
            exact wp_value (.bool false) (by simp only [execOp, e32]; go_simp) (KS_mkv rfl rfl)
          · skip
            have eg : a'.eval (.tmp 30) = .bool true := KS_val (hd.val 2 30 (by decide +kernel)) rfl
            refine ⟨30, true, rfl, eg, fun _ Q => ?_, fun h => absurd rfl h⟩
            have e33 : a'.eval (.tmp 33) = .bool false := KS_val (hd.val 5 33 (by decide +kernel)) rfl
            exact wp_value _ (by simp only [execOp, e33]; rfl) (KS_mkv rfl rfl)
          · skip
            have eg : a'.eval (.tmp 34) = .bool false := KS_val (hd.val 6 34 (by decide +kernel)) rfl
            refine ⟨34, false, rfl, eg, fun _ Q => ?_, fun h => absurd rfl h⟩
            have e7 : a'.eval (.tmp 7) = .pointer (some ⟨C, 0, none⟩) := hk.at 7 (by decide +kernel)
            exact wp_load_row 25 _ rfl _ _ e7 (RC X) _ ((b_w4.out.kept hg).range0) Tryd.underlying25 rfl (Tryd.size25) (KS_mkv rfl rfl)
          · skip
            have eg : a'.eval (.tmp 34) = .bool false := KS_val (hd.val 6 34 (by decide +kernel)) rfl
            refine ⟨34, false, rfl, eg, fun _ Q => ?_, fun h => absurd rfl h⟩
            have e35 : a'.eval (.tmp 35) = .agg (RC X).toArray := KS_val (hd.val 7 35 (by decide +kernel)) rfl
            refine wp_call 9 _ (run_enter 9 _ _ rfl (by kernel_rfl)) ?_
            simp only [List.map_toArray, List.map_nil, List.map_cons, e35]
            refine (jbytes_any (OX4.out.kept hg)).mono ?_
            rintro e w6 ⟨v6, rfl, o6, hb6⟩
            rw [hbx.out] at o6
            exact ⟨v6, rfl, KS_mkr rfl o6.rd, hb6⟩
          · skip
            have eg : a'.eval (.tmp 34) = .bool false := KS_val (hd.val 6 34 (by decide +kernel)) rfl
            refine ⟨34, false, rfl, eg, fun _ Q => ?_, fun h => absurd rfl h⟩
            have r36 : Rd w' (a'.eval (.tmp 36)) (l) := KS_rd (hd.val 8 36 (by decide +kernel)) rfl
            exact wp_value _ (by simp only [execOp, r36.conv (P := Tryd.prog) 28 9 Tryd.underlying28 Tryd.underlying5 Tryd.underlying9, Sem.run_bind, Result.andThen_ok]; rfl) (KS_mkv rfl rfl)
          · skip
            have eg : a'.eval (.tmp 34) = .bool false := KS_val (hd.val 6 34 (by decide +kernel)) rfl
            refine ⟨34, false, rfl, eg, fun _ Q => ?_, fun h => absurd rfl h⟩
            have r1 : Rd w' (a'.eval (.tmp 1)) (l) := by rw [hk.at 1 (by decide +kernel)]; exact Rd.kept (RV4.out) hg
            exact wp_value (a'.eval (.tmp 1)) (by simp only [execOp]; rfl) (KS_mkr rfl r1)
          · skip
            have eg : a'.eval (.tmp 34) = .bool false := KS_val (hd.val 6 34 (by decide +kernel)) rfl
            refine ⟨34, false, rfl, eg, fun _ Q => ?_, fun h => absurd rfl h⟩
            have r38 : Rd w' (a'.eval (.tmp 38)) (l) := KS_rd (hd.val 10 38 (by decide +kernel)) rfl
            exact wp_value _ (by simp only [execOp, r38.conv (P := Tryd.prog) 28 9 Tryd.underlying28 Tryd.underlying5 Tryd.underlying9, Sem.run_bind, Result.andThen_ok]; rfl) (KS_mkv rfl rfl)
          · skip
            have eg : a'.eval (.tmp 34) = .bool false := KS_val (hd.val 6 34 (by decide +kernel)) rfl
            refine ⟨34, false, rfl, eg, fun _ Q => ?_, fun h => absurd rfl h⟩
            have e37 : a'.eval (.tmp 37) = .string ⟨l.toArray⟩ := KS_val (hd.val 9 37 (by decide +kernel)) rfl
            have e39 : a'.eval (.tmp 39) = .string ⟨l.toArray⟩ := KS_val (hd.val 11 39 (by decide +kernel)) rfl
            clear hd hk
            exact wp_value (.bool false) (by simp only [execOp, e37, e39, Sem.run_bind, eqg_n9, sneq_run, Result.andThen_ok, beq_self_eq_true, Bool.not_true]; rfl) (KS_mkv rfl rfl)
          · skip
            have eg : a'.eval (.tmp 30) = .bool true := KS_val (hd.val 2 30 (by decide +kernel)) rfl
            refine ⟨30, true, rfl, eg, fun _ Q => ?_, fun h => absurd rfl h⟩
            have e34 : a'.eval (.tmp 34) = .bool false := KS_val (hd.val 6 34 (by decide +kernel)) rfl
            have e40 : a'.eval (.tmp 40) = .bool false := KS_val (hd.val 12 40 (by decide +kernel)) rfl
            clear hd hk
            exact wp_value (.bool false) (by simp only [execOp, e34, e40]; go_simp) (KS_mkv rfl rfl)
          · skip
            intro Q
            have e30 : a'.eval (.tmp 30) = .bool true := KS_val (hd.val 2 30 (by decide +kernel)) rfl
            have e41 : a'.eval (.tmp 41) = .bool false := KS_val (hd.val 13 41 (by decide +kernel)) rfl
            clear hd hk
            exact wp_value (.bool false) (by simp only [execOp, e30, e41]; go_simp) (KS_mkv rfl rfl)
        · intro a' w5 hsz hdf hk hall hg
          have L5 : Hid (Below w1.heap.size w1 w5) := (show Below _ _ _ from L4.out.trans (hg.mono L4.out.size))
          have e28 : a'.eval (.tmp 28) = .int .i64 0 := KS_val (hall 0 _ 28 rfl rfl) rfl
          have e29 : a'.eval (.tmp 29) = .bool true := KS_val (hall 1 _ 29 rfl rfl) rfl
          have e30 : a'.eval (.tmp 30) = .bool true := KS_val (hall 2 _ 30 rfl rfl) rfl
          have e31 : a'.eval (.tmp 31) = .agg (RC X).toArray := KS_val (hall 3 _ 31 rfl rfl) rfl
          have e32 : a'.eval (.tmp 32) = .bool true := KS_val (hall 4 _ 32 rfl rfl) rfl
          have e33 : a'.eval (.tmp 33) = .bool false := KS_val (hall 5 _ 33 rfl rfl) rfl
          have e34 : a'.eval (.tmp 34) = .bool false := KS_val (hall 6 _ 34 rfl rfl) rfl
          have e35 : a'.eval (.tmp 35) = .agg (RC X).toArray := KS_val (hall 7 _ 35 rfl rfl) rfl
          have r36 : Rd w5 (a'.eval (.tmp 36)) (l) := KS_rd (hall 8 _ 36 rfl rfl) rfl
          obtain ⟨x36, hx36⟩ : ∃ v, a'.eval (.tmp 36) = v := ⟨_, rfl⟩
          rw [hx36] at r36
          have e37 : a'.eval (.tmp 37) = .string ⟨l.toArray⟩ := KS_val (hall 9 _ 37 rfl rfl) rfl
          have r38 : Rd w5 (a'.eval (.tmp 38)) (l) := KS_rd (hall 10 _ 38 rfl rfl) rfl
          obtain ⟨x38, hx38⟩ : ∃ v, a'.eval (.tmp 38) = v := ⟨_, rfl⟩
          rw [hx38] at r38
          have e39 : a'.eval (.tmp 39) = .string ⟨l.toArray⟩ := KS_val (hall 11 _ 39 rfl rfl) rfl
          have e40 : a'.eval (.tmp 40) = .bool false := KS_val (hall 12 _ 40 rfl rfl) rfl
          have e41 : a'.eval (.tmp 41) = .bool false := KS_val (hall 13 _ 41 rfl rfl) rfl
          have e42 : a'.eval (.tmp 42) = .bool false := KS_val (hall 14 _ 42 rfl rfl) rfl
          have ha := act_puts 91 rfl hsz hdf hk [28, 29, 30, 31, 32, 33, 34, 35, 36, 37, 38, 39, 40, 41, 42] (by decide +kernel)
          simp only [puts, List.foldl_cons, List.foldl_nil, e28, e29, e30, e31, e32, e33, e34, e35, hx36, e37, hx38, e39, e40, e41, e42] at ha
          simp only [Act.put, List.setIfInBounds_toArray, List.set_cons_succ, List.set_cons_zero] at ha
          clear hall hk hsz hdf e28 e29 e30 e31 e32 e33 e34 e35 hx36 e37 hx38 e39 e40 e41 e42
          subst ha
          have CG := hide (jgood_any (RO.out.kept L5.out))
          have rk := (b1.out.kept L5.out).range0
          obtain ⟨g1, HG1⟩ : ∃ z, Hid (goodR r = z) := ⟨_, rfl⟩
          rw [HG1.out] at CG
          go_wp2_with (first
            | (refine wpList_load_mid rfl 25 _ rfl N 0 rfl (RC r) _ rk Tryd.underlying25 rfl Tryd.size25 ?_)
            | (refine wpList_load_w9 rfl 25 _ rfl N 0 rfl (RC r) _ rk Tryd.underlying25 rfl Tryd.size25 ?_)
            | fail)
          refine CG.out.mono ?_
          rintro e w6 ⟨rfl, hb6⟩
          have L6 : Hid (Below w1.heap.size w1 w6) := (show Below _ _ _ from L5.out.trans (hb6.mono L5.out.size))
          clear hb6 CG rk
          cases g1 with
          | false =>
            have CV := hide (lives_any w6)
            go_wp2_with (first
              | (refine wpList_load_mid rfl 25 _ rfl N 0 rfl (RC r) _ rk Tryd.underlying25 rfl Tryd.size25 ?_)
              | (refine wpList_load_w9 rfl 25 _ rfl N 0 rfl (RC r) _ rk Tryd.underlying25 rfl Tryd.size25 ?_)
              | fail)
            refine CV.out.mono ?_
            rintro e w9 ⟨rfl, hb9⟩
            have L9 : Hid (Below w.heap.size w w9) := (show Below _ _ _ from l1.out.trans ((L6.out.trans (hb9.mono L6.out.size)).mono l1.out.size))
            clear hb9 CV
            go_wp2_with fail
            go_ret
            exact ⟨rfl, L9.out⟩
          | true =>
            have HS : Hid (soundP r = true ∧ (eD (pdR r)).length ≤ 8192) := (show _ ∧ _ from by
              have h := HG1.out
              unfold goodR at h
              rwa [Bool.and_eq_true, decide_eq_true_eq] at h)
            obtain ⟨y, HY⟩ : ∃ z, Hid (eD (pdR r) = z) := ⟨_, rfl⟩
            have CB := hide (jbytes_any (RO.out.kept L6.out))
            have HBY : Hid (bytesP r = y) := (show _ = _ by rw [bytes_eq HS.out.1, HY.out])
            rw [HBY.out] at CB
            have rk := (b1.out.kept L6.out).range0
            go_wp2_with (first
              | (refine wpList_load_mid rfl 25 _ rfl N 0 rfl (RC r) _ rk Tryd.underlying25 rfl Tryd.size25 ?_)
              | (refine wpList_load_w9 rfl 25 _ rfl N 0 rfl (RC r) _ rk Tryd.underlying25 rfl Tryd.size25 ?_)
              | fail)
            refine CB.out.mono ?_
            rintro e w7 ⟨v7, rfl, o7, hb7⟩
            have L7 : Hid (Below w1.heap.size w1 w7) := (show Below _ _ _ from L6.out.trans (hb7.mono L6.out.size))
            have hr7 := o7.rd
            obtain ⟨a7, c7, rfl⟩ := hr7.slice
            obtain ⟨k, Hk⟩ : ∃ z, Hid (y.length = z) := ⟨_, rfl⟩
            have hk8 : k ≤ 8192 := by rw [← Hk.out, ← HY.out]; exact HS.out.2
            have hk0 : 0 < k := by rw [← Hk.out, ← HY.out]; exact eD_pos _
            have CR := hide (jread16_any hr7 (by rw [Hk.out]; omega))
            rw [Hk.out] at CR hr7 ⊢
            have R7 := hide hr7
            clear o7 hb7 CB rk hr7
            go_wp2_with fail
            refine CR.out.mono ?_
            rintro e w8 ⟨⟨Y, x2, rfl, oy, hy⟩, hb8⟩
            have hy0 : x2 = 0 ∧ sameB Y r = true := by
              rcases hy with ⟨h1, h2, h3, h4⟩ | ⟨h1, h2, h3⟩
              · exact ⟨h1, back_same h2 HS.out.1 (h3.trans HY.out.symm)⟩
              · have := h3 r HS.out.1 HY.out
                rw [Hk.out] at this
                omega
            clear hy
            obtain ⟨rfl, hsy⟩ := hy0
            have OY := hide oy
            have HSY := hide hsy
            have L8 : Hid (Below w1.heap.size w1 w8) := (show Below _ _ _ from L7.out.trans (hb8.mono L7.out.size))
            have R8 := hide (R7.out.kept hb8)
            clear oy hsy hb8 CR
            obtain ⟨D, HD⟩ : ∃ z, Hid (w8.heap.size = z) := ⟨_, rfl⟩
            obtain ⟨wD, hw_⟩ : ∃ y, y = w8.alloc (.cells (RC Y).toArray 25 (0, 0)) := ⟨_, rfl⟩
            obtain ⟨b_wD, l_wD⟩ := newB HD hw_
            have HW_wD := hide hw_
            clear hw_
            have L10 : Hid (Below w1.heap.size w1 wD) := (show Below _ _ _ from L8.out.trans (l_wD.out.mono L8.out.size))
            have R10 := hide (R8.out.kept l_wD.out)
            have CS := hide (same16_any (OY.out.kept l_wD.out) (RO.out.kept L10.out))
            rw [HSY.out] at CS
            have rkD := b_wD.out.range0
            have rk := (b1.out.kept L10.out).range0
            have q0 : ((k : Int) == 0) = false := by simp; omega
            go_upto_region 10 with (first
              | (refine wpList_store_new rfl 25 _ _ rfl w8 _ (RC Y).toArray _ rfl rfl rfl Tryd.size25 rfl (all_one (RC_one Y)) ?_; rw [← HW_wD.out, HD.out])
              | fail)
            try simp only [Act.put]
            go_wp2_with (first
              | (refine wpList_load_mid rfl 25 _ rfl N 0 rfl (RC r) _ rk Tryd.underlying25 rfl Tryd.size25 ?_)
              | (refine wpList_load_w9 rfl 25 _ rfl N 0 rfl (RC r) _ rk Tryd.underlying25 rfl Tryd.size25 ?_)
              | (refine wpList_load_mid rfl 25 _ rfl D 0 rfl (RC Y) _ rkD Tryd.underlying25 rfl Tryd.size25 ?_)
              | (refine wpList_load_w9 rfl 25 _ rfl D 0 rfl (RC Y) _ rkD Tryd.underlying25 rfl Tryd.size25 ?_)
              | fail)
            refine CS.out.mono ?_
            rintro e w11 ⟨rfl, hb11⟩
            have L11 : Hid (Below w1.heap.size w1 w11) := (show Below _ _ _ from L10.out.trans (hb11.mono L10.out.size))
            have R11 := hide (R10.out.kept hb11)
            clear hb11 CS rkD rk
            obtain ⟨j, HJ⟩ : ∃ z, Hid (n % k = z) := ⟨_, rfl⟩
            have hjk : j < k := by rw [← HJ.out]; exact Nat.mod_lt _ hk0
            have hij : (n : Int) % (k : Int) = (j : Int) := by rw [← HJ.out]; simp
            have hwj : wrap64 (j : Int) = (j : Int) := by unfold wrap64; omega
            have hjc : (j : Int) ≤ (c7 : Int) := by obtain ⟨a_, cap_, e_, h1_, _⟩ := R11.out; simp only [Value.slice.injEq] at e_; have := Hk.out; omega
            have RJ := hide (R11.out.take j (by omega))
            have CR := hide (jread16_any RJ.out (by rw [List.length_take]; omega))
            go_wp2_with fail
            refine CR.out.mono ?_
            rintro e w12 ⟨⟨Z, x3, rfl, oz, hz⟩, hb12⟩
            have hz0 : x3 = 4 := by
              rcases hz with ⟨h1, h2, h3, h4⟩ | ⟨h1, h2, h3⟩
              · exact (back_cut HS.out.1 h2 (by rw [HY.out, Hk.out]; exact hjk) (h3.trans (by rw [HY.out]))).elim
              · exact h1
            subst hz0
            clear hz oz
            have L12 : Hid (Below w1.heap.size w1 w12) := (show Below _ _ _ from L11.out.trans (hb12.mono L11.out.size))
            have R12 := hide (R11.out.kept hb12)
            clear hb12 CR
            obtain ⟨E, HE⟩ : ∃ z, Hid (w12.heap.size = z) := ⟨_, rfl⟩
            obtain ⟨wE, hw_⟩ : ∃ y, y = w12.alloc (.cells (RC Z).toArray 25 (0, 0)) := ⟨_, rfl⟩
            obtain ⟨b_wE, l_wE⟩ := newB HE hw_
            have HW_wE := hide hw_
            clear hw_
            have L13 : Hid (Below w1.heap.size w1 wE) := (show Below _ _ _ from L12.out.trans (l_wE.out.mono L12.out.size))
            have R13 := hide (R12.out.kept l_wE.out)
            have rk := (b1.out.kept L13.out).range0
            have CF := hide (jleaf_any (HT.out.kept (L13.out.mono HT2.out)) (RO.out.kept L13.out) (by rw [HBY.out, Hk.out]; omega))
            rw [HBY.out] at CF
            go_upto_region 13 with (first
              | (refine wpList_store_new rfl 25 _ _ rfl w12 _ (RC Z).toArray _ rfl rfl rfl Tryd.size25 rfl (all_one (RC_one Z)) ?_; rw [← HW_wE.out, HE.out])
              | fail)
            try simp only [Act.put]
            go_wp2_with (first
              | (refine wpList_load_mid rfl 25 _ rfl N 0 rfl (RC r) _ rk Tryd.underlying25 rfl Tryd.size25 ?_)
              | (refine wpList_load_w9 rfl 25 _ rfl N 0 rfl (RC r) _ rk Tryd.underlying25 rfl Tryd.size25 ?_)
              | fail)
            refine CF.out.mono ?_
            rintro e w14 ⟨rfl, hb14⟩
            have L14 : Hid (Below w1.heap.size w1 w14) := (show Below _ _ _ from L13.out.trans (hb14.mono L13.out.size))
            have R14 := hide (R13.out.kept hb14)
            have CF2 := hide (refLeaf_any _ y w14 R14.out (by rw [Hk.out]; omega))
            clear hb14 CF rk
            go_wp2_with fail
            refine CF2.out.mono ?_
            rintro e w15 ⟨rfl, hb15⟩
            have L15 : Hid (Below w1.heap.size w1 w15) := (show Below _ _ _ from L14.out.trans (hb15.mono L14.out.size))
            clear hb15 CF2
            have hl32 : (tg 0 [y]).length = 32 := sha_length _
            obtain ⟨X9, HX9⟩ : ∃ X, Hid (tg 0 [y] = X) := ⟨_, rfl⟩
            rw [HX9.out] at hl32 ⊢
            have heq := fun W => eq31 X9 X9 hl32 hl32 W
            rw [beq_self_eq_true] at heq
            have CV := hide (lives_any w15)
            go_wp2_with fail
            refine CV.out.mono ?_
            rintro e w9 ⟨rfl, hb9⟩
            have L9 : Hid (Below w.heap.size w w9) := (show Below _ _ _ from l1.out.trans ((L15.out.trans (hb9.mono L15.out.size)).mono l1.out.size))
            clear hb9 CV
            go_wp2_with fail
            go_ret
            exact ⟨rfl, L9.out⟩
      · go_upto_region 4 with (first
          | (refine wpList_store_new rfl 25 _ _ rfl w3 _ (RC X).toArray _ rfl rfl rfl Tryd.size25 rfl (all_one (RC_one X)) ?_; rw [← HW_w4.out, HC.out])
          | fail)
        try simp only [Act.put]
        refine wp_region_invU Tryd.mixed (KS (fun i_ => match i_ with | 0 => .val (.int .i64 4) | 1 | 2 | 14 => .val (.bool false) | 6 => .val undef | _ => .free)) 91 rfl (by decide +kernel) (KS_mono _) ?_ ?_
        · refine AllFrom.cons (fun a' w' hg hk hd => ?_) (AllFrom.cons (fun a' w' hg hk hd => ?_) (AllFrom.cons (fun a' w' hg hk hd => ?_) (AllFrom.cons (fun a' w' hg hk hd => ?_) (AllFrom.cons (fun a' w' hg hk hd => ?_) (AllFrom.cons (fun a' w' hg hk hd => ?_) (AllFrom.cons (fun a' w' hg hk hd => ?_) (AllFrom.cons (fun a' w' hg hk hd => ?_) (AllFrom.cons (fun a' w' hg hk hd => ?_) (AllFrom.cons (fun a' w' hg hk hd => ?_) (AllFrom.cons (fun a' w' hg hk hd => ?_) (AllFrom.cons (fun a' w' hg hk hd => ?_) (AllFrom.cons (fun a' w' hg hk hd => ?_) (AllFrom.cons (fun a' w' hg hk hd => ?_) (AllFrom.cons (fun a' w' hg hk hd => ?_) AllFrom.nil))))))))))))))
          · skip
            refine .inl ?_
            intro Q
            have e8 : a'.eval (.tmp 8) = .int .i64 4 := hk.at 8 (by decide +kernel)
            exact wp_value _ (by simp only [execOp, e8]; rfl) (KS_mkv rfl rfl)
          · skip
            refine .inl ?_
            intro Q
            have e28 : a'.eval (.tmp 28) = .int .i64 4 := KS_val (hd.val 0 28 (by decide +kernel)) rfl
            clear hd hk
            exact wp_value (.bool false) (by simp only [execOp, e28]; go_simp) (KS_mkv rfl rfl)
          · skip
            refine .inl ?_
            intro Q
            have e29 : a'.eval (.tmp 29) = .bool false := KS_val (hd.val 1 29 (by decide +kernel)) rfl
            exact wp_value _ (by simp only [execOp, e29]; rfl) (KS_mkv rfl rfl)
          · skip
            have eg : a'.eval (.tmp 30) = .bool false := KS_val (hd.val 2 30 (by decide +kernel)) rfl
            exact .inl ⟨30, false, rfl, eg, fun h => absurd h (by decide), fun _ => KS_mkf rfl⟩
          · skip
            have eg : a'.eval (.tmp 30) = .bool false := KS_val (hd.val 2 30 (by decide +kernel)) rfl
            exact .inl ⟨30, false, rfl, eg, fun h => absurd h (by decide), fun _ => KS_mkf rfl⟩
          · skip
            have eg : a'.eval (.tmp 30) = .bool false := KS_val (hd.val 2 30 (by decide +kernel)) rfl
            exact .inl ⟨30, false, rfl, eg, fun h => absurd h (by decide), fun _ => KS_mkf rfl⟩
          · skip
            have eg : a'.eval (.tmp 30) = .bool false := KS_val (hd.val 2 30 (by decide +kernel)) rfl
            exact .inl ⟨30, false, rfl, eg, fun h => absurd h (by decide), fun _ => KS_mkv rfl rfl⟩
          · skip
            exact .inr ⟨6, false, 34, rfl, rfl, KS_val (hd.val 6 34 (by decide +kernel)) rfl, KS_mkf rfl⟩
          · skip
            exact .inr ⟨6, false, 34, rfl, rfl, KS_val (hd.val 6 34 (by decide +kernel)) rfl, KS_mkf rfl⟩
          · skip
            exact .inr ⟨6, false, 34, rfl, rfl, KS_val (hd.val 6 34 (by decide +kernel)) rfl, KS_mkf rfl⟩
          · skip
            exact .inr ⟨6, false, 34, rfl, rfl, KS_val (hd.val 6 34 (by decide +kernel)) rfl, KS_mkf rfl⟩
          · skip
            exact .inr ⟨6, false, 34, rfl, rfl, KS_val (hd.val 6 34 (by decide +kernel)) rfl, KS_mkf rfl⟩
          · skip
            exact .inr ⟨6, false, 34, rfl, rfl, KS_val (hd.val 6 34 (by decide +kernel)) rfl, KS_mkf rfl⟩
          · skip
            have eg : a'.eval (.tmp 30) = .bool false := KS_val (hd.val 2 30 (by decide +kernel)) rfl
            exact .inl ⟨30, false, rfl, eg, fun h => absurd h (by decide), fun _ => KS_mkf rfl⟩
          · skip
            refine .inl ?_
            intro Q
            have e30 : a'.eval (.tmp 30) = .bool false := KS_val (hd.val 2 30 (by decide +kernel)) rfl
            clear hd hk
            exact wp_value (.bool false) (by simp only [execOp, e30]; go_simp) (KS_mkv rfl rfl)
        · intro a' w5 hsz hdf hk hall hg
          have L5 : Hid (Below w1.heap.size w1 w5) := (show Below _ _ _ from L4.out.trans (hg.mono L4.out.size))
          have e28 : a'.eval (.tmp 28) = .int .i64 4 := KS_val (hall 0 _ 28 rfl rfl) rfl
          have e29 : a'.eval (.tmp 29) = .bool false := KS_val (hall 1 _ 29 rfl rfl) rfl
          have e30 : a'.eval (.tmp 30) = .bool false := KS_val (hall 2 _ 30 rfl rfl) rfl
          obtain ⟨x31, hx31⟩ : ∃ v, a'.eval (.tmp 31) = v := ⟨_, rfl⟩
          obtain ⟨x32, hx32⟩ : ∃ v, a'.eval (.tmp 32) = v := ⟨_, rfl⟩
          obtain ⟨x33, hx33⟩ : ∃ v, a'.eval (.tmp 33) = v := ⟨_, rfl⟩
          obtain ⟨x34, hx34⟩ : ∃ v, a'.eval (.tmp 34) = v := ⟨_, rfl⟩
          obtain ⟨x35, hx35⟩ : ∃ v, a'.eval (.tmp 35) = v := ⟨_, rfl⟩
          obtain ⟨x36, hx36⟩ : ∃ v, a'.eval (.tmp 36) = v := ⟨_, rfl⟩
          obtain ⟨x37, hx37⟩ : ∃ v, a'.eval (.tmp 37) = v := ⟨_, rfl⟩
          obtain ⟨x38, hx38⟩ : ∃ v, a'.eval (.tmp 38) = v := ⟨_, rfl⟩
          obtain ⟨x39, hx39⟩ : ∃ v, a'.eval (.tmp 39) = v := ⟨_, rfl⟩
          obtain ⟨x40, hx40⟩ : ∃ v, a'.eval (.tmp 40) = v := ⟨_, rfl⟩
          obtain ⟨x41, hx41⟩ : ∃ v, a'.eval (.tmp 41) = v := ⟨_, rfl⟩
          have e42 : a'.eval (.tmp 42) = .bool false := KS_val (hall 14 _ 42 rfl rfl) rfl
          have ha := act_puts 91 rfl hsz hdf hk [28, 29, 30, 31, 32, 33, 34, 35, 36, 37, 38, 39, 40, 41, 42] (by decide +kernel)
          simp only [puts, List.foldl_cons, List.foldl_nil, e28, e29, e30, hx31, hx32, hx33, hx34, hx35, hx36, hx37, hx38, hx39, hx40, hx41, e42] at ha
          simp only [Act.put, List.setIfInBounds_toArray, List.set_cons_succ, List.set_cons_zero] at ha
          clear hall hk hsz hdf e28 e29 e30 hx31 hx32 hx33 hx34 hx35 hx36 hx37 hx38 hx39 hx40 hx41 e42
          subst ha
          have CG := hide (jgood_any (RO.out.kept L5.out))
          have rk := (b1.out.kept L5.out).range0
          obtain ⟨g1, HG1⟩ : ∃ z, Hid (goodR r = z) := ⟨_, rfl⟩
          rw [HG1.out] at CG
          go_wp2_with (first
            | (refine wpList_load_mid rfl 25 _ rfl N 0 rfl (RC r) _ rk Tryd.underlying25 rfl Tryd.size25 ?_)
            | (refine wpList_load_w9 rfl 25 _ rfl N 0 rfl (RC r) _ rk Tryd.underlying25 rfl Tryd.size25 ?_)
            | fail)
          refine CG.out.mono ?_
          rintro e w6 ⟨rfl, hb6⟩
          have L6 : Hid (Below w1.heap.size w1 w6) := (show Below _ _ _ from L5.out.trans (hb6.mono L5.out.size))
          clear hb6 CG rk
          cases g1 with
          | false =>
            have CV := hide (lives_any w6)
            go_wp2_with (first
              | (refine wpList_load_mid rfl 25 _ rfl N 0 rfl (RC r) _ rk Tryd.underlying25 rfl Tryd.size25 ?_)
              | (refine wpList_load_w9 rfl 25 _ rfl N 0 rfl (RC r) _ rk Tryd.underlying25 rfl Tryd.size25 ?_)
              | fail)
            refine CV.out.mono ?_
            rintro e w9 ⟨rfl, hb9⟩
            have L9 : Hid (Below w.heap.size w w9) := (show Below _ _ _ from l1.out.trans ((L6.out.trans (hb9.mono L6.out.size)).mono l1.out.size))
            clear hb9 CV
            go_wp2_with fail
            go_ret
            exact ⟨rfl, L9.out⟩
          | true =>
            have HS : Hid (soundP r = true ∧ (eD (pdR r)).length ≤ 8192) := (show _ ∧ _ from by
              have h := HG1.out
              unfold goodR at h
              rwa [Bool.and_eq_true, decide_eq_true_eq] at h)
            obtain ⟨y, HY⟩ : ∃ z, Hid (eD (pdR r) = z) := ⟨_, rfl⟩
            have CB := hide (jbytes_any (RO.out.kept L6.out))
            have HBY : Hid (bytesP r = y) := (show _ = _ by rw [bytes_eq HS.out.1, HY.out])
            rw [HBY.out] at CB
            have rk := (b1.out.kept L6.out).range0
            go_wp2_with (first
              | (refine wpList_load_mid rfl 25 _ rfl N 0 rfl (RC r) _ rk Tryd.underlying25 rfl Tryd.size25 ?_)
              | (refine wpList_load_w9 rfl 25 _ rfl N 0 rfl (RC r) _ rk Tryd.underlying25 rfl Tryd.size25 ?_)
              | fail)
            refine CB.out.mono ?_
            rintro e w7 ⟨v7, rfl, o7, hb7⟩
            have L7 : Hid (Below w1.heap.size w1 w7) := (show Below _ _ _ from L6.out.trans (hb7.mono L6.out.size))
            have hr7 := o7.rd
            obtain ⟨a7, c7, rfl⟩ := hr7.slice
            obtain ⟨k, Hk⟩ : ∃ z, Hid (y.length = z) := ⟨_, rfl⟩
            have hk8 : k ≤ 8192 := by rw [← Hk.out, ← HY.out]; exact HS.out.2
            have hk0 : 0 < k := by rw [← Hk.out, ← HY.out]; exact eD_pos _
            have CR := hide (jread16_any hr7 (by rw [Hk.out]; omega))
            rw [Hk.out] at CR hr7 ⊢
            have R7 := hide hr7
            clear o7 hb7 CB rk hr7
            go_wp2_with fail
            refine CR.out.mono ?_
            rintro e w8 ⟨⟨Y, x2, rfl, oy, hy⟩, hb8⟩
            have hy0 : x2 = 0 ∧ sameB Y r = true := by
              rcases hy with ⟨h1, h2, h3, h4⟩ | ⟨h1, h2, h3⟩
              · exact ⟨h1, back_same h2 HS.out.1 (h3.trans HY.out.symm)⟩
              · have := h3 r HS.out.1 HY.out
                rw [Hk.out] at this
                omega
            clear hy
            obtain ⟨rfl, hsy⟩ := hy0
            have OY := hide oy
            have HSY := hide hsy
            have L8 : Hid (Below w1.heap.size w1 w8) := (show Below _ _ _ from L7.out.trans (hb8.mono L7.out.size))
            have R8 := hide (R7.out.kept hb8)
            clear oy hsy hb8 CR
            obtain ⟨D, HD⟩ : ∃ z, Hid (w8.heap.size = z) := ⟨_, rfl⟩
            obtain ⟨wD, hw_⟩ : ∃ y, y = w8.alloc (.cells (RC Y).toArray 25 (0, 0)) := ⟨_, rfl⟩
            obtain ⟨b_wD, l_wD⟩ := newB HD hw_
            have HW_wD := hide hw_
            clear hw_
            have L10 : Hid (Below w1.heap.size w1 wD) := (show Below _ _ _ from L8.out.trans (l_wD.out.mono L8.out.size))
            have R10 := hide (R8.out.kept l_wD.out)
            have CS := hide (same16_any (OY.out.kept l_wD.out) (RO.out.kept L10.out))
            rw [HSY.out] at CS
            have rkD := b_wD.out.range0
            have rk := (b1.out.kept L10.out).range0
            have q0 : ((k : Int) == 0) = false := by simp; omega
            go_upto_region 10 with (first
              | (refine wpList_store_new rfl 25 _ _ rfl w8 _ (RC Y).toArray _ rfl rfl rfl Tryd.size25 rfl (all_one (RC_one Y)) ?_; rw [← HW_wD.out, HD.out])
              | fail)
            try simp only [Act.put]
            go_wp2_with (first
              | (refine wpList_load_mid rfl 25 _ rfl N 0 rfl (RC r) _ rk Tryd.underlying25 rfl Tryd.size25 ?_)
              | (refine wpList_load_w9 rfl 25 _ rfl N 0 rfl (RC r) _ rk Tryd.underlying25 rfl Tryd.size25 ?_)
              | (refine wpList_load_mid rfl 25 _ rfl D 0 rfl (RC Y) _ rkD Tryd.underlying25 rfl Tryd.size25 ?_)
              | (refine wpList_load_w9 rfl 25 _ rfl D 0 rfl (RC Y) _ rkD Tryd.underlying25 rfl Tryd.size25 ?_)
              | fail)
            refine CS.out.mono ?_
            rintro e w11 ⟨rfl, hb11⟩
            have L11 : Hid (Below w1.heap.size w1 w11) := (show Below _ _ _ from L10.out.trans (hb11.mono L10.out.size))
            have R11 := hide (R10.out.kept hb11)
            clear hb11 CS rkD rk
            obtain ⟨j, HJ⟩ : ∃ z, Hid (n % k = z) := ⟨_, rfl⟩
            have hjk : j < k := by rw [← HJ.out]; exact Nat.mod_lt _ hk0
            have hij : (n : Int) % (k : Int) = (j : Int) := by rw [← HJ.out]; simp
            have hwj : wrap64 (j : Int) = (j : Int) := by unfold wrap64; omega
            have hjc : (j : Int) ≤ (c7 : Int) := by obtain ⟨a_, cap_, e_, h1_, _⟩ := R11.out; simp only [Value.slice.injEq] at e_; have := Hk.out; omega
            have RJ := hide (R11.out.take j (by omega))
            have CR := hide (jread16_any RJ.out (by rw [List.length_take]; omega))
            go_wp2_with fail
            refine CR.out.mono ?_
            rintro e w12 ⟨⟨Z, x3, rfl, oz, hz⟩, hb12⟩
            have hz0 : x3 = 4 := by
              rcases hz with ⟨h1, h2, h3, h4⟩ | ⟨h1, h2, h3⟩
              · exact (back_cut HS.out.1 h2 (by rw [HY.out, Hk.out]; exact hjk) (h3.trans (by rw [HY.out]))).elim
              · exact h1
            subst hz0
            clear hz oz
            have L12 : Hid (Below w1.heap.size w1 w12) := (show Below _ _ _ from L11.out.trans (hb12.mono L11.out.size))
            have R12 := hide (R11.out.kept hb12)
            clear hb12 CR
            obtain ⟨E, HE⟩ : ∃ z, Hid (w12.heap.size = z) := ⟨_, rfl⟩
            obtain ⟨wE, hw_⟩ : ∃ y, y = w12.alloc (.cells (RC Z).toArray 25 (0, 0)) := ⟨_, rfl⟩
            obtain ⟨b_wE, l_wE⟩ := newB HE hw_
            have HW_wE := hide hw_
            clear hw_
            have L13 : Hid (Below w1.heap.size w1 wE) := (show Below _ _ _ from L12.out.trans (l_wE.out.mono L12.out.size))
            have R13 := hide (R12.out.kept l_wE.out)
            have rk := (b1.out.kept L13.out).range0
            have CF := hide (jleaf_any (HT.out.kept (L13.out.mono HT2.out)) (RO.out.kept L13.out) (by rw [HBY.out, Hk.out]; omega))
            rw [HBY.out] at CF
            go_upto_region 13 with (first
              | (refine wpList_store_new rfl 25 _ _ rfl w12 _ (RC Z).toArray _ rfl rfl rfl Tryd.size25 rfl (all_one (RC_one Z)) ?_; rw [← HW_wE.out, HE.out])
              | fail)
            try simp only [Act.put]
            go_wp2_with (first
              | (refine wpList_load_mid rfl 25 _ rfl N 0 rfl (RC r) _ rk Tryd.underlying25 rfl Tryd.size25 ?_)
              | (refine wpList_load_w9 rfl 25 _ rfl N 0 rfl (RC r) _ rk Tryd.underlying25 rfl Tryd.size25 ?_)
              | fail)
            refine CF.out.mono ?_
            rintro e w14 ⟨rfl, hb14⟩
            have L14 : Hid (Below w1.heap.size w1 w14) := (show Below _ _ _ from L13.out.trans (hb14.mono L13.out.size))
            have R14 := hide (R13.out.kept hb14)
            have CF2 := hide (refLeaf_any _ y w14 R14.out (by rw [Hk.out]; omega))
            clear hb14 CF rk
            go_wp2_with fail
            refine CF2.out.mono ?_
            rintro e w15 ⟨rfl, hb15⟩
            have L15 : Hid (Below w1.heap.size w1 w15) := (show Below _ _ _ from L14.out.trans (hb15.mono L14.out.size))
            clear hb15 CF2
            have hl32 : (tg 0 [y]).length = 32 := sha_length _
            obtain ⟨X9, HX9⟩ : ∃ X, Hid (tg 0 [y] = X) := ⟨_, rfl⟩
            rw [HX9.out] at hl32 ⊢
            have heq := fun W => eq31 X9 X9 hl32 hl32 W
            rw [beq_self_eq_true] at heq
            have CV := hide (lives_any w15)
            go_wp2_with fail
            refine CV.out.mono ?_
            rintro e w9 ⟨rfl, hb9⟩
            have L9 : Hid (Below w.heap.size w w9) := (show Below _ _ _ from l1.out.trans ((L15.out.trans (hb9.mono L15.out.size)).mono l1.out.size))
            clear hb9 CV
            go_wp2_with fail
            go_ret
            exact ⟨rfl, L9.out⟩
#print axioms recordBack_any
end Go.Proofs.YtmicmbjbclkbjaaDoor
