/-
  indentureref09.Same: what the call does.
-/
import Derived.Test.YtfclmjfbcmjfbaaDoorMtA
namespace Go.Proofs.YtfclmjfbcmjfbaaDoor
open Go.RowKit
set_option maxHeartbeats 2000000 in
set_option maxRecDepth 100000 in
theorem nsame_any {w : World} {va vb : Value} {P Q : List Hs} (ha : RdG HE w va P) (hb : RdG HE w vb Q) : Calls Tryd.prog 15 #[va, vb] w fun e w' => e = .returned (.bool (decide (P = Q))) ∧ Below w.heap.size w w' := by
  have HA := hide ha
  have HB := hide hb
  obtain ⟨a, ca, rfl⟩ := ha.slice
  obtain ⟨b, cb, rfl⟩ := hb.slice
  have la := ha.cap'
  have lb := hb.cap'
  clear ha hb
  obtain ⟨n, HN⟩ : ∃ n, Hid (P.length = n) := ⟨_, rfl⟩
  obtain ⟨k, HK⟩ : ∃ k, Hid (Q.length = k) := ⟨_, rfl⟩
  rw [HN.out] at la HA ⊢
  rw [HK.out] at lb HB ⊢
  go_enter Tryd.func15, Tryd.ntmps15
  by_cases hne : n = k
  · subst hne
    go_wp2_with fail
    go_loopg [13] n (fun g x wr => ∃ i : Nat, g + i = n ∧ x = .int .i64 (i : Int) ∧ Hid (Below w.heap.size w wr) ∧ Hid (∀ j, j < i → P[j]? = Q[j]?))
    case atStart => exact ⟨0, by omega, rfl, Below.refl _ _, (show _ from fun j hj => by omega)⟩
    case round =>
      obtain ⟨i, hgi, rfl, LR, HR⟩ := hrel
      by_cases hlt : i < n
      · have q2 : (i : Int) < (n : Int) := by omega
        have q3 : ¬ n ≤ i := by omega
        have ha : i < P.length := by rw [HN.out]; exact hlt
        have hb : i < Q.length := by rw [HK.out]; exact hlt
        obtain ⟨ba, oa, rfl, hba, hxa⟩ := (HA.out.kept LR.out).nth (by omega)
        obtain ⟨bb, ob, rfl, hbb, hxb⟩ := (HB.out.kept LR.out).nth (by omega)
        have hra : wr.rangeAt ba (oa + i * 32) (By P[i].1) := hxa i ha
        have hrb : wr.rangeAt bb (ob + i * 32) (By Q[i].1) := hxb i hb
        clear hxa hxb
        obtain ⟨x, HX⟩ : ∃ x, Hid (P[i] = x) := ⟨P[i], (show P[i] = P[i] from rfl)⟩
        obtain ⟨y, HY⟩ : ∃ y, Hid (Q[i] = y) := ⟨Q[i], (show Q[i] = Q[i] from rfl)⟩
        rw [HX.out] at hra
        rw [HY.out] at hrb
        by_cases hxy : x = y
        · subst hxy
          have eQ := eqA x x
          rw [decide_eq_true rfl] at eQ
          go_upto_region 6 with fail
          refine wp_region_inv Tryd.mixed (KS (fun i_ => match i_ with | 0 => .val (.slice (some ⟨ba, oa, none⟩) n ca) | 1 | 5 => .val (.int .i64 (i : Int)) | 2 => .val (.pointer (some ⟨ba, oa + i * 32, none⟩)) | 3 | 7 => .val (HV x) | 4 => .val (.slice (some ⟨bb, ob, none⟩) n cb) | 6 => .val (.pointer (some ⟨bb, ob + i * 32, none⟩)) | 8 => .val (.bool false) | _ => .free)) 26 rfl (by decide +kernel) (KS_mono _) ?_ ?_
          · refine AllFrom.cons (fun a' w' hg hk hd => ?_) (AllFrom.cons (fun a' w' hg hk hd => ?_) (AllFrom.cons (fun a' w' hg hk hd => ?_) (AllFrom.cons (fun a' w' hg hk hd => ?_) (AllFrom.cons (fun a' w' hg hk hd => ?_) (AllFrom.cons (fun a' w' hg hk hd => ?_) (AllFrom.cons (fun a' w' hg hk hd => ?_) (AllFrom.cons (fun a' w' hg hk hd => ?_) (AllFrom.cons (fun a' w' hg hk hd => ?_) AllFrom.nil))))))))
            · skip
              intro Q
              have e0 : a'.eval (.tmp 0) = .slice (some ⟨ba, oa, none⟩) n ca := hk.at 0 (by decide +kernel)
              exact wp_value _ (by simp only [execOp, e0]; rfl) (KS_mkv rfl rfl)
            · skip
              intro Q
              have e5 : a'.eval (.tmp 5) = .int .i64 (i : Int) := hk.at 5 (by decide +kernel)
              exact wp_value _ (by simp only [execOp, e5]; rfl) (KS_mkv rfl rfl)
            · skip
              intro Q
              have e16 : a'.eval (.tmp 16) = .slice (some ⟨ba, oa, none⟩) n ca := KS_val (hd.val 0 16 (by decide +kernel)) rfl
              have e17 : a'.eval (.tmp 17) = .int .i64 (i : Int) := KS_val (hd.val 1 17 (by decide +kernel)) rfl
              clear hd hk
              exact wp_value (.pointer (some ⟨ba, oa + i * 32, none⟩)) (by simp only [execOp, e16, e17]; go_simp) (KS_mkv rfl rfl)
            · skip
              intro Q
              have e18 : a'.eval (.tmp 18) = .pointer (some ⟨ba, oa + i * 32, none⟩) := KS_val (hd.val 2 18 (by decide +kernel)) rfl
              exact wp_load_row 30 _ rfl _ _ e18 (By x.1) _ (rangeAt_kept9 hra hba hg) Tryd.underlying30 rfl (Tryd.sizeH _) (KS_mkv rfl rfl)
            · skip
              intro Q
              have e1 : a'.eval (.tmp 1) = .slice (some ⟨bb, ob, none⟩) n cb := hk.at 1 (by decide +kernel)
              exact wp_value _ (by simp only [execOp, e1]; rfl) (KS_mkv rfl rfl)
            · skip
              intro Q
              have e5 : a'.eval (.tmp 5) = .int .i64 (i : Int) := hk.at 5 (by decide +kernel)
              exact wp_value _ (by simp only [execOp, e5]; rfl) (KS_mkv rfl rfl)
            · skip
              intro Q
              have e20 : a'.eval (.tmp 20) = .slice (some ⟨bb, ob, none⟩) n cb := KS_val (hd.val 4 20 (by decide +kernel)) rfl
              have e21 : a'.eval (.tmp 21) = .int .i64 (i : Int) := KS_val (hd.val 5 21 (by decide +kernel)) rfl
              clear hd hk
              exact wp_value (.pointer (some ⟨bb, ob + i * 32, none⟩)) (by simp only [execOp, e20, e21]; go_simp) (KS_mkv rfl rfl)
            · skip
              intro Q
              have e22 : a'.eval (.tmp 22) = .pointer (some ⟨bb, ob + i * 32, none⟩) := KS_val (hd.val 6 22 (by decide +kernel)) rfl
              exact wp_load_row 30 _ rfl _ _ e22 (By x.1) _ (rangeAt_kept9 hrb hbb hg) Tryd.underlying30 rfl (Tryd.sizeH _) (KS_mkv rfl rfl)
            · skip
              intro Q
              have e19 : a'.eval (.tmp 19) = HV x := KS_val (hd.val 3 19 (by decide +kernel)) rfl
              have e23 : a'.eval (.tmp 23) = HV x := KS_val (hd.val 7 23 (by decide +kernel)) rfl
              clear hd hk
              exact wp_value (.bool false) (by simp only [execOp, e19, e23, HV]; go_simp) (KS_mkv rfl rfl)
          · intro a' w' hsz hdf hk hall hg
            have e16 : a'.eval (.tmp 16) = .slice (some ⟨ba, oa, none⟩) n ca := KS_val (hall 0 _ 16 rfl rfl) rfl
            have e17 : a'.eval (.tmp 17) = .int .i64 (i : Int) := KS_val (hall 1 _ 17 rfl rfl) rfl
            have e18 : a'.eval (.tmp 18) = .pointer (some ⟨ba, oa + i * 32, none⟩) := KS_val (hall 2 _ 18 rfl rfl) rfl
            have e19 : a'.eval (.tmp 19) = HV x := KS_val (hall 3 _ 19 rfl rfl) rfl
            have e20 : a'.eval (.tmp 20) = .slice (some ⟨bb, ob, none⟩) n cb := KS_val (hall 4 _ 20 rfl rfl) rfl
            have e21 : a'.eval (.tmp 21) = .int .i64 (i : Int) := KS_val (hall 5 _ 21 rfl rfl) rfl
            have e22 : a'.eval (.tmp 22) = .pointer (some ⟨bb, ob + i * 32, none⟩) := KS_val (hall 6 _ 22 rfl rfl) rfl
            have e23 : a'.eval (.tmp 23) = HV x := KS_val (hall 7 _ 23 rfl rfl) rfl
            have e24 : a'.eval (.tmp 24) = .bool false := KS_val (hall 8 _ 24 rfl rfl) rfl
            have ha := act_puts 26 rfl hsz hdf hk [16, 17, 18, 19, 20, 21, 22, 23, 24] (by decide +kernel)
            simp only [puts, List.foldl_cons, List.foldl_nil, e16, e17, e18, e19, e20, e21, e22, e23, e24] at ha
            simp only [Act.put, List.setIfInBounds_toArray, List.set_cons_succ, List.set_cons_zero] at ha
            clear hall hk hsz hdf e16 e17 e18 e19 e20 e21 e22 e23 e24
            subst ha
            have L2 : Hid (Below w.heap.size w w') := LR.out.trans (Below.mono hg LR.out.size)
            clear hg eQ hra hrb
            go_wp2
            go_roundg (gk - 1)
            case measure => omega
            case rel =>
              refine ⟨i + 1, by omega, by go_num, L2.out, (show _ from fun j hj => ?_)⟩
              by_cases hji : j < i
              · exact HR.out j hji
              · obtain rfl : j = i := by omega
                rw [List.getElem?_eq_getElem ha, List.getElem?_eq_getElem hb, HX.out, HY.out]
        · have eQ := eqA x y
          rw [decide_eq_false hxy] at eQ
          go_upto_region 6 with fail
          refine wp_region_inv Tryd.mixed (KS (fun i_ => match i_ with | 0 => .val (.slice (some ⟨ba, oa, none⟩) n ca) | 1 | 5 => .val (.int .i64 (i : Int)) | 2 => .val (.pointer (some ⟨ba, oa + i * 32, none⟩)) | 3 => .val (HV x) | 4 => .val (.slice (some ⟨bb, ob, none⟩) n cb) | 6 => .val (.pointer (some ⟨bb, ob + i * 32, none⟩)) | 7 => .val (HV y) | 8 => .val (.bool true) | _ => .free)) 26 rfl (by decide +kernel) (KS_mono _) ?_ ?_
          · refine AllFrom.cons (fun a' w' hg hk hd => ?_) (AllFrom.cons (fun a' w' hg hk hd => ?_) (AllFrom.cons (fun a' w' hg hk hd => ?_) (AllFrom.cons (fun a' w' hg hk hd => ?_) (AllFrom.cons (fun a' w' hg hk hd => ?_) (AllFrom.cons (fun a' w' hg hk hd => ?_) (AllFrom.cons (fun a' w' hg hk hd => ?_) (AllFrom.cons (fun a' w' hg hk hd => ?_) (AllFrom.cons (fun a' w' hg hk hd => ?_) AllFrom.nil))))))))
            · skip
              intro Q
              have e0 : a'.eval (.tmp 0) = .slice (some ⟨ba, oa, none⟩) n ca := hk.at 0 (by decide +kernel)
              exact wp_value _ (by simp only [execOp, e0]; rfl) (KS_mkv rfl rfl)
            · skip
              intro Q
              have e5 : a'.eval (.tmp 5) = .int .i64 (i : Int) := hk.at 5 (by decide +kernel)
              exact wp_value _ (by simp only [execOp, e5]; rfl) (KS_mkv rfl rfl)
            · skip
              intro Q
              have e16 : a'.eval (.tmp 16) = .slice (some ⟨ba, oa, none⟩) n ca := KS_val (hd.val 0 16 (by decide +kernel)) rfl
              have e17 : a'.eval (.tmp 17) = .int .i64 (i : Int) := KS_val (hd.val 1 17 (by decide +kernel)) rfl
              clear hd hk
              exact wp_value (.pointer (some ⟨ba, oa + i * 32, none⟩)) (by simp only [execOp, e16, e17]; go_simp) (KS_mkv rfl rfl)
            · skip
              intro Q
              have e18 : a'.eval (.tmp 18) = .pointer (some ⟨ba, oa + i * 32, none⟩) := KS_val (hd.val 2 18 (by decide +kernel)) rfl
              exact wp_load_row 30 _ rfl _ _ e18 (By x.1) _ (rangeAt_kept9 hra hba hg) Tryd.underlying30 rfl (Tryd.sizeH _) (KS_mkv rfl rfl)
            · skip
              intro Q
              have e1 : a'.eval (.tmp 1) = .slice (some ⟨bb, ob, none⟩) n cb := hk.at 1 (by decide +kernel)
              exact wp_value _ (by simp only [execOp, e1]; rfl) (KS_mkv rfl rfl)
            · skip
              intro Q
              have e5 : a'.eval (.tmp 5) = .int .i64 (i : Int) := hk.at 5 (by decide +kernel)
              exact wp_value _ (by simp only [execOp, e5]; rfl) (KS_mkv rfl rfl)
            · skip
              intro Q
              have e20 : a'.eval (.tmp 20) = .slice (some ⟨bb, ob, none⟩) n cb := KS_val (hd.val 4 20 (by decide +kernel)) rfl
              have e21 : a'.eval (.tmp 21) = .int .i64 (i : Int) := KS_val (hd.val 5 21 (by decide +kernel)) rfl
              clear hd hk
              exact wp_value (.pointer (some ⟨bb, ob + i * 32, none⟩)) (by simp only [execOp, e20, e21]; go_simp) (KS_mkv rfl rfl)
            · skip
              intro Q
              have e22 : a'.eval (.tmp 22) = .pointer (some ⟨bb, ob + i * 32, none⟩) := KS_val (hd.val 6 22 (by decide +kernel)) rfl
              exact wp_load_row 30 _ rfl _ _ e22 (By y.1) _ (rangeAt_kept9 hrb hbb hg) Tryd.underlying30 rfl (Tryd.sizeH _) (KS_mkv rfl rfl)
            · skip
              intro Q
              have e19 : a'.eval (.tmp 19) = HV x := KS_val (hd.val 3 19 (by decide +kernel)) rfl
              have e23 : a'.eval (.tmp 23) = HV y := KS_val (hd.val 7 23 (by decide +kernel)) rfl
              clear hd hk
              exact wp_value (.bool true) (by simp only [execOp, e19, e23, HV]; go_simp) (KS_mkv rfl rfl)
          · intro a' w' hsz hdf hk hall hg
            have e16 : a'.eval (.tmp 16) = .slice (some ⟨ba, oa, none⟩) n ca := KS_val (hall 0 _ 16 rfl rfl) rfl
            have e17 : a'.eval (.tmp 17) = .int .i64 (i : Int) := KS_val (hall 1 _ 17 rfl rfl) rfl
            have e18 : a'.eval (.tmp 18) = .pointer (some ⟨ba, oa + i * 32, none⟩) := KS_val (hall 2 _ 18 rfl rfl) rfl
            have e19 : a'.eval (.tmp 19) = HV x := KS_val (hall 3 _ 19 rfl rfl) rfl
            have e20 : a'.eval (.tmp 20) = .slice (some ⟨bb, ob, none⟩) n cb := KS_val (hall 4 _ 20 rfl rfl) rfl
            have e21 : a'.eval (.tmp 21) = .int .i64 (i : Int) := KS_val (hall 5 _ 21 rfl rfl) rfl
            have e22 : a'.eval (.tmp 22) = .pointer (some ⟨bb, ob + i * 32, none⟩) := KS_val (hall 6 _ 22 rfl rfl) rfl
            have e23 : a'.eval (.tmp 23) = HV y := KS_val (hall 7 _ 23 rfl rfl) rfl
            have e24 : a'.eval (.tmp 24) = .bool true := KS_val (hall 8 _ 24 rfl rfl) rfl
            have ha := act_puts 26 rfl hsz hdf hk [16, 17, 18, 19, 20, 21, 22, 23, 24] (by decide +kernel)
            simp only [puts, List.foldl_cons, List.foldl_nil, e16, e17, e18, e19, e20, e21, e22, e23, e24] at ha
            simp only [Act.put, List.setIfInBounds_toArray, List.set_cons_succ, List.set_cons_zero] at ha
            clear hall hk hsz hdf e16 e17 e18 e19 e20 e21 e22 e23 e24
            subst ha
            have L2 : Hid (Below w.heap.size w w') := LR.out.trans (Below.mono hg LR.out.size)
            clear hg eQ hra hrb
            go_wp2
            go_ret
            refine ⟨?_, L2.out⟩
            have : P ≠ Q := fun e => hxy (by rw [← HX.out, ← HY.out]; simp [e])
            simp [this]
      · obtain rfl : i = n := by omega
        go_wp2
        go_ret
        refine ⟨?_, LR.out⟩
        have : P = Q := List.ext_getElem? fun j => by
          by_cases hj : j < i
          · exact HR.out j hj
          · rw [List.getElem?_eq_none (by rw [HN.out]; omega), List.getElem?_eq_none (by rw [HK.out]; omega)]
        simp [this]
  · have q1 : decide ((n : Int) = (k : Int)) = false := by simp; omega
    go_wp2
    go_ret
    refine ⟨?_, Below.refl _ _⟩
    have : P ≠ Q := fun e => hne (by rw [← HN.out, ← HK.out, e])
    simp [this]
#print axioms nsame_any
end Go.Proofs.YtfclmjfbcmjfbaaDoor
