/-
  The law MemberOthers: the call returns true.
-/
import Derived.Test.YtooffljimdklfaaDoorLawX12
namespace Go.Proofs.YtooffljimdklfaaDoor
open Go.RowKit
set_option maxHeartbeats 8000000 in
set_option maxRecDepth 100000 in
theorem memberOthers_any (L : List It) (v : Value) (ka kb : Hs) (w : World) (hT : Tabs w) (hr : RdG IE w v L) : Calls Tryd.prog 6 #[v, HV ka, HV kb] w fun e w' => e = .returned (.bool true) ∧ Below w.heap.size w w' := by
  obtain ⟨N, HN⟩ : ∃ N, Hid (w.heap.size = N) := ⟨_, rfl⟩
  have h2 : 2 ≤ N := by rw [← HN.out]; exact hT.size
  have HT := hide hT
  have HR := hide hr
  obtain ⟨a, cp, rfl⟩ := hr.slice
  have HLOW : Hid (∀ b, InB (.slice a L.length cp) b → b < N) := (show _ from fun b hb => by rw [← HN.out]; exact hr.inB_lt hb)
  have hcap := hr.cap'
  clear hT hr
  obtain ⟨n, HNL⟩ : ∃ n, Hid (L.length = n) := ⟨_, rfl⟩
  rw [HNL.out] at HR HLOW hcap ⊢
  rw [HN.out]
  go_enter Tryd.func6, Tryd.ntmps6
  unfold HV
  go_upto_region 1 with fail
  obtain ⟨w1, hw1⟩ : ∃ z, z = (w.alloc (.cells (By ka.1).toArray 24 (0, 0))).alloc (.cells (By kb.1).toArray 24 (0, 0)) := ⟨_, rfl⟩
  change Code.wp _ _ _ _ ((w.alloc (.cells (By ka.1).toArray 24 (0, 0))).alloc (.cells (By kb.1).toArray 24 (0, 0)))
  rw [← hw1, HN.out]
  obtain ⟨b0, b1, lb, -⟩ := box2 HN hw1
  have KA := hide b0
  have KB := hide b1
  have LL := hide lb
  clear hw1 b0 b1 lb
  have GG : Hid (N ≤ w1.heap.size) := (show _ ≤ _ from Nat.le_of_lt KA.out.lt)
  have TT := hide (HT.out.kept (LL.out.mono h2))
  have RR := hide (HR.out.kept (LL.out.mono (Nat.le_of_eq HN.out)))
  by_cases hn : 30 < n
  · have q1 : (30 : Int) < (n : Int) := by omega
    go_wp2_with (first
      | (go_at_call 9; refine (ilives_any _ TT.out).mono ?_; rintro e w9 ⟨rfl, hb9⟩; have TT_ := hide (TT.out.gr hb9); have LL_ : Hid (Below N w _) := (show _ from LL.out.trans (hb9.mono GG.out)); have GG_ : Hid (N ≤ _) := (show _ ≤ _ from Nat.le_trans GG.out hb9.size); clear hb9 TT LL GG; have TT := TT_; have LL := LL_; have GG := GG_; clear TT_ LL_ GG_)
      | fail)
    go_ret
    exact ⟨rfl, LL.out⟩
  have q1 : ¬ (30 : Int) < (n : Int) := by omega
  have heq := eqA ka kb
  by_cases hab : ka = kb
  · rw [decide_eq_true hab] at heq
    clear hab
    go_wp2_with (first
      | (refine wpList_load_w9 rfl 24 _ rfl (N) 0 rfl (By (ka).1) _ (KA.out.range0) Tryd.underlying24 rfl (Tryd.sizeH (ka)) ?_)
      | (refine wpList_load_w9 rfl 24 _ rfl (N + 1) 0 rfl (By (kb).1) _ (KB.out.range0) Tryd.underlying24 rfl (Tryd.sizeH (kb)) ?_)
      | (go_at_call 9; refine (ilives_any _ TT.out).mono ?_; rintro e w9 ⟨rfl, hb9⟩; have TT_ := hide (TT.out.gr hb9); have LL_ : Hid (Below N w _) := (show _ from LL.out.trans (hb9.mono GG.out)); have GG_ : Hid (N ≤ _) := (show _ ≤ _ from Nat.le_trans GG.out hb9.size); clear hb9 TT LL GG; have TT := TT_; have LL := LL_; have GG := GG_; clear TT_ LL_ GG_)
      | fail)
    go_ret
    exact ⟨rfl, LL.out⟩
  rw [decide_eq_false hab] at heq
  clear hab
  have HN40 : Hid (L.length ≤ 1000) := (show _ ≤ _ by rw [HNL.out]; omega)
  have hm1 := putsP_length L
  have hm2 := putsP_srt L
  obtain ⟨m, HMm⟩ : ∃ m, Hid (putsP L = m) := ⟨_, rfl⟩
  rw [HMm.out] at hm1 hm2
  rw [HNL.out] at hm1
  have HML : Hid (m.length ≤ 1000000) := (show _ ≤ _ by omega)
  have HSR := hide hm2
  obtain ⟨ln, HLN⟩ : ∃ z, Hid (m.length = z) := ⟨_, rfl⟩
  have hlb : ln ≤ 30 := by rw [← HLN.out]; omega
  obtain ⟨pr, HPR⟩ : ∃ z, Hid (prP m ka = z) := ⟨_, rfl⟩
  obtain ⟨pl, HPLE⟩ : ∃ z, Hid (pr.1.length = z) := ⟨_, rfl⟩
  have HPL : Hid (pr.1.length ≤ 1000000) := (show _ ≤ _ from Nat.le_trans (pr_short hm2 HPR.out) HML.out)
  obtain ⟨rt, HRT⟩ : ∃ z, Hid (rootP m = z) := ⟨_, rfl⟩
  obtain ⟨v1, HV1⟩ : ∃ z, Hid (valP m kb = z) := ⟨_, rfl⟩
  obtain ⟨h1, HH1⟩ : ∃ z, Hid (hasP m kb = z) := ⟨_, rfl⟩
  have hcp := check_prove hm2 ka kb
  rw [HPR.out, HRT.out, HV1.out, HH1.out] at hcp
  have HCP := hide hcp.2.2
  obtain ⟨z0, HZ0⟩ : ∃ z, Hid (zh = z) := ⟨_, rfl⟩
  have hbz : ∀ W, (Instr.build 24 #[]).run Tryd.prog W = .ok (.agg (By z0.1).toArray) W := fun W => by rw [← HZ0.out]; exact run_build W _ _ _ (by kernel_rfl)
  clear hm1 hm2 hcp
  go_upto_region 4 with (first
    | (refine wpList_load_w9 rfl 24 _ rfl (N) 0 rfl (By (ka).1) _ (KA.out.range0) Tryd.underlying24 rfl (Tryd.sizeH (ka)) ?_)
    | (refine wpList_load_w9 rfl 24 _ rfl (N + 1) 0 rfl (By (kb).1) _ (KB.out.range0) Tryd.underlying24 rfl (Tryd.sizeH (kb)) ?_)
    | (go_at_call 10; refine (imade_m (B0 := N) HMm.out HLN.out RR.out HN40.out GG.out).mono ?_; rintro e w9 ⟨p, pa, lc, rfl, t9, o9, hb9⟩; have KA_ := hide (KA.out.kept hb9); have KB_ := hide (KB.out.kept hb9); have TT_ := hide (TT.out.gr hb9); have RR_ := hide (RR.out.kept hb9); have LL_ : Hid (Below N w _) := (show _ from LL.out.trans (hb9.mono GG.out)); have GG_ : Hid (N ≤ _) := (show _ ≤ _ from Nat.le_trans GG.out hb9.size); clear hb9 KA KB TT RR LL GG; have KA := KA_; have KB := KB_; have TT := TT_; have RR := RR_; have LL := LL_; have GG := GG_; clear KA_ KB_ TT_ RR_ LL_ GG_; have T1 := hide t9; clear t9 o9)
    | fail)
  go_upto_region 5 with (first
    | (refine wpList_load_mid rfl 24 _ rfl (N) 0 rfl (By (ka).1) _ (KA.out.range0) Tryd.underlying24 rfl (Tryd.sizeH (ka)) ?_)
    | (go_at_call 13; refine (bProve_m (B := N) HPR.out HPLE.out T1.out HML.out TT.out GG.out).mono ?_; rintro e w9 ⟨pa9, pc9, rfl, o9, hb9⟩; have KA_ := hide (KA.out.kept hb9); have KB_ := hide (KB.out.kept hb9); have TT_ := hide (TT.out.gr hb9); have RR_ := hide (RR.out.kept hb9); have T1_ := hide (T1.out.kept hb9); have LL_ : Hid (Below N w _) := (show _ from LL.out.trans (hb9.mono GG.out)); have GG_ : Hid (N ≤ _) := (show _ ≤ _ from Nat.le_trans GG.out hb9.size); clear hb9 KA KB TT RR T1 LL GG; have KA := KA_; have KB := KB_; have TT := TT_; have RR := RR_; have T1 := T1_; have LL := LL_; have GG := GG_; clear KA_ KB_ TT_ RR_ T1_ LL_ GG_; have OO := hide o9; clear o9; obtain ⟨D, HM⟩ : ∃ z, Hid (w9.heap.size = z) := ⟨_, rfl⟩)
    | (rw [HM.out]; refine wpList_store_blk rfl 39 _ _ rfl D (PrC (.slice none 0 0) zp) (PrC (.slice pa9 pl pc9) pr) 39 rfl rfl (by rw [← HM.out]; exact Blk.new _ 39 (PrC (.slice none 0 0) zp)) (by rw [PrC_len, PrC_len]) (Tryd.sizePr _ _) (PrC_one _) ?_; intro w9 hbk9 hu9; have hb9 := roomP_below HM.out hu9; have KA_ := hide (KA.out.kept hb9); have KB_ := hide (KB.out.kept hb9); have TT_ := hide (TT.out.gr hb9); have RR_ := hide (RR.out.kept hb9); have T1_ := hide (T1.out.kept hb9); have OO_ := hide (OO.out.kept hb9); have LL_ : Hid (Below N w _) := (show _ from LL.out.trans (hb9.mono GG.out)); have GG_ : Hid (N ≤ _) := (show _ ≤ _ from Nat.le_trans GG.out hb9.size); clear hb9 KA KB TT RR T1 OO LL GG; have KA := KA_; have KB := KB_; have TT := TT_; have RR := RR_; have T1 := T1_; have OO := OO_; have LL := LL_; have GG := GG_; clear KA_ KB_ TT_ RR_ T1_ OO_ LL_ GG_; have PP := hide hbk9; clear hbk9 hu9 HM)
    | fail)
  obtain ⟨ld, HLD⟩ : ∃ z, Hid (leadsP kb pr = z) := ⟨_, rfl⟩
  rw [HLD.out] at HCP
  clear heq
  cases ld with
  | true =>
    have HCK : Hid (checkP rt kb pr = (v1, h1, true)) := (show _ = _ by rw [HCP.out]; rfl)
    refine wp_region_cellR Tryd.mixed (Tch N) (Tch.ok N) (fun _ _ h => h.size) (fun i_ => match i_ with | 0 => PT p | 1 => HV rt | 2 => HV kb | 3 => .agg (PrC (.slice pa9 pl pc9) pr).toArray | 4 | 5 => .tuple #[.agg (By v1.1).toArray, .bool h1, .bool true] | 6 => .agg (By v1.1).toArray | 7 | 11 => .bool h1 | 8 | 12 => .bool true | _ => undef) 9 10 10 24 (By zh.1) (By (v1).1) (fun _ _ _ h1 h2 h3 => h1.but h2 h3) (fun _ _ _ _ h1 h2 => h1.blk h2 (by decide)) 70 rfl (by decide +kernel) (by decide) rfl (by decide) (by decide) (by rw [By_len, By_len]) (Tryd.sizeH _) (By_one _) ?_ ?_
    · refine AllFrom.cons ?_ (AllFrom.cons ?_ (AllFrom.cons ?_ (AllFrom.cons ?_ (AllFrom.cons ?_ (AllFrom.cons ?_ (AllFrom.cons ?_ (AllFrom.cons ?_ (AllFrom.cons ?_ (AllFrom.cons ?_ (AllFrom.cons ?_ (AllFrom.cons ?_ (AllFrom.cons ?_ AllFrom.nil))))))))))))
      · refine OwesR.val rfl rfl (fun a' w' hg hz9 hk hd Q => ?_)
        have e7 : a'.eval (.tmp 7) = PT p := hk.at 7 (by decide +kernel)
        exact wp_valueR (Tch.ok N) (S := fun _ v_ => v_ = PT p) _ (by simp only [execOp, e7]; rfl) rfl
      · refine OwesR.val rfl rfl (fun a' w' hg hz9 hk hd Q => ?_)
        have e33 : a'.eval (.tmp 33) = PT p := hd 0 33 (by decide +kernel) (by decide)
        refine wp_callR (S := fun _ v_ => v_ = HV rt) 22 _ (run_enter 22 _ _ rfl (by kernel_rfl)) ?_
        simp only [List.map_toArray, List.map_nil, List.map_cons, e33]
        refine (tRoot_m HRT.out h2 (T1.out.tch hg) (TT.out.tch hg h2 GG.out) (Nat.le_trans GG.out hg.size)).mono ?_
        rintro e w5 ⟨rfl, hb5⟩
        exact ⟨_, rfl, rfl, hb5⟩
      · refine OwesR.val rfl rfl (fun a' w' hg hz9 hk hd Q => ?_)
        have e5 : a'.eval (.tmp 5) = .pointer (some ⟨N + 1, 0, none⟩) := hk.at 5 (by decide +kernel)
        exact wp_load_rowR (Tch.ok N) (S := fun _ v_ => v_ = HV kb) 24 _ rfl _ _ e5 (By (kb).1) _ (hg.blk KB.out (by decide)).range0 Tryd.underlying24 rfl (Tryd.sizeH _) rfl
      · refine OwesR.val rfl rfl (fun a' w' hg hz9 hk hd Q => ?_)
        have e9 : a'.eval (.tmp 9) = .pointer (some ⟨D, 0, none⟩) := hk.at 9 (by decide +kernel)
        exact wp_load_rowR (Tch.ok N) (S := fun _ v_ => v_ = .agg (PrC (.slice pa9 pl pc9) pr).toArray) 39 _ rfl _ _ e9 (PrC (.slice pa9 pl pc9) pr) _ (hg.blk PP.out (by decide)).range0 Tryd.underlying39 rfl (Tryd.sizePr _ _) rfl
      · refine OwesR.val rfl rfl (fun a' w' hg hz9 hk hd Q => ?_)
        have e34 : a'.eval (.tmp 34) = HV rt := hd 1 34 (by decide +kernel) (by decide)
        have e35 : a'.eval (.tmp 35) = HV kb := hd 2 35 (by decide +kernel) (by decide)
        have e36 : a'.eval (.tmp 36) = .agg (PrC (.slice pa9 pl pc9) pr).toArray := hd 3 36 (by decide +kernel) (by decide)
        refine wp_callR (S := fun _ v_ => v_ = .tuple #[.agg (By v1.1).toArray, .bool h1, .bool true]) 18 _ (run_enter 18 _ _ rfl (by kernel_rfl)) ?_
        simp only [List.map_toArray, List.map_nil, List.map_cons, e34, e35, e36]
        refine (bCheck_m HCK.out (OO.out.tch hg (by decide)).rd HPL.out (TT.out.tch hg h2 GG.out)).mono ?_
        rintro e w5 ⟨rfl, hb5⟩
        exact ⟨_, rfl, rfl, .of_below hb5⟩
      · refine OwesR.val rfl rfl (fun a' w' hg hz9 hk hd Q => ?_)
        have e37 : a'.eval (.tmp 37) = .tuple #[.agg (By v1.1).toArray, .bool h1, .bool true] := hd 4 37 (by decide +kernel) (by decide)
        exact wp_valueR (Tch.ok N) (S := fun _ v_ => v_ = .tuple #[.agg (By v1.1).toArray, .bool h1, .bool true]) _ (by simp only [execOp, e37]; rfl) rfl
      · refine OwesR.val rfl rfl (fun a' w' hg hz9 hk hd Q => ?_)
        have e32 : a'.eval (.tmp 32) = .tuple #[.agg (By v1.1).toArray, .bool h1, .bool true] := hd 5 32 (by decide +kernel) (by decide)
        clear hd hk
        exact wp_valueR (Tch.ok N) (S := fun _ v_ => v_ = .agg (By v1.1).toArray) _ (by simp only [execOp, e32]; go_simp) rfl
      · refine OwesR.val rfl rfl (fun a' w' hg hz9 hk hd Q => ?_)
        have e32 : a'.eval (.tmp 32) = .tuple #[.agg (By v1.1).toArray, .bool h1, .bool true] := hd 5 32 (by decide +kernel) (by decide)
        clear hd hk
        exact wp_valueR (Tch.ok N) (S := fun _ v_ => v_ = .bool h1) _ (by simp only [execOp, e32]; go_simp) rfl
      · refine OwesR.val rfl rfl (fun a' w' hg hz9 hk hd Q => ?_)
        have e32 : a'.eval (.tmp 32) = .tuple #[.agg (By v1.1).toArray, .bool h1, .bool true] := hd 5 32 (by decide +kernel) (by decide)
        clear hd hk
        exact wp_valueR (Tch.ok N) (S := fun _ v_ => v_ = .bool true) _ (by simp only [execOp, e32]; go_simp) rfl
      · exact OwesR.new rfl rfl rfl (fun a' w' => by simp only [execOp]; go_simp; rfl)
      · refine OwesR.put rfl rfl rfl (by decide +kernel) (.tmp 38) rfl (fun a' w' hg hk hd => ?_)
        have e38 : a'.eval (.tmp 38) = .agg (By v1.1).toArray := hd 6 38 (by decide +kernel) (by decide)
        exact e38
      · refine OwesR.val rfl rfl (fun a' w' hg hz9 hk hd Q => ?_)
        have e39 : a'.eval (.tmp 39) = .bool h1 := hd 7 39 (by decide +kernel) (by decide)
        exact wp_valueR (Tch.ok N) (S := fun _ v_ => v_ = .bool h1) _ (by simp only [execOp, e39]; rfl) rfl
      · refine OwesR.val rfl rfl (fun a' w' hg hz9 hk hd Q => ?_)
        have e40 : a'.eval (.tmp 40) = .bool true := hd 8 40 (by decide +kernel) (by decide)
        exact wp_valueR (Tch.ok N) (S := fun _ v_ => v_ = .bool true) _ (by simp only [execOp, e40]; rfl) rfl
    · intro a' w6 E1 hsz hdf hk hall ht e10 hE1 hB6
      have e33 : a'.eval (.tmp 33) = PT p := hall 0 _ 33 rfl (by decide) rfl
      have e34 : a'.eval (.tmp 34) = HV rt := hall 1 _ 34 rfl (by decide) rfl
      have e35 : a'.eval (.tmp 35) = HV kb := hall 2 _ 35 rfl (by decide) rfl
      have e36 : a'.eval (.tmp 36) = .agg (PrC (.slice pa9 pl pc9) pr).toArray := hall 3 _ 36 rfl (by decide) rfl
      have e37 : a'.eval (.tmp 37) = .tuple #[.agg (By v1.1).toArray, .bool h1, .bool true] := hall 4 _ 37 rfl (by decide) rfl
      have e32 : a'.eval (.tmp 32) = .tuple #[.agg (By v1.1).toArray, .bool h1, .bool true] := hall 5 _ 32 rfl (by decide) rfl
      have e38 : a'.eval (.tmp 38) = .agg (By v1.1).toArray := hall 6 _ 38 rfl (by decide) rfl
      have e39 : a'.eval (.tmp 39) = .bool h1 := hall 7 _ 39 rfl (by decide) rfl
      have e40 : a'.eval (.tmp 40) = .bool true := hall 8 _ 40 rfl (by decide) rfl
      have e11 : a'.eval (.tmp 11) = .bool h1 := hall 11 _ 11 rfl (by decide) rfl
      have e12 : a'.eval (.tmp 12) = .bool true := hall 12 _ 12 rfl (by decide) rfl
      have ha := act_puts 70 rfl hsz hdf hk [33, 34, 35, 36, 37, 32, 38, 39, 40, 10, 11, 12] (by decide +kernel)
      simp only [puts, List.foldl_cons, List.foldl_nil, e33, e34, e35, e36, e37, e32, e38, e39, e40, e10, e11, e12] at ha
      simp only [Act.put, List.setIfInBounds_toArray, List.set_cons_succ, List.set_cons_zero] at ha
      clear hall hk hsz hdf e33 e34 e35 e36 e37 e32 e38 e39 e40 e10 e11 e12
      subst ha
      have KA_ := hide (ht.blk KA.out (by decide))
      have KB_ := hide (ht.blk KB.out (by decide))
      have TT_ := hide (TT.out.tch ht h2 GG.out)
      have RR_ := hide (RR.out.tchLow ht GG.out HLOW.out)
      have T1_ := hide (T1.out.tch ht)
      have OO_ := hide (OO.out.tch ht (by decide))
      have PP_ := hide (ht.blk PP.out (by decide))
      have LL_ : Hid (Below N w _) := (show _ from LL.out.trans (ht.below GG.out))
      have GG_ : Hid (N ≤ _) := (show _ ≤ _ from Nat.le_trans GG.out ht.size)
      clear ht KA KB TT RR T1 OO PP LL GG
      have KA := KA_
      have KB := KB_
      have TT := TT_
      have RR := RR_
      have T1 := T1_
      have OO := OO_
      have PP := PP_
      have LL := LL_
      have GG := GG_
      clear KA_ KB_ TT_ RR_ T1_ OO_ PP_ LL_ GG_
      have V1 := hide hB6
      clear hB6 hE1
      go_upto_region 7 with (first
        | (refine wpList_load_mid rfl 24 _ rfl (N + 1) 0 rfl (By (kb).1) _ (KB.out.range0) Tryd.underlying24 rfl (Tryd.sizeH (kb)) ?_)
        | (go_at_call 23; refine (tGet_m HV1.out HH1.out T1.out).mono ?_; rintro e w9 ⟨rfl, hb9⟩; have KA_ := hide (KA.out.kept hb9); have KB_ := hide (KB.out.kept hb9); have TT_ := hide (TT.out.gr hb9); have RR_ := hide (RR.out.kept hb9); have T1_ := hide (T1.out.kept hb9); have OO_ := hide (OO.out.kept hb9); have PP_ := hide (PP.out.kept hb9); have V1_ := hide (V1.out.kept hb9); have LL_ : Hid (Below N w _) := (show _ from LL.out.trans (hb9.mono GG.out)); have GG_ : Hid (N ≤ _) := (show _ ≤ _ from Nat.le_trans GG.out hb9.size); clear hb9 KA KB TT RR T1 OO PP V1 LL GG; have KA := KA_; have KB := KB_; have TT := TT_; have RR := RR_; have T1 := T1_; have OO := OO_; have PP := PP_; have V1 := V1_; have LL := LL_; have GG := GG_; clear KA_ KB_ TT_ RR_ T1_ OO_ PP_ V1_ LL_ GG_; obtain ⟨E2, HM⟩ : ∃ z, Hid (w9.heap.size = z) := ⟨_, rfl⟩)
        | (rw [HM.out]; refine wpList_store_blk rfl 24 _ _ rfl E2 (By zh.1) (By (v1).1) 24 rfl rfl (by rw [← HM.out]; exact Blk.new _ 24 (By zh.1)) (by rw [By_len, By_len]) (Tryd.sizeH (v1)) (By_one _) ?_; intro w9 hbk9 hu9; have hb9 := room_below HM.out hu9; have KA_ := hide (KA.out.kept hb9); have KB_ := hide (KB.out.kept hb9); have TT_ := hide (TT.out.gr hb9); have RR_ := hide (RR.out.kept hb9); have T1_ := hide (T1.out.kept hb9); have OO_ := hide (OO.out.kept hb9); have PP_ := hide (PP.out.kept hb9); have V1_ := hide (V1.out.kept hb9); have LL_ : Hid (Below N w _) := (show _ from LL.out.trans (hb9.mono GG.out)); have GG_ : Hid (N ≤ _) := (show _ ≤ _ from Nat.le_trans GG.out hb9.size); clear hb9 KA KB TT RR T1 OO PP V1 LL GG; have KA := KA_; have KB := KB_; have TT := TT_; have RR := RR_; have T1 := T1_; have OO := OO_; have PP := PP_; have V1 := V1_; have LL := LL_; have GG := GG_; clear KA_ KB_ TT_ RR_ T1_ OO_ PP_ V1_ LL_ GG_; have V2 := hide hbk9; clear hbk9 hu9 HM)
        | fail)
      have hq1 := eqAA v1
      have hq2 : (h1 == h1) = true := by simp
      go_wp2_with (first
        | (refine wpList_load_w9 rfl 24 _ rfl (E1) 0 rfl (By (v1).1) _ (V1.out.range0) Tryd.underlying24 rfl (Tryd.sizeH (v1)) ?_)
        | (refine wpList_load_w9 rfl 24 _ rfl (E2) 0 rfl (By (v1).1) _ (V2.out.range0) Tryd.underlying24 rfl (Tryd.sizeH (v1)) ?_)
        | (go_at_call 9; refine (ilives_any _ TT.out).mono ?_; rintro e w9 ⟨rfl, hb9⟩; have KA_ := hide (KA.out.kept hb9); have KB_ := hide (KB.out.kept hb9); have TT_ := hide (TT.out.gr hb9); have RR_ := hide (RR.out.kept hb9); have T1_ := hide (T1.out.kept hb9); have OO_ := hide (OO.out.kept hb9); have PP_ := hide (PP.out.kept hb9); have V1_ := hide (V1.out.kept hb9); have V2_ := hide (V2.out.kept hb9); have LL_ : Hid (Below N w _) := (show _ from LL.out.trans (hb9.mono GG.out)); have GG_ : Hid (N ≤ _) := (show _ ≤ _ from Nat.le_trans GG.out hb9.size); clear hb9 KA KB TT RR T1 OO PP V1 V2 LL GG; have KA := KA_; have KB := KB_; have TT := TT_; have RR := RR_; have T1 := T1_; have OO := OO_; have PP := PP_; have V1 := V1_; have V2 := V2_; have LL := LL_; have GG := GG_; clear KA_ KB_ TT_ RR_ T1_ OO_ PP_ V1_ V2_ LL_ GG_)
        | fail)
      go_ret
      exact ⟨rfl, LL.out⟩
  | false =>
    have HCK : Hid (checkP rt kb pr = (z0, false, false)) := (show _ = _ by rw [HCP.out, HZ0.out]; rfl)
    refine wp_region_cellR Tryd.mixed (Tch N) (Tch.ok N) (fun _ _ h => h.size) (fun i_ => match i_ with | 0 => PT p | 1 => HV rt | 2 => HV kb | 3 => .agg (PrC (.slice pa9 pl pc9) pr).toArray | 4 | 5 => .tuple #[.agg (By z0.1).toArray, .bool false, .bool false] | 6 => .agg (By z0.1).toArray | 7 | 8 | 11 | 12 => .bool false | _ => undef) 9 10 10 24 (By zh.1) (By (z0).1) (fun _ _ _ h1 h2 h3 => h1.but h2 h3) (fun _ _ _ _ h1 h2 => h1.blk h2 (by decide)) 70 rfl (by decide +kernel) (by decide) rfl (by decide) (by decide) (by rw [By_len, By_len]) (Tryd.sizeH _) (By_one _) ?_ ?_
    · refine AllFrom.cons ?_ (AllFrom.cons ?_ (AllFrom.cons ?_ (AllFrom.cons ?_ (AllFrom.cons ?_ (AllFrom.cons ?_ (AllFrom.cons ?_ (AllFrom.cons ?_ (AllFrom.cons ?_ (AllFrom.cons ?_ (AllFrom.cons ?_ (AllFrom.cons ?_ (AllFrom.cons ?_ AllFrom.nil))))))))))))
      · refine OwesR.val rfl rfl (fun a' w' hg hz9 hk hd Q => ?_)
        have e7 : a'.eval (.tmp 7) = PT p := hk.at 7 (by decide +kernel)
        exact wp_valueR (Tch.ok N) (S := fun _ v_ => v_ = PT p) _ (by simp only [execOp, e7]; rfl) rfl
      · refine OwesR.val rfl rfl (fun a' w' hg hz9 hk hd Q => ?_)
        have e33 : a'.eval (.tmp 33) = PT p := hd 0 33 (by decide +kernel) (by decide)
        refine wp_callR (S := fun _ v_ => v_ = HV rt) 22 _ (run_enter 22 _ _ rfl (by kernel_rfl)) ?_
        simp only [List.map_toArray, List.map_nil, List.map_cons, e33]
        refine (tRoot_m HRT.out h2 (T1.out.tch hg) (TT.out.tch hg h2 GG.out) (Nat.le_trans GG.out hg.size)).mono ?_
        rintro e w5 ⟨rfl, hb5⟩
        exact ⟨_, rfl, rfl, hb5⟩
      · refine OwesR.val rfl rfl (fun a' w' hg hz9 hk hd Q => ?_)
        have e5 : a'.eval (.tmp 5) = .pointer (some ⟨N + 1, 0, none⟩) := hk.at 5 (by decide +kernel)
        exact wp_load_rowR (Tch.ok N) (S := fun _ v_ => v_ = HV kb) 24 _ rfl _ _ e5 (By (kb).1) _ (hg.blk KB.out (by decide)).range0 Tryd.underlying24 rfl (Tryd.sizeH _) rfl
      · refine OwesR.val rfl rfl (fun a' w' hg hz9 hk hd Q => ?_)
        have e9 : a'.eval (.tmp 9) = .pointer (some ⟨D, 0, none⟩) := hk.at 9 (by decide +kernel)
        exact wp_load_rowR (Tch.ok N) (S := fun _ v_ => v_ = .agg (PrC (.slice pa9 pl pc9) pr).toArray) 39 _ rfl _ _ e9 (PrC (.slice pa9 pl pc9) pr) _ (hg.blk PP.out (by decide)).range0 Tryd.underlying39 rfl (Tryd.sizePr _ _) rfl
      · refine OwesR.val rfl rfl (fun a' w' hg hz9 hk hd Q => ?_)
        have e34 : a'.eval (.tmp 34) = HV rt := hd 1 34 (by decide +kernel) (by decide)
        have e35 : a'.eval (.tmp 35) = HV kb := hd 2 35 (by decide +kernel) (by decide)
        have e36 : a'.eval (.tmp 36) = .agg (PrC (.slice pa9 pl pc9) pr).toArray := hd 3 36 (by decide +kernel) (by decide)
        refine wp_callR (S := fun _ v_ => v_ = .tuple #[.agg (By z0.1).toArray, .bool false, .bool false]) 18 _ (run_enter 18 _ _ rfl (by kernel_rfl)) ?_
        simp only [List.map_toArray, List.map_nil, List.map_cons, e34, e35, e36]
        refine (bCheck_m HCK.out (OO.out.tch hg (by decide)).rd HPL.out (TT.out.tch hg h2 GG.out)).mono ?_
        rintro e w5 ⟨rfl, hb5⟩
        exact ⟨_, rfl, rfl, .of_below hb5⟩
      · refine OwesR.val rfl rfl (fun a' w' hg hz9 hk hd Q => ?_)
        have e37 : a'.eval (.tmp 37) = .tuple #[.agg (By z0.1).toArray, .bool false, .bool false] := hd 4 37 (by decide +kernel) (by decide)
        exact wp_valueR (Tch.ok N) (S := fun _ v_ => v_ = .tuple #[.agg (By z0.1).toArray, .bool false, .bool false]) _ (by simp only [execOp, e37]; rfl) rfl
      · refine OwesR.val rfl rfl (fun a' w' hg hz9 hk hd Q => ?_)
        have e32 : a'.eval (.tmp 32) = .tuple #[.agg (By z0.1).toArray, .bool false, .bool false] := hd 5 32 (by decide +kernel) (by decide)
        clear hd hk
        exact wp_valueR (Tch.ok N) (S := fun _ v_ => v_ = .agg (By z0.1).toArray) _ (by simp only [execOp, e32]; go_simp) rfl
      · refine OwesR.val rfl rfl (fun a' w' hg hz9 hk hd Q => ?_)
        have e32 : a'.eval (.tmp 32) = .tuple #[.agg (By z0.1).toArray, .bool false, .bool false] := hd 5 32 (by decide +kernel) (by decide)
        clear hd hk
        exact wp_valueR (Tch.ok N) (S := fun _ v_ => v_ = .bool false) _ (by simp only [execOp, e32]; go_simp) rfl
      · refine OwesR.val rfl rfl (fun a' w' hg hz9 hk hd Q => ?_)
        have e32 : a'.eval (.tmp 32) = .tuple #[.agg (By z0.1).toArray, .bool false, .bool false] := hd 5 32 (by decide +kernel) (by decide)
        clear hd hk
        exact wp_valueR (Tch.ok N) (S := fun _ v_ => v_ = .bool false) _ (by simp only [execOp, e32]; go_simp) rfl
      · exact OwesR.new rfl rfl rfl (fun a' w' => by simp only [execOp]; go_simp; rfl)
      · refine OwesR.put rfl rfl rfl (by decide +kernel) (.tmp 38) rfl (fun a' w' hg hk hd => ?_)
        have e38 : a'.eval (.tmp 38) = .agg (By z0.1).toArray := hd 6 38 (by decide +kernel) (by decide)
        exact e38
      · refine OwesR.val rfl rfl (fun a' w' hg hz9 hk hd Q => ?_)
        have e39 : a'.eval (.tmp 39) = .bool false := hd 7 39 (by decide +kernel) (by decide)
        exact wp_valueR (Tch.ok N) (S := fun _ v_ => v_ = .bool false) _ (by simp only [execOp, e39]; rfl) rfl
      · refine OwesR.val rfl rfl (fun a' w' hg hz9 hk hd Q => ?_)
        have e40 : a'.eval (.tmp 40) = .bool false := hd 8 40 (by decide +kernel) (by decide)
        exact wp_valueR (Tch.ok N) (S := fun _ v_ => v_ = .bool false) _ (by simp only [execOp, e40]; rfl) rfl
    · intro a' w6 E1 hsz hdf hk hall ht e10 hE1 hB6
      have e33 : a'.eval (.tmp 33) = PT p := hall 0 _ 33 rfl (by decide) rfl
      have e34 : a'.eval (.tmp 34) = HV rt := hall 1 _ 34 rfl (by decide) rfl
      have e35 : a'.eval (.tmp 35) = HV kb := hall 2 _ 35 rfl (by decide) rfl
      have e36 : a'.eval (.tmp 36) = .agg (PrC (.slice pa9 pl pc9) pr).toArray := hall 3 _ 36 rfl (by decide) rfl
      have e37 : a'.eval (.tmp 37) = .tuple #[.agg (By z0.1).toArray, .bool false, .bool false] := hall 4 _ 37 rfl (by decide) rfl
      have e32 : a'.eval (.tmp 32) = .tuple #[.agg (By z0.1).toArray, .bool false, .bool false] := hall 5 _ 32 rfl (by decide) rfl
      have e38 : a'.eval (.tmp 38) = .agg (By z0.1).toArray := hall 6 _ 38 rfl (by decide) rfl
      have e39 : a'.eval (.tmp 39) = .bool false := hall 7 _ 39 rfl (by decide) rfl
      have e40 : a'.eval (.tmp 40) = .bool false := hall 8 _ 40 rfl (by decide) rfl
      have e11 : a'.eval (.tmp 11) = .bool false := hall 11 _ 11 rfl (by decide) rfl
      have e12 : a'.eval (.tmp 12) = .bool false := hall 12 _ 12 rfl (by decide) rfl
      have ha := act_puts 70 rfl hsz hdf hk [33, 34, 35, 36, 37, 32, 38, 39, 40, 10, 11, 12] (by decide +kernel)
      simp only [puts, List.foldl_cons, List.foldl_nil, e33, e34, e35, e36, e37, e32, e38, e39, e40, e10, e11, e12] at ha
      simp only [Act.put, List.setIfInBounds_toArray, List.set_cons_succ, List.set_cons_zero] at ha
      clear hall hk hsz hdf e33 e34 e35 e36 e37 e32 e38 e39 e40 e10 e11 e12
      subst ha
      have KA_ := hide (ht.blk KA.out (by decide))
      have KB_ := hide (ht.blk KB.out (by decide))
      have TT_ := hide (TT.out.tch ht h2 GG.out)
      have RR_ := hide (RR.out.tchLow ht GG.out HLOW.out)
      have T1_ := hide (T1.out.tch ht)
      have OO_ := hide (OO.out.tch ht (by decide))
      have PP_ := hide (ht.blk PP.out (by decide))
      have LL_ : Hid (Below N w _) := (show _ from LL.out.trans (ht.below GG.out))
      have GG_ : Hid (N ≤ _) := (show _ ≤ _ from Nat.le_trans GG.out ht.size)
      clear ht KA KB TT RR T1 OO PP LL GG
      have KA := KA_
      have KB := KB_
      have TT := TT_
      have RR := RR_
      have T1 := T1_
      have OO := OO_
      have PP := PP_
      have LL := LL_
      have GG := GG_
      clear KA_ KB_ TT_ RR_ T1_ OO_ PP_ LL_ GG_
      have V1 := hide hB6
      clear hB6 hE1
      go_upto_region 7 with (first
        | (refine wpList_load_mid rfl 24 _ rfl (N + 1) 0 rfl (By (kb).1) _ (KB.out.range0) Tryd.underlying24 rfl (Tryd.sizeH (kb)) ?_)
        | (go_at_call 23; refine (tGet_m HV1.out HH1.out T1.out).mono ?_; rintro e w9 ⟨rfl, hb9⟩; have KA_ := hide (KA.out.kept hb9); have KB_ := hide (KB.out.kept hb9); have TT_ := hide (TT.out.gr hb9); have RR_ := hide (RR.out.kept hb9); have T1_ := hide (T1.out.kept hb9); have OO_ := hide (OO.out.kept hb9); have PP_ := hide (PP.out.kept hb9); have V1_ := hide (V1.out.kept hb9); have LL_ : Hid (Below N w _) := (show _ from LL.out.trans (hb9.mono GG.out)); have GG_ : Hid (N ≤ _) := (show _ ≤ _ from Nat.le_trans GG.out hb9.size); clear hb9 KA KB TT RR T1 OO PP V1 LL GG; have KA := KA_; have KB := KB_; have TT := TT_; have RR := RR_; have T1 := T1_; have OO := OO_; have PP := PP_; have V1 := V1_; have LL := LL_; have GG := GG_; clear KA_ KB_ TT_ RR_ T1_ OO_ PP_ V1_ LL_ GG_; obtain ⟨E2, HM⟩ : ∃ z, Hid (w9.heap.size = z) := ⟨_, rfl⟩)
        | (rw [HM.out]; refine wpList_store_blk rfl 24 _ _ rfl E2 (By zh.1) (By (v1).1) 24 rfl rfl (by rw [← HM.out]; exact Blk.new _ 24 (By zh.1)) (by rw [By_len, By_len]) (Tryd.sizeH (v1)) (By_one _) ?_; intro w9 hbk9 hu9; have hb9 := room_below HM.out hu9; have KA_ := hide (KA.out.kept hb9); have KB_ := hide (KB.out.kept hb9); have TT_ := hide (TT.out.gr hb9); have RR_ := hide (RR.out.kept hb9); have T1_ := hide (T1.out.kept hb9); have OO_ := hide (OO.out.kept hb9); have PP_ := hide (PP.out.kept hb9); have V1_ := hide (V1.out.kept hb9); have LL_ : Hid (Below N w _) := (show _ from LL.out.trans (hb9.mono GG.out)); have GG_ : Hid (N ≤ _) := (show _ ≤ _ from Nat.le_trans GG.out hb9.size); clear hb9 KA KB TT RR T1 OO PP V1 LL GG; have KA := KA_; have KB := KB_; have TT := TT_; have RR := RR_; have T1 := T1_; have OO := OO_; have PP := PP_; have V1 := V1_; have LL := LL_; have GG := GG_; clear KA_ KB_ TT_ RR_ T1_ OO_ PP_ V1_ LL_ GG_; have V2 := hide hbk9; clear hbk9 hu9 HM)
        | fail)
      have hq1 := eqAA z0
      go_wp2_with (first
        | (refine wpList_load_mid rfl 24 _ rfl (E1) 0 rfl (By (z0).1) _ (V1.out.range0) Tryd.underlying24 rfl (Tryd.sizeH (z0)) ?_)
        | (refine wpList_build rfl 24 _ rfl (.agg (By z0.1).toArray) (by simp only [execOp, List.map_toArray, List.map_nil, Sem.run_bind, Sem.run_pure]; exact congrArg (fun r => Result.andThen r _) (hbz _)) ?_)
        | (go_at_call 9; refine (ilives_any _ TT.out).mono ?_; rintro e w9 ⟨rfl, hb9⟩; have KA_ := hide (KA.out.kept hb9); have KB_ := hide (KB.out.kept hb9); have TT_ := hide (TT.out.gr hb9); have RR_ := hide (RR.out.kept hb9); have T1_ := hide (T1.out.kept hb9); have OO_ := hide (OO.out.kept hb9); have PP_ := hide (PP.out.kept hb9); have V1_ := hide (V1.out.kept hb9); have V2_ := hide (V2.out.kept hb9); have LL_ : Hid (Below N w _) := (show _ from LL.out.trans (hb9.mono GG.out)); have GG_ : Hid (N ≤ _) := (show _ ≤ _ from Nat.le_trans GG.out hb9.size); clear hb9 KA KB TT RR T1 OO PP V1 V2 LL GG; have KA := KA_; have KB := KB_; have TT := TT_; have RR := RR_; have T1 := T1_; have OO := OO_; have PP := PP_; have V1 := V1_; have V2 := V2_; have LL := LL_; have GG := GG_; clear KA_ KB_ TT_ RR_ T1_ OO_ PP_ V1_ V2_ LL_ GG_)
        | fail)
      go_ret
      exact ⟨rfl, LL.out⟩
#print axioms memberOthers_any
end Go.Proofs.YtooffljimdklfaaDoor
