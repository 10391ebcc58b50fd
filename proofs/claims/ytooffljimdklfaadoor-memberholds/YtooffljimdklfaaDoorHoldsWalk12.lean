/-
  The law MemberHolds: the call returns true.
-/
import Derived.Test.YtooffljimdklfaaDoorLawX12
namespace Go.Proofs.YtooffljimdklfaaDoor
open Go.RowKit
set_option maxHeartbeats 4000000 in
set_option maxRecDepth 100000 in
theorem memberHolds_any (L : List It) (v : Value) (k : Hs) (w : World) (hT : Tabs w) (hr : RdG IE w v L) : Calls Tryd.prog 5 #[v, HV k] w fun e w' => e = .returned (.bool true) ∧ Below w.heap.size w w' := by
  obtain ⟨N, HN⟩ : ∃ N, Hid (w.heap.size = N) := ⟨_, rfl⟩
  have h2 : 2 ≤ N := by rw [← HN.out]; exact hT.size
  have HT := hide hT
  have HR := hide hr
  obtain ⟨a, cp, rfl⟩ := hr.slice
  have HLOW : Hid (∀ b, InB (.slice a L.length cp) b → b < N) := (show _ from fun b hb => by rw [← HN.out]; exact hr.inB_lt hb)
  have hcap := hr.cap'
  clear hT hr
  obtain ⟨n, HNL⟩ : ∃ n, Hid (L.length = n) := ⟨_, rfl⟩
  rw [HNL.out] at HR HLOW hcap ⊢
  rw [HN.out]
  go_enter Tryd.func5, Tryd.ntmps5
  unfold HV
  go_upto_region 1 with fail
  obtain ⟨w1, hw1⟩ : ∃ z, z = w.alloc (.cells (By k.1).toArray 24 (0, 0)) := ⟨_, rfl⟩
  change Code.wp _ _ _ _ (w.alloc (.cells (By k.1).toArray 24 (0, 0)))
  rw [← hw1, HN.out]
  obtain ⟨b0, lb, -⟩ := box1 HN hw1
  have KK := hide b0
  have LL := hide lb
  clear hw1 b0 lb
  have GG : Hid (N ≤ w1.heap.size) := (show _ ≤ _ from Nat.le_of_lt KK.out.lt)
  have TT := hide (HT.out.kept (LL.out.mono h2))
  have RR := hide (HR.out.kept (LL.out.mono (Nat.le_of_eq HN.out)))
  by_cases hn : 30 < n
  · have q1 : (30 : Int) < (n : Int) := by omega
    go_wp2_with (first
      | (go_at_call 9; refine (ilives_any _ TT.out).mono ?_; rintro e w9 ⟨rfl, hb9⟩; have TT_ := hide (TT.out.gr hb9); have LL_ : Hid (Below N w _) := (show _ from LL.out.trans (hb9.mono GG.out)); have GG_ : Hid (N ≤ _) := (show _ ≤ _ from Nat.le_trans GG.out hb9.size); clear hb9 TT LL GG; have TT := TT_; have LL := LL_; have GG := GG_; clear TT_ LL_ GG_)
      | fail)
    go_ret
    exact ⟨rfl, LL.out⟩
  have q1 : ¬ (30 : Int) < (n : Int) := by omega
  have HN40 : Hid (L.length ≤ 1000) := (show _ ≤ _ by rw [HNL.out]; omega)
  have hm1 := putsP_length L
  have hm2 := putsP_srt L
  obtain ⟨m, HMm⟩ : ∃ m, Hid (putsP L = m) := ⟨_, rfl⟩
  rw [HMm.out] at hm1 hm2
  rw [HNL.out] at hm1
  have HML : Hid (m.length ≤ 1000000) := (show _ ≤ _ by omega)
  have HSR := hide hm2
  obtain ⟨ln, HLN⟩ : ∃ z, Hid (m.length = z) := ⟨_, rfl⟩
  have hlb : ln ≤ 30 := by rw [← HLN.out]; omega
  obtain ⟨pr, HPR⟩ : ∃ z, Hid (prP m k = z) := ⟨_, rfl⟩
  obtain ⟨pl, HPLE⟩ : ∃ z, Hid (pr.1.length = z) := ⟨_, rfl⟩
  have HPL : Hid (pr.1.length ≤ 1000000) := (show _ ≤ _ from Nat.le_trans (pr_short hm2 HPR.out) HML.out)
  obtain ⟨rt, HRT⟩ : ∃ z, Hid (rootP m = z) := ⟨_, rfl⟩
  obtain ⟨v1, HV1⟩ : ∃ z, Hid (valP m k = z) := ⟨_, rfl⟩
  obtain ⟨h1, HH1⟩ : ∃ z, Hid (hasP m k = z) := ⟨_, rfl⟩
  have hcp := check_prove hm2 k k
  rw [HPR.out, HRT.out, HV1.out, HH1.out] at hcp
  have HGD : Hid (goodP pr = true) := hcp.1
  have HCK : Hid (checkP rt k pr = (v1, h1, true)) := (show _ = _ by rw [hcp.2.2, hcp.2.1]; rfl)
  clear hm1 hm2 hcp
  go_upto_region 4 with (first
    | (go_at_call 10; refine (imade_m (B0 := N) HMm.out HLN.out RR.out HN40.out GG.out).mono ?_; rintro e w9 ⟨p, pa, lc, rfl, t9, o9, hb9⟩; have KK_ := hide (KK.out.kept hb9); have TT_ := hide (TT.out.gr hb9); have RR_ := hide (RR.out.kept hb9); have LL_ : Hid (Below N w _) := (show _ from LL.out.trans (hb9.mono GG.out)); have GG_ : Hid (N ≤ _) := (show _ ≤ _ from Nat.le_trans GG.out hb9.size); clear hb9 KK TT RR LL GG; have KK := KK_; have TT := TT_; have RR := RR_; have LL := LL_; have GG := GG_; clear KK_ TT_ RR_ LL_ GG_; have T1 := hide t9; clear t9 o9)
    | fail)
  go_upto_region 5 with (first
    | (refine wpList_load_mid rfl 24 _ rfl (N) 0 rfl (By (k).1) _ (KK.out.range0) Tryd.underlying24 rfl (Tryd.sizeH (k)) ?_)
    | (go_at_call 13; refine (bProve_m (B := N) HPR.out HPLE.out T1.out HML.out TT.out GG.out).mono ?_; rintro e w9 ⟨pa9, pc9, rfl, o9, hb9⟩; have KK_ := hide (KK.out.kept hb9); have TT_ := hide (TT.out.gr hb9); have RR_ := hide (RR.out.kept hb9); have T1_ := hide (T1.out.kept hb9); have LL_ : Hid (Below N w _) := (show _ from LL.out.trans (hb9.mono GG.out)); have GG_ : Hid (N ≤ _) := (show _ ≤ _ from Nat.le_trans GG.out hb9.size); clear hb9 KK TT RR T1 LL GG; have KK := KK_; have TT := TT_; have RR := RR_; have T1 := T1_; have LL := LL_; have GG := GG_; clear KK_ TT_ RR_ T1_ LL_ GG_; have OO := hide o9; clear o9; obtain ⟨D, HM⟩ : ∃ z, Hid (w9.heap.size = z) := ⟨_, rfl⟩)
    | (rw [HM.out]; refine wpList_store_blk rfl 39 _ _ rfl D (PrC (.slice none 0 0) zp) (PrC (.slice pa9 pl pc9) pr) 39 rfl rfl (by rw [← HM.out]; exact Blk.new _ 39 (PrC (.slice none 0 0) zp)) (by rw [PrC_len, PrC_len]) (Tryd.sizePr _ _) (PrC_one _) ?_; intro w9 hbk9 hu9; have hb9 := roomP_below HM.out hu9; have KK_ := hide (KK.out.kept hb9); have TT_ := hide (TT.out.gr hb9); have RR_ := hide (RR.out.kept hb9); have T1_ := hide (T1.out.kept hb9); have OO_ := hide (OO.out.kept hb9); have LL_ : Hid (Below N w _) := (show _ from LL.out.trans (hb9.mono GG.out)); have GG_ : Hid (N ≤ _) := (show _ ≤ _ from Nat.le_trans GG.out hb9.size); clear hb9 KK TT RR T1 OO LL GG; have KK := KK_; have TT := TT_; have RR := RR_; have T1 := T1_; have OO := OO_; have LL := LL_; have GG := GG_; clear KK_ TT_ RR_ T1_ OO_ LL_ GG_; have PP := hide hbk9; clear hbk9 hu9 HM)
    | fail)
  refine wp_region_cellR Tryd.mixed (Tch N) (Tch.ok N) (fun _ _ h => h.size) (fun i_ => match i_ with | 0 => PT p | 1 => HV rt | 2 => HV k | 3 => .agg (PrC (.slice pa9 pl pc9) pr).toArray | 4 | 5 => .tuple #[.agg (By v1.1).toArray, .bool h1, .bool true] | 6 => .agg (By v1.1).toArray | 7 | 11 => .bool h1 | 8 | 12 => .bool true | _ => undef) 9 8 10 24 (By zh.1) (By (v1).1) (fun _ _ _ h1 h2 h3 => h1.but h2 h3) (fun _ _ _ _ h1 h2 => h1.blk h2 (by decide)) 58 rfl (by decide +kernel) (by decide) rfl (by decide) (by decide) (by rw [By_len, By_len]) (Tryd.sizeH _) (By_one _) ?_ ?_
  · refine AllFrom.cons ?_ (AllFrom.cons ?_ (AllFrom.cons ?_ (AllFrom.cons ?_ (AllFrom.cons ?_ (AllFrom.cons ?_ (AllFrom.cons ?_ (AllFrom.cons ?_ (AllFrom.cons ?_ (AllFrom.cons ?_ (AllFrom.cons ?_ (AllFrom.cons ?_ (AllFrom.cons ?_ AllFrom.nil))))))))))))
    · refine OwesR.val rfl rfl (fun a' w' hg hz9 hk hd Q => ?_)
      have e5 : a'.eval (.tmp 5) = PT p := hk.at 5 (by decide +kernel)
      exact wp_valueR (Tch.ok N) (S := fun _ v_ => v_ = PT p) _ (by simp only [execOp, e5]; rfl) rfl
    · refine OwesR.val rfl rfl (fun a' w' hg hz9 hk hd Q => ?_)
      have e26 : a'.eval (.tmp 26) = PT p := hd 0 26 (by decide +kernel) (by decide)
      refine wp_callR (S := fun _ v_ => v_ = HV rt) 22 _ (run_enter 22 _ _ rfl (by kernel_rfl)) ?_
      simp only [List.map_toArray, List.map_nil, List.map_cons, e26]
      refine (tRoot_m HRT.out h2 (T1.out.tch hg) (TT.out.tch hg h2 GG.out) (Nat.le_trans GG.out hg.size)).mono ?_
      rintro e w5 ⟨rfl, hb5⟩
      exact ⟨_, rfl, rfl, hb5⟩
    · refine OwesR.val rfl rfl (fun a' w' hg hz9 hk hd Q => ?_)
      have e3 : a'.eval (.tmp 3) = .pointer (some ⟨N, 0, none⟩) := hk.at 3 (by decide +kernel)
      exact wp_load_rowR (Tch.ok N) (S := fun _ v_ => v_ = HV k) 24 _ rfl _ _ e3 (By (k).1) _ (hg.blk KK.out (by decide)).range0 Tryd.underlying24 rfl (Tryd.sizeH _) rfl
    · refine OwesR.val rfl rfl (fun a' w' hg hz9 hk hd Q => ?_)
      have e7 : a'.eval (.tmp 7) = .pointer (some ⟨D, 0, none⟩) := hk.at 7 (by decide +kernel)
      exact wp_load_rowR (Tch.ok N) (S := fun _ v_ => v_ = .agg (PrC (.slice pa9 pl pc9) pr).toArray) 39 _ rfl _ _ e7 (PrC (.slice pa9 pl pc9) pr) _ (hg.blk PP.out (by decide)).range0 Tryd.underlying39 rfl (Tryd.sizePr _ _) rfl
    · refine OwesR.val rfl rfl (fun a' w' hg hz9 hk hd Q => ?_)
      have e27 : a'.eval (.tmp 27) = HV rt := hd 1 27 (by decide +kernel) (by decide)
      have e28 : a'.eval (.tmp 28) = HV k := hd 2 28 (by decide +kernel) (by decide)
      have e29 : a'.eval (.tmp 29) = .agg (PrC (.slice pa9 pl pc9) pr).toArray := hd 3 29 (by decide +kernel) (by decide)
      refine wp_callR (S := fun _ v_ => v_ = .tuple #[.agg (By v1.1).toArray, .bool h1, .bool true]) 18 _ (run_enter 18 _ _ rfl (by kernel_rfl)) ?_
      simp only [List.map_toArray, List.map_nil, List.map_cons, e27, e28, e29]
      refine (bCheck_m HCK.out (OO.out.tch hg (by decide)).rd HPL.out (TT.out.tch hg h2 GG.out)).mono ?_
      rintro e w5 ⟨rfl, hb5⟩
      exact ⟨_, rfl, rfl, .of_below hb5⟩
    · refine OwesR.val rfl rfl (fun a' w' hg hz9 hk hd Q => ?_)
      have e30 : a'.eval (.tmp 30) = .tuple #[.agg (By v1.1).toArray, .bool h1, .bool true] := hd 4 30 (by decide +kernel) (by decide)
      exact wp_valueR (Tch.ok N) (S := fun _ v_ => v_ = .tuple #[.agg (By v1.1).toArray, .bool h1, .bool true]) _ (by simp only [execOp, e30]; rfl) rfl
    · refine OwesR.val rfl rfl (fun a' w' hg hz9 hk hd Q => ?_)
      have e25 : a'.eval (.tmp 25) = .tuple #[.agg (By v1.1).toArray, .bool h1, .bool true] := hd 5 25 (by decide +kernel) (by decide)
      clear hd hk
      exact wp_valueR (Tch.ok N) (S := fun _ v_ => v_ = .agg (By v1.1).toArray) _ (by simp only [execOp, e25]; go_simp) rfl
    · refine OwesR.val rfl rfl (fun a' w' hg hz9 hk hd Q => ?_)
      have e25 : a'.eval (.tmp 25) = .tuple #[.agg (By v1.1).toArray, .bool h1, .bool true] := hd 5 25 (by decide +kernel) (by decide)
      clear hd hk
      exact wp_valueR (Tch.ok N) (S := fun _ v_ => v_ = .bool h1) _ (by simp only [execOp, e25]; go_simp) rfl
    · refine OwesR.val rfl rfl (fun a' w' hg hz9 hk hd Q => ?_)
      have e25 : a'.eval (.tmp 25) = .tuple #[.agg (By v1.1).toArray, .bool h1, .bool true] := hd 5 25 (by decide +kernel) (by decide)
      clear hd hk
      exact wp_valueR (Tch.ok N) (S := fun _ v_ => v_ = .bool true) _ (by simp only [execOp, e25]; go_simp) rfl
    · exact OwesR.new rfl rfl rfl (fun a' w' => by simp only [execOp]; go_simp; rfl)
    · refine OwesR.put rfl rfl rfl (by decide +kernel) (.tmp 31) rfl (fun a' w' hg hk hd => ?_)
      have e31 : a'.eval (.tmp 31) = .agg (By v1.1).toArray := hd 6 31 (by decide +kernel) (by decide)
      exact e31
    · refine OwesR.val rfl rfl (fun a' w' hg hz9 hk hd Q => ?_)
      have e32 : a'.eval (.tmp 32) = .bool h1 := hd 7 32 (by decide +kernel) (by decide)
      exact wp_valueR (Tch.ok N) (S := fun _ v_ => v_ = .bool h1) _ (by simp only [execOp, e32]; rfl) rfl
    · refine OwesR.val rfl rfl (fun a' w' hg hz9 hk hd Q => ?_)
      have e33 : a'.eval (.tmp 33) = .bool true := hd 8 33 (by decide +kernel) (by decide)
      exact wp_valueR (Tch.ok N) (S := fun _ v_ => v_ = .bool true) _ (by simp only [execOp, e33]; rfl) rfl
  · intro a' w6 E1 hsz hdf hk hall ht e8 hE1 hB6
    have e26 : a'.eval (.tmp 26) = PT p := hall 0 _ 26 rfl (by decide) rfl
    have e27 : a'.eval (.tmp 27) = HV rt := hall 1 _ 27 rfl (by decide) rfl
    have e28 : a'.eval (.tmp 28) = HV k := hall 2 _ 28 rfl (by decide) rfl
    have e29 : a'.eval (.tmp 29) = .agg (PrC (.slice pa9 pl pc9) pr).toArray := hall 3 _ 29 rfl (by decide) rfl
    have e30 : a'.eval (.tmp 30) = .tuple #[.agg (By v1.1).toArray, .bool h1, .bool true] := hall 4 _ 30 rfl (by decide) rfl
    have e25 : a'.eval (.tmp 25) = .tuple #[.agg (By v1.1).toArray, .bool h1, .bool true] := hall 5 _ 25 rfl (by decide) rfl
    have e31 : a'.eval (.tmp 31) = .agg (By v1.1).toArray := hall 6 _ 31 rfl (by decide) rfl
    have e32 : a'.eval (.tmp 32) = .bool h1 := hall 7 _ 32 rfl (by decide) rfl
    have e33 : a'.eval (.tmp 33) = .bool true := hall 8 _ 33 rfl (by decide) rfl
    have e9 : a'.eval (.tmp 9) = .bool h1 := hall 11 _ 9 rfl (by decide) rfl
    have e10 : a'.eval (.tmp 10) = .bool true := hall 12 _ 10 rfl (by decide) rfl
    have ha := act_puts 58 rfl hsz hdf hk [26, 27, 28, 29, 30, 25, 31, 32, 33, 8, 9, 10] (by decide +kernel)
    simp only [puts, List.foldl_cons, List.foldl_nil, e26, e27, e28, e29, e30, e25, e31, e32, e33, e8, e9, e10] at ha
    simp only [Act.put, List.setIfInBounds_toArray, List.set_cons_succ, List.set_cons_zero] at ha
    clear hall hk hsz hdf e26 e27 e28 e29 e30 e25 e31 e32 e33 e8 e9 e10
    subst ha
    have KK_ := hide (ht.blk KK.out (by decide))
    have TT_ := hide (TT.out.tch ht h2 GG.out)
    have RR_ := hide (RR.out.tchLow ht GG.out HLOW.out)
    have T1_ := hide (T1.out.tch ht)
    have OO_ := hide (OO.out.tch ht (by decide))
    have PP_ := hide (ht.blk PP.out (by decide))
    have LL_ : Hid (Below N w _) := (show _ from LL.out.trans (ht.below GG.out))
    have GG_ : Hid (N ≤ _) := (show _ ≤ _ from Nat.le_trans GG.out ht.size)
    clear ht KK TT RR T1 OO PP LL GG
    have KK := KK_
    have TT := TT_
    have RR := RR_
    have T1 := T1_
    have OO := OO_
    have PP := PP_
    have LL := LL_
    have GG := GG_
    clear KK_ TT_ RR_ T1_ OO_ PP_ LL_ GG_
    have V1 := hide hB6
    clear hB6 hE1
    go_upto_region 7 with (first
      | (refine wpList_load_mid rfl 24 _ rfl (N) 0 rfl (By (k).1) _ (KK.out.range0) Tryd.underlying24 rfl (Tryd.sizeH (k)) ?_)
      | (go_at_call 23; refine (tGet_m HV1.out HH1.out T1.out).mono ?_; rintro e w9 ⟨rfl, hb9⟩; have KK_ := hide (KK.out.kept hb9); have TT_ := hide (TT.out.gr hb9); have RR_ := hide (RR.out.kept hb9); have T1_ := hide (T1.out.kept hb9); have OO_ := hide (OO.out.kept hb9); have PP_ := hide (PP.out.kept hb9); have V1_ := hide (V1.out.kept hb9); have LL_ : Hid (Below N w _) := (show _ from LL.out.trans (hb9.mono GG.out)); have GG_ : Hid (N ≤ _) := (show _ ≤ _ from Nat.le_trans GG.out hb9.size); clear hb9 KK TT RR T1 OO PP V1 LL GG; have KK := KK_; have TT := TT_; have RR := RR_; have T1 := T1_; have OO := OO_; have PP := PP_; have V1 := V1_; have LL := LL_; have GG := GG_; clear KK_ TT_ RR_ T1_ OO_ PP_ V1_ LL_ GG_; obtain ⟨E2, HM⟩ : ∃ z, Hid (w9.heap.size = z) := ⟨_, rfl⟩)
      | (rw [HM.out]; refine wpList_store_blk rfl 24 _ _ rfl E2 (By zh.1) (By (v1).1) 24 rfl rfl (by rw [← HM.out]; exact Blk.new _ 24 (By zh.1)) (by rw [By_len, By_len]) (Tryd.sizeH (v1)) (By_one _) ?_; intro w9 hbk9 hu9; have hb9 := room_below HM.out hu9; have KK_ := hide (KK.out.kept hb9); have TT_ := hide (TT.out.gr hb9); have RR_ := hide (RR.out.kept hb9); have T1_ := hide (T1.out.kept hb9); have OO_ := hide (OO.out.kept hb9); have PP_ := hide (PP.out.kept hb9); have V1_ := hide (V1.out.kept hb9); have LL_ : Hid (Below N w _) := (show _ from LL.out.trans (hb9.mono GG.out)); have GG_ : Hid (N ≤ _) := (show _ ≤ _ from Nat.le_trans GG.out hb9.size); clear hb9 KK TT RR T1 OO PP V1 LL GG; have KK := KK_; have TT := TT_; have RR := RR_; have T1 := T1_; have OO := OO_; have PP := PP_; have V1 := V1_; have LL := LL_; have GG := GG_; clear KK_ TT_ RR_ T1_ OO_ PP_ V1_ LL_ GG_; have V2 := hide hbk9; clear hbk9 hu9 HM)
      | fail)
    have hq1 := eqAA v1
    have hq2 : (h1 == h1) = true := by simp
    go_wp2_with (first
      | (refine wpList_load_mid rfl 39 _ rfl D 0 rfl (PrC (.slice pa9 pl pc9) pr) _ PP.out.range0 Tryd.underlying39 rfl (Tryd.sizePr _ _) ?_)
      | (go_at_call 20; refine (bGood_m HGD.out OO.out.rd).mono ?_; rintro e w9 ⟨rfl, hb9⟩; have KK_ := hide (KK.out.kept hb9); have TT_ := hide (TT.out.gr hb9); have RR_ := hide (RR.out.kept hb9); have T1_ := hide (T1.out.kept hb9); have OO_ := hide (OO.out.kept hb9); have PP_ := hide (PP.out.kept hb9); have V1_ := hide (V1.out.kept hb9); have V2_ := hide (V2.out.kept hb9); have LL_ : Hid (Below N w _) := (show _ from LL.out.trans (hb9.mono GG.out)); have GG_ : Hid (N ≤ _) := (show _ ≤ _ from Nat.le_trans GG.out hb9.size); clear hb9 KK TT RR T1 OO PP V1 V2 LL GG; have KK := KK_; have TT := TT_; have RR := RR_; have T1 := T1_; have OO := OO_; have PP := PP_; have V1 := V1_; have V2 := V2_; have LL := LL_; have GG := GG_; clear KK_ TT_ RR_ T1_ OO_ PP_ V1_ V2_ LL_ GG_)
      | (refine wpList_load_w9 rfl 24 _ rfl (E1) 0 rfl (By (v1).1) _ (V1.out.range0) Tryd.underlying24 rfl (Tryd.sizeH (v1)) ?_)
      | (refine wpList_load_w9 rfl 24 _ rfl (E2) 0 rfl (By (v1).1) _ (V2.out.range0) Tryd.underlying24 rfl (Tryd.sizeH (v1)) ?_)
      | (go_at_call 9; refine (ilives_any _ TT.out).mono ?_; rintro e w9 ⟨rfl, hb9⟩; have KK_ := hide (KK.out.kept hb9); have TT_ := hide (TT.out.gr hb9); have RR_ := hide (RR.out.kept hb9); have T1_ := hide (T1.out.kept hb9); have OO_ := hide (OO.out.kept hb9); have PP_ := hide (PP.out.kept hb9); have V1_ := hide (V1.out.kept hb9); have V2_ := hide (V2.out.kept hb9); have LL_ : Hid (Below N w _) := (show _ from LL.out.trans (hb9.mono GG.out)); have GG_ : Hid (N ≤ _) := (show _ ≤ _ from Nat.le_trans GG.out hb9.size); clear hb9 KK TT RR T1 OO PP V1 V2 LL GG; have KK := KK_; have TT := TT_; have RR := RR_; have T1 := T1_; have OO := OO_; have PP := PP_; have V1 := V1_; have V2 := V2_; have LL := LL_; have GG := GG_; clear KK_ TT_ RR_ T1_ OO_ PP_ V1_ V2_ LL_ GG_)
      | fail)
    go_ret
    exact ⟨rfl, LL.out⟩
#print axioms memberHolds_any
end Go.Proofs.YtooffljimdklfaaDoor
