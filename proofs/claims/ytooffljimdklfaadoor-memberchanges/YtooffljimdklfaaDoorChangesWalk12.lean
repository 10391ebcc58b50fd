/-
  The law MemberChanges: the call returns true.
-/
import Derived.Test.YtooffljimdklfaaDoorLawX12
namespace Go.Proofs.YtooffljimdklfaaDoor
open Go.RowKit
set_option maxHeartbeats 8000000 in
set_option maxRecDepth 100000 in
theorem memberChanges_any (L : List It) (v : Value) (x : It) (k : Hs) (w : World) (hT : Tabs w) (hr : RdG IE w v L) : Calls Tryd.prog 8 #[v, .agg (IE.c x).toArray, HV k] w fun e w' => e = .returned (.bool true) ∧ Below w.heap.size w w' := by
  obtain ⟨N, HN⟩ : ∃ N, Hid (w.heap.size = N) := ⟨_, rfl⟩
  have h2 : 2 ≤ N := by rw [← HN.out]; exact hT.size
  have HT := hide hT
  have HR := hide hr
  obtain ⟨a, cp, rfl⟩ := hr.slice
  have HLOW : Hid (∀ b, InB (.slice a L.length cp) b → b < N) := (show _ from fun b hb => by rw [← HN.out]; exact hr.inB_lt hb)
  have hcap := hr.cap'
  clear hT hr
  obtain ⟨n, HNL⟩ : ∃ n, Hid (L.length = n) := ⟨_, rfl⟩
  rw [HNL.out] at HR HLOW hcap ⊢
  rw [HN.out]
  go_enter Tryd.func8, Tryd.ntmps8
  unfold HV
  go_upto_region 1 with fail
  obtain ⟨w1, hw1⟩ : ∃ z, z = (w.alloc (.cells (IE.c x).toArray 63 (0, 0))).alloc (.cells (By k.1).toArray 24 (0, 0)) := ⟨_, rfl⟩
  change Code.wp _ _ _ _ ((w.alloc (.cells (IE.c x).toArray 63 (0, 0))).alloc (.cells (By k.1).toArray 24 (0, 0)))
  rw [← hw1, HN.out]
  obtain ⟨b0, b1, lb, -⟩ := box2 HN hw1
  have XX := hide b0
  have KK := hide b1
  have LL := hide lb
  clear hw1 b0 b1 lb
  have GG : Hid (N ≤ w1.heap.size) := (show _ ≤ _ from Nat.le_of_lt XX.out.lt)
  have TT := hide (HT.out.kept (LL.out.mono h2))
  have RR := hide (HR.out.kept (LL.out.mono (Nat.le_of_eq HN.out)))
  by_cases hn : 30 < n
  · have q1 : (30 : Int) < (n : Int) := by omega
    go_wp2_with (first
      | (go_at_call 9; refine (ilives_any _ TT.out).mono ?_; rintro e w9 ⟨rfl, hb9⟩; have TT_ := hide (TT.out.gr hb9); have LL_ : Hid (Below N w _) := (show _ from LL.out.trans (hb9.mono GG.out)); have GG_ : Hid (N ≤ _) := (show _ ≤ _ from Nat.le_trans GG.out hb9.size); clear hb9 TT LL GG; have TT := TT_; have LL := LL_; have GG := GG_; clear TT_ LL_ GG_)
      | fail)
    go_ret
    exact ⟨rfl, LL.out⟩
  have q1 : ¬ (30 : Int) < (n : Int) := by omega
  have HN40 : Hid (L.length ≤ 1000) := (show _ ≤ _ by rw [HNL.out]; omega)
  have hm1 := putsP_length L
  have hm2 := putsP_srt L
  obtain ⟨m, HMm⟩ : ∃ m, Hid (putsP L = m) := ⟨_, rfl⟩
  rw [HMm.out] at hm1 hm2
  rw [HNL.out] at hm1
  have HML : Hid (m.length ≤ 1000000) := (show _ ≤ _ by omega)
  have HSR := hide hm2
  obtain ⟨ln, HLN⟩ : ∃ z, Hid (m.length = z) := ⟨_, rfl⟩
  have hlb : ln ≤ 30 := by rw [← HLN.out]; omega
  have hms := hm2.put x.1 x.2
  have hml := putP_length hm2 x.1 x.2
  obtain ⟨mp, HMP⟩ : ∃ z, Hid (putP m x.1 x.2 = z) := ⟨_, rfl⟩
  rw [HMP.out] at hms hml
  have HML2 : Hid (mp.length ≤ 1000000) := (show _ ≤ _ by have := HML.out; split at hml <;> omega)
  obtain ⟨pr, HPR⟩ : ∃ z, Hid (prP m k = z) := ⟨_, rfl⟩
  obtain ⟨pl, HPLE⟩ : ∃ z, Hid (pr.1.length = z) := ⟨_, rfl⟩
  have HPL : Hid (pr.1.length ≤ 1000000) := (show _ ≤ _ from Nat.le_trans (pr_short hm2 HPR.out) HML.out)
  obtain ⟨rt, HRT⟩ : ∃ z, Hid (rootP m = z) := ⟨_, rfl⟩
  obtain ⟨v1, HV1⟩ : ∃ z, Hid (valP m k = z) := ⟨_, rfl⟩
  obtain ⟨hh1, HH1⟩ : ∃ z, Hid (hasP m k = z) := ⟨_, rfl⟩
  have hcp := check_prove hm2 k k
  rw [HPR.out, HRT.out, HV1.out, HH1.out] at hcp
  have HCK : Hid (checkP rt k pr = (v1, hh1, true)) := (show _ = _ by rw [hcp.2.2, hcp.2.1]; rfl)
  obtain ⟨pr2, HPR2⟩ : ∃ z, Hid (prP mp k = z) := ⟨_, rfl⟩
  obtain ⟨pl2, HPLE2⟩ : ∃ z, Hid (pr2.1.length = z) := ⟨_, rfl⟩
  have HPL2 : Hid (pr2.1.length ≤ 1000000) := (show _ ≤ _ from Nat.le_trans (pr_short hms HPR2.out) HML2.out)
  obtain ⟨rt2, HRT2⟩ : ∃ z, Hid (rootP mp = z) := ⟨_, rfl⟩
  obtain ⟨v2, HV2⟩ : ∃ z, Hid (valP mp k = z) := ⟨_, rfl⟩
  obtain ⟨hh2, HH2⟩ : ∃ z, Hid (hasP mp k = z) := ⟨_, rfl⟩
  have hcp2 := check_prove hms k k
  rw [HPR2.out, HRT2.out, HV2.out, HH2.out] at hcp2
  have HCK2 : Hid (checkP rt2 k pr2 = (v2, hh2, true)) := (show _ = _ by rw [hcp2.2.2, hcp2.2.1]; rfl)
  clear hm1 hm2 hcp hcp2 hms hml
  go_upto_region 4 with (first
    | (go_at_call 10; refine (imade_m (B0 := N) HMm.out HLN.out RR.out HN40.out GG.out).mono ?_; rintro e w9 ⟨p, pa, lc, rfl, t9, o9, hb9⟩; have XX_ := hide (XX.out.kept hb9); have KK_ := hide (KK.out.kept hb9); have TT_ := hide (TT.out.gr hb9); have RR_ := hide (RR.out.kept hb9); have LL_ : Hid (Below N w _) := (show _ from LL.out.trans (hb9.mono GG.out)); have GG_ : Hid (N ≤ _) := (show _ ≤ _ from Nat.le_trans GG.out hb9.size); clear hb9 XX KK TT RR LL GG; have XX := XX_; have KK := KK_; have TT := TT_; have RR := RR_; have LL := LL_; have GG := GG_; clear XX_ KK_ TT_ RR_ LL_ GG_; have T1 := hide t9; clear t9 o9)
    | fail)
  go_upto_region 5 with (first
    | (refine wpList_load_mid rfl 24 _ rfl (N + 1) 0 rfl (By (k).1) _ (KK.out.range0) Tryd.underlying24 rfl (Tryd.sizeH (k)) ?_)
    | (go_at_call 13; refine (bProve_m (B := N) HPR.out HPLE.out T1.out HML.out TT.out GG.out).mono ?_; rintro e w9 ⟨pa9, pc9, rfl, o9, hb9⟩; have XX_ := hide (XX.out.kept hb9); have KK_ := hide (KK.out.kept hb9); have TT_ := hide (TT.out.gr hb9); have RR_ := hide (RR.out.kept hb9); have T1_ := hide (T1.out.kept hb9); have LL_ : Hid (Below N w _) := (show _ from LL.out.trans (hb9.mono GG.out)); have GG_ : Hid (N ≤ _) := (show _ ≤ _ from Nat.le_trans GG.out hb9.size); clear hb9 XX KK TT RR T1 LL GG; have XX := XX_; have KK := KK_; have TT := TT_; have RR := RR_; have T1 := T1_; have LL := LL_; have GG := GG_; clear XX_ KK_ TT_ RR_ T1_ LL_ GG_; have OO := hide o9; clear o9; obtain ⟨D, HM⟩ : ∃ z, Hid (w9.heap.size = z) := ⟨_, rfl⟩)
    | (rw [HM.out]; refine wpList_store_blk rfl 39 _ _ rfl D (PrC (.slice none 0 0) zp) (PrC (.slice pa9 pl pc9) pr) 39 rfl rfl (by rw [← HM.out]; exact Blk.new _ 39 (PrC (.slice none 0 0) zp)) (by rw [PrC_len, PrC_len]) (Tryd.sizePr _ _) (PrC_one _) ?_; intro w9 hbk9 hu9; have hb9 := roomP_below HM.out hu9; have XX_ := hide (XX.out.kept hb9); have KK_ := hide (KK.out.kept hb9); have TT_ := hide (TT.out.gr hb9); have RR_ := hide (RR.out.kept hb9); have T1_ := hide (T1.out.kept hb9); have OO_ := hide (OO.out.kept hb9); have LL_ : Hid (Below N w _) := (show _ from LL.out.trans (hb9.mono GG.out)); have GG_ : Hid (N ≤ _) := (show _ ≤ _ from Nat.le_trans GG.out hb9.size); clear hb9 XX KK TT RR T1 OO LL GG; have XX := XX_; have KK := KK_; have TT := TT_; have RR := RR_; have T1 := T1_; have OO := OO_; have LL := LL_; have GG := GG_; clear XX_ KK_ TT_ RR_ T1_ OO_ LL_ GG_; have PP := hide hbk9; clear hbk9 hu9 HM)
    | fail)
  go_upto_region 6 with (first
    | (refine wpList_load_mid rfl 24 _ rfl (N) 0 rfl (By (x.1).1) _ (IEkey XX.out) Tryd.underlying24 rfl (Tryd.sizeH (x.1)) ?_)
    | (refine wpList_load_mid rfl 24 _ rfl (N) 32 rfl (By (x.2).1) _ (IEval XX.out) Tryd.underlying24 rfl (Tryd.sizeH (x.2)) ?_)
    | (go_at_call 24; refine (tPut_m HMP.out T1.out GG.out HML.out).mono ?_; rintro e w9 ⟨p2, rfl, t9, hb9⟩; have XX_ := hide (XX.out.kept hb9); have KK_ := hide (KK.out.kept hb9); have TT_ := hide (TT.out.gr hb9); have RR_ := hide (RR.out.kept hb9); have T1_ := hide (T1.out.kept hb9); have OO_ := hide (OO.out.kept hb9); have PP_ := hide (PP.out.kept hb9); have LL_ : Hid (Below N w _) := (show _ from LL.out.trans (hb9.mono GG.out)); have GG_ : Hid (N ≤ _) := (show _ ≤ _ from Nat.le_trans GG.out hb9.size); clear hb9 XX KK TT RR T1 OO PP LL GG; have XX := XX_; have KK := KK_; have TT := TT_; have RR := RR_; have T1 := T1_; have OO := OO_; have PP := PP_; have LL := LL_; have GG := GG_; clear XX_ KK_ TT_ RR_ T1_ OO_ PP_ LL_ GG_; have T2 := hide t9; clear t9)
    | fail)
  refine wp_region_cellR Tryd.mixed (Tch N) (Tch.ok N) (fun _ _ h => h.size) (fun i_ => match i_ with | 0 => PT p | 1 => HV rt | 2 => HV k | 3 => .agg (PrC (.slice pa9 pl pc9) pr).toArray | 4 | 5 => .tuple #[.agg (By v1.1).toArray, .bool hh1, .bool true] | 6 => .agg (By v1.1).toArray | 7 | 11 => .bool hh1 | 8 | 12 => .bool true | _ => undef) 9 11 10 24 (By zh.1) (By (v1).1) (fun _ _ _ h1 h2 h3 => h1.but h2 h3) (fun _ _ _ _ h1 h2 => h1.blk h2 (by decide)) 100 rfl (by decide +kernel) (by decide) rfl (by decide) (by decide) (by rw [By_len, By_len]) (Tryd.sizeH _) (By_one _) ?_ ?_
  · refine AllFrom.cons ?_ (AllFrom.cons ?_ (AllFrom.cons ?_ (AllFrom.cons ?_ (AllFrom.cons ?_ (AllFrom.cons ?_ (AllFrom.cons ?_ (AllFrom.cons ?_ (AllFrom.cons ?_ (AllFrom.cons ?_ (AllFrom.cons ?_ (AllFrom.cons ?_ (AllFrom.cons ?_ AllFrom.nil))))))))))))
    · refine OwesR.val rfl rfl (fun a' w' hg hz9 hk hd Q => ?_)
      have e7 : a'.eval (.tmp 7) = PT p := hk.at 7 (by decide +kernel)
      exact wp_valueR (Tch.ok N) (S := fun _ v_ => v_ = PT p) _ (by simp only [execOp, e7]; rfl) rfl
    · refine OwesR.val rfl rfl (fun a' w' hg hz9 hk hd Q => ?_)
      have e41 : a'.eval (.tmp 41) = PT p := hd 0 41 (by decide +kernel) (by decide)
      refine wp_callR (S := fun _ v_ => v_ = HV rt) 22 _ (run_enter 22 _ _ rfl (by kernel_rfl)) ?_
      simp only [List.map_toArray, List.map_nil, List.map_cons, e41]
      refine (tRoot_m HRT.out h2 (T1.out.tch hg) (TT.out.tch hg h2 GG.out) (Nat.le_trans GG.out hg.size)).mono ?_
      rintro e w5 ⟨rfl, hb5⟩
      exact ⟨_, rfl, rfl, hb5⟩
    · refine OwesR.val rfl rfl (fun a' w' hg hz9 hk hd Q => ?_)
      have e5 : a'.eval (.tmp 5) = .pointer (some ⟨N + 1, 0, none⟩) := hk.at 5 (by decide +kernel)
      exact wp_load_rowR (Tch.ok N) (S := fun _ v_ => v_ = HV k) 24 _ rfl _ _ e5 (By (k).1) _ (hg.blk KK.out (by decide)).range0 Tryd.underlying24 rfl (Tryd.sizeH _) rfl
    · refine OwesR.val rfl rfl (fun a' w' hg hz9 hk hd Q => ?_)
      have e9 : a'.eval (.tmp 9) = .pointer (some ⟨D, 0, none⟩) := hk.at 9 (by decide +kernel)
      exact wp_load_rowR (Tch.ok N) (S := fun _ v_ => v_ = .agg (PrC (.slice pa9 pl pc9) pr).toArray) 39 _ rfl _ _ e9 (PrC (.slice pa9 pl pc9) pr) _ (hg.blk PP.out (by decide)).range0 Tryd.underlying39 rfl (Tryd.sizePr _ _) rfl
    · refine OwesR.val rfl rfl (fun a' w' hg hz9 hk hd Q => ?_)
      have e42 : a'.eval (.tmp 42) = HV rt := hd 1 42 (by decide +kernel) (by decide)
      have e43 : a'.eval (.tmp 43) = HV k := hd 2 43 (by decide +kernel) (by decide)
      have e44 : a'.eval (.tmp 44) = .agg (PrC (.slice pa9 pl pc9) pr).toArray := hd 3 44 (by decide +kernel) (by decide)
      refine wp_callR (S := fun _ v_ => v_ = .tuple #[.agg (By v1.1).toArray, .bool hh1, .bool true]) 18 _ (run_enter 18 _ _ rfl (by kernel_rfl)) ?_
      simp only [List.map_toArray, List.map_nil, List.map_cons, e42, e43, e44]
      refine (bCheck_m HCK.out (OO.out.tch hg (by decide)).rd HPL.out (TT.out.tch hg h2 GG.out)).mono ?_
      rintro e w5 ⟨rfl, hb5⟩
      exact ⟨_, rfl, rfl, .of_below hb5⟩
    · refine OwesR.val rfl rfl (fun a' w' hg hz9 hk hd Q => ?_)
      have e45 : a'.eval (.tmp 45) = .tuple #[.agg (By v1.1).toArray, .bool hh1, .bool true] := hd 4 45 (by decide +kernel) (by decide)
      exact wp_valueR (Tch.ok N) (S := fun _ v_ => v_ = .tuple #[.agg (By v1.1).toArray, .bool hh1, .bool true]) _ (by simp only [execOp, e45]; rfl) rfl
    · refine OwesR.val rfl rfl (fun a' w' hg hz9 hk hd Q => ?_)
      have e40 : a'.eval (.tmp 40) = .tuple #[.agg (By v1.1).toArray, .bool hh1, .bool true] := hd 5 40 (by decide +kernel) (by decide)
      clear hd hk
      exact wp_valueR (Tch.ok N) (S := fun _ v_ => v_ = .agg (By v1.1).toArray) _ (by simp only [execOp, e40]; go_simp) rfl
    · refine OwesR.val rfl rfl (fun a' w' hg hz9 hk hd Q => ?_)
      have e40 : a'.eval (.tmp 40) = .tuple #[.agg (By v1.1).toArray, .bool hh1, .bool true] := hd 5 40 (by decide +kernel) (by decide)
      clear hd hk
      exact wp_valueR (Tch.ok N) (S := fun _ v_ => v_ = .bool hh1) _ (by simp only [execOp, e40]; go_simp) rfl
    · refine OwesR.val rfl rfl (fun a' w' hg hz9 hk hd Q => ?_)
      have e40 : a'.eval (.tmp 40) = .tuple #[.agg (By v1.1).toArray, .bool hh1, .bool true] := hd 5 40 (by decide +kernel) (by decide)
      clear hd hk
      exact wp_valueR (Tch.ok N) (S := fun _ v_ => v_ = .bool true) _ (by simp only [execOp, e40]; go_simp) rfl
    · exact OwesR.new rfl rfl rfl (fun a' w' => by simp only [execOp]; go_simp; rfl)
    · refine OwesR.put rfl rfl rfl (by decide +kernel) (.tmp 46) rfl (fun a' w' hg hk hd => ?_)
      have e46 : a'.eval (.tmp 46) = .agg (By v1.1).toArray := hd 6 46 (by decide +kernel) (by decide)
      exact e46
    · refine OwesR.val rfl rfl (fun a' w' hg hz9 hk hd Q => ?_)
      have e47 : a'.eval (.tmp 47) = .bool hh1 := hd 7 47 (by decide +kernel) (by decide)
      exact wp_valueR (Tch.ok N) (S := fun _ v_ => v_ = .bool hh1) _ (by simp only [execOp, e47]; rfl) rfl
    · refine OwesR.val rfl rfl (fun a' w' hg hz9 hk hd Q => ?_)
      have e48 : a'.eval (.tmp 48) = .bool true := hd 8 48 (by decide +kernel) (by decide)
      exact wp_valueR (Tch.ok N) (S := fun _ v_ => v_ = .bool true) _ (by simp only [execOp, e48]; rfl) rfl
  · intro a' w6 E1 hsz hdf hk hall ht e11 hE1 hB6
    have e41 : a'.eval (.tmp 41) = PT p := hall 0 _ 41 rfl (by decide) rfl
    have e42 : a'.eval (.tmp 42) = HV rt := hall 1 _ 42 rfl (by decide) rfl
    have e43 : a'.eval (.tmp 43) = HV k := hall 2 _ 43 rfl (by decide) rfl
    have e44 : a'.eval (.tmp 44) = .agg (PrC (.slice pa9 pl pc9) pr).toArray := hall 3 _ 44 rfl (by decide) rfl
    have e45 : a'.eval (.tmp 45) = .tuple #[.agg (By v1.1).toArray, .bool hh1, .bool true] := hall 4 _ 45 rfl (by decide) rfl
    have e40 : a'.eval (.tmp 40) = .tuple #[.agg (By v1.1).toArray, .bool hh1, .bool true] := hall 5 _ 40 rfl (by decide) rfl
    have e46 : a'.eval (.tmp 46) = .agg (By v1.1).toArray := hall 6 _ 46 rfl (by decide) rfl
    have e47 : a'.eval (.tmp 47) = .bool hh1 := hall 7 _ 47 rfl (by decide) rfl
    have e48 : a'.eval (.tmp 48) = .bool true := hall 8 _ 48 rfl (by decide) rfl
    have e12 : a'.eval (.tmp 12) = .bool hh1 := hall 11 _ 12 rfl (by decide) rfl
    have e13 : a'.eval (.tmp 13) = .bool true := hall 12 _ 13 rfl (by decide) rfl
    have ha := act_puts 100 rfl hsz hdf hk [41, 42, 43, 44, 45, 40, 46, 47, 48, 11, 12, 13] (by decide +kernel)
    simp only [puts, List.foldl_cons, List.foldl_nil, e41, e42, e43, e44, e45, e40, e46, e47, e48, e11, e12, e13] at ha
    simp only [Act.put, List.setIfInBounds_toArray, List.set_cons_succ, List.set_cons_zero] at ha
    clear hall hk hsz hdf e41 e42 e43 e44 e45 e40 e46 e47 e48 e11 e12 e13
    subst ha
    have XX_ := hide (ht.blk XX.out (by decide))
    have KK_ := hide (ht.blk KK.out (by decide))
    have TT_ := hide (TT.out.tch ht h2 GG.out)
    have RR_ := hide (RR.out.tchLow ht GG.out HLOW.out)
    have T1_ := hide (T1.out.tch ht)
    have OO_ := hide (OO.out.tch ht (by decide))
    have PP_ := hide (ht.blk PP.out (by decide))
    have T2_ := hide (T2.out.tch ht)
    have LL_ : Hid (Below N w _) := (show _ from LL.out.trans (ht.below GG.out))
    have GG_ : Hid (N ≤ _) := (show _ ≤ _ from Nat.le_trans GG.out ht.size)
    clear ht XX KK TT RR T1 OO PP T2 LL GG
    have XX := XX_
    have KK := KK_
    have TT := TT_
    have RR := RR_
    have T1 := T1_
    have OO := OO_
    have PP := PP_
    have T2 := T2_
    have LL := LL_
    have GG := GG_
    clear XX_ KK_ TT_ RR_ T1_ OO_ PP_ T2_ LL_ GG_
    have V1 := hide hB6
    clear hB6 hE1
    go_upto_region 8 with (first
      | (refine wpList_load_mid rfl 24 _ rfl (N + 1) 0 rfl (By (k).1) _ (KK.out.range0) Tryd.underlying24 rfl (Tryd.sizeH (k)) ?_)
      | (go_at_call 23; refine (tGet_m HV1.out HH1.out T1.out).mono ?_; rintro e w9 ⟨rfl, hb9⟩; have XX_ := hide (XX.out.kept hb9); have KK_ := hide (KK.out.kept hb9); have TT_ := hide (TT.out.gr hb9); have RR_ := hide (RR.out.kept hb9); have T1_ := hide (T1.out.kept hb9); have OO_ := hide (OO.out.kept hb9); have PP_ := hide (PP.out.kept hb9); have T2_ := hide (T2.out.kept hb9); have V1_ := hide (V1.out.kept hb9); have LL_ : Hid (Below N w _) := (show _ from LL.out.trans (hb9.mono GG.out)); have GG_ : Hid (N ≤ _) := (show _ ≤ _ from Nat.le_trans GG.out hb9.size); clear hb9 XX KK TT RR T1 OO PP T2 V1 LL GG; have XX := XX_; have KK := KK_; have TT := TT_; have RR := RR_; have T1 := T1_; have OO := OO_; have PP := PP_; have T2 := T2_; have V1 := V1_; have LL := LL_; have GG := GG_; clear XX_ KK_ TT_ RR_ T1_ OO_ PP_ T2_ V1_ LL_ GG_; obtain ⟨E2, HM⟩ : ∃ z, Hid (w9.heap.size = z) := ⟨_, rfl⟩)
      | (rw [HM.out]; refine wpList_store_blk rfl 24 _ _ rfl E2 (By zh.1) (By (v1).1) 24 rfl rfl (by rw [← HM.out]; exact Blk.new _ 24 (By zh.1)) (by rw [By_len, By_len]) (Tryd.sizeH (v1)) (By_one _) ?_; intro w9 hbk9 hu9; have hb9 := room_below HM.out hu9; have XX_ := hide (XX.out.kept hb9); have KK_ := hide (KK.out.kept hb9); have TT_ := hide (TT.out.gr hb9); have RR_ := hide (RR.out.kept hb9); have T1_ := hide (T1.out.kept hb9); have OO_ := hide (OO.out.kept hb9); have PP_ := hide (PP.out.kept hb9); have T2_ := hide (T2.out.kept hb9); have V1_ := hide (V1.out.kept hb9); have LL_ : Hid (Below N w _) := (show _ from LL.out.trans (hb9.mono GG.out)); have GG_ : Hid (N ≤ _) := (show _ ≤ _ from Nat.le_trans GG.out hb9.size); clear hb9 XX KK TT RR T1 OO PP T2 V1 LL GG; have XX := XX_; have KK := KK_; have TT := TT_; have RR := RR_; have T1 := T1_; have OO := OO_; have PP := PP_; have T2 := T2_; have V1 := V1_; have LL := LL_; have GG := GG_; clear XX_ KK_ TT_ RR_ T1_ OO_ PP_ T2_ V1_ LL_ GG_; have V2 := hide hbk9; clear hbk9 hu9 HM)
      | fail)
    go_upto_region 9 with (first
      | (refine wpList_load_mid rfl 24 _ rfl (N + 1) 0 rfl (By (k).1) _ (KK.out.range0) Tryd.underlying24 rfl (Tryd.sizeH (k)) ?_)
      | (go_at_call 23; refine (tGet_m HV2.out HH2.out T2.out).mono ?_; rintro e w9 ⟨rfl, hb9⟩; have XX_ := hide (XX.out.kept hb9); have KK_ := hide (KK.out.kept hb9); have TT_ := hide (TT.out.gr hb9); have RR_ := hide (RR.out.kept hb9); have T1_ := hide (T1.out.kept hb9); have OO_ := hide (OO.out.kept hb9); have PP_ := hide (PP.out.kept hb9); have T2_ := hide (T2.out.kept hb9); have V1_ := hide (V1.out.kept hb9); have V2_ := hide (V2.out.kept hb9); have LL_ : Hid (Below N w _) := (show _ from LL.out.trans (hb9.mono GG.out)); have GG_ : Hid (N ≤ _) := (show _ ≤ _ from Nat.le_trans GG.out hb9.size); clear hb9 XX KK TT RR T1 OO PP T2 V1 V2 LL GG; have XX := XX_; have KK := KK_; have TT := TT_; have RR := RR_; have T1 := T1_; have OO := OO_; have PP := PP_; have T2 := T2_; have V1 := V1_; have V2 := V2_; have LL := LL_; have GG := GG_; clear XX_ KK_ TT_ RR_ T1_ OO_ PP_ T2_ V1_ V2_ LL_ GG_; obtain ⟨E3, HM⟩ : ∃ z, Hid (w9.heap.size = z) := ⟨_, rfl⟩)
      | (rw [HM.out]; refine wpList_store_blk rfl 24 _ _ rfl E3 (By zh.1) (By (v2).1) 24 rfl rfl (by rw [← HM.out]; exact Blk.new _ 24 (By zh.1)) (by rw [By_len, By_len]) (Tryd.sizeH (v2)) (By_one _) ?_; intro w9 hbk9 hu9; have hb9 := room_below HM.out hu9; have XX_ := hide (XX.out.kept hb9); have KK_ := hide (KK.out.kept hb9); have TT_ := hide (TT.out.gr hb9); have RR_ := hide (RR.out.kept hb9); have T1_ := hide (T1.out.kept hb9); have OO_ := hide (OO.out.kept hb9); have PP_ := hide (PP.out.kept hb9); have T2_ := hide (T2.out.kept hb9); have V1_ := hide (V1.out.kept hb9); have V2_ := hide (V2.out.kept hb9); have LL_ : Hid (Below N w _) := (show _ from LL.out.trans (hb9.mono GG.out)); have GG_ : Hid (N ≤ _) := (show _ ≤ _ from Nat.le_trans GG.out hb9.size); clear hb9 XX KK TT RR T1 OO PP T2 V1 V2 LL GG; have XX := XX_; have KK := KK_; have TT := TT_; have RR := RR_; have T1 := T1_; have OO := OO_; have PP := PP_; have T2 := T2_; have V1 := V1_; have V2 := V2_; have LL := LL_; have GG := GG_; clear XX_ KK_ TT_ RR_ T1_ OO_ PP_ T2_ V1_ V2_ LL_ GG_; have V3 := hide hbk9; clear hbk9 hu9 HM)
      | fail)
    go_upto_region 10 with (first
      | (refine wpList_load_mid rfl 24 _ rfl (N + 1) 0 rfl (By (k).1) _ (KK.out.range0) Tryd.underlying24 rfl (Tryd.sizeH (k)) ?_)
      | (go_at_call 13; refine (bProve_m (B := N) HPR2.out HPLE2.out T2.out HML2.out TT.out GG.out).mono ?_; rintro e w9 ⟨pa8, pc8, rfl, o9, hb9⟩; have XX_ := hide (XX.out.kept hb9); have KK_ := hide (KK.out.kept hb9); have TT_ := hide (TT.out.gr hb9); have RR_ := hide (RR.out.kept hb9); have T1_ := hide (T1.out.kept hb9); have OO_ := hide (OO.out.kept hb9); have PP_ := hide (PP.out.kept hb9); have T2_ := hide (T2.out.kept hb9); have V1_ := hide (V1.out.kept hb9); have V2_ := hide (V2.out.kept hb9); have V3_ := hide (V3.out.kept hb9); have LL_ : Hid (Below N w _) := (show _ from LL.out.trans (hb9.mono GG.out)); have GG_ : Hid (N ≤ _) := (show _ ≤ _ from Nat.le_trans GG.out hb9.size); clear hb9 XX KK TT RR T1 OO PP T2 V1 V2 V3 LL GG; have XX := XX_; have KK := KK_; have TT := TT_; have RR := RR_; have T1 := T1_; have OO := OO_; have PP := PP_; have T2 := T2_; have V1 := V1_; have V2 := V2_; have V3 := V3_; have LL := LL_; have GG := GG_; clear XX_ KK_ TT_ RR_ T1_ OO_ PP_ T2_ V1_ V2_ V3_ LL_ GG_; have O2 := hide o9; clear o9; obtain ⟨D2, HM⟩ : ∃ z, Hid (w9.heap.size = z) := ⟨_, rfl⟩)
      | (rw [HM.out]; refine wpList_store_blk rfl 39 _ _ rfl D2 (PrC (.slice none 0 0) zp) (PrC (.slice pa8 pl2 pc8) pr2) 39 rfl rfl (by rw [← HM.out]; exact Blk.new _ 39 (PrC (.slice none 0 0) zp)) (by rw [PrC_len, PrC_len]) (Tryd.sizePr _ _) (PrC_one _) ?_; intro w9 hbk9 hu9; have hb9 := roomP_below HM.out hu9; have XX_ := hide (XX.out.kept hb9); have KK_ := hide (KK.out.kept hb9); have TT_ := hide (TT.out.gr hb9); have RR_ := hide (RR.out.kept hb9); have T1_ := hide (T1.out.kept hb9); have OO_ := hide (OO.out.kept hb9); have PP_ := hide (PP.out.kept hb9); have T2_ := hide (T2.out.kept hb9); have V1_ := hide (V1.out.kept hb9); have V2_ := hide (V2.out.kept hb9); have V3_ := hide (V3.out.kept hb9); have O2_ := hide (O2.out.kept hb9); have LL_ : Hid (Below N w _) := (show _ from LL.out.trans (hb9.mono GG.out)); have GG_ : Hid (N ≤ _) := (show _ ≤ _ from Nat.le_trans GG.out hb9.size); clear hb9 XX KK TT RR T1 OO PP T2 V1 V2 V3 O2 LL GG; have XX := XX_; have KK := KK_; have TT := TT_; have RR := RR_; have T1 := T1_; have OO := OO_; have PP := PP_; have T2 := T2_; have V1 := V1_; have V2 := V2_; have V3 := V3_; have O2 := O2_; have LL := LL_; have GG := GG_; clear XX_ KK_ TT_ RR_ T1_ OO_ PP_ T2_ V1_ V2_ V3_ O2_ LL_ GG_; have P2 := hide hbk9; clear hbk9 hu9 HM)
      | fail)
    refine wp_region_cellR Tryd.mixed (Tch N) (Tch.ok N) (fun _ _ h => h.size) (fun i_ => match i_ with | 0 => PT p2 | 1 => HV rt2 | 2 => HV k | 3 => .agg (PrC (.slice pa8 pl2 pc8) pr2).toArray | 4 | 5 => .tuple #[.agg (By v2.1).toArray, .bool hh2, .bool true] | 6 => .agg (By v2.1).toArray | 7 | 11 => .bool hh2 | 8 | 12 => .bool true | _ => undef) 9 19 10 24 (By zh.1) (By (v2).1) (fun _ _ _ h1 h2 h3 => h1.but h2 h3) (fun _ _ _ _ h1 h2 => h1.blk h2 (by decide)) 100 rfl (by decide +kernel) (by decide) rfl (by decide) (by decide) (by rw [By_len, By_len]) (Tryd.sizeH _) (By_one _) ?_ ?_
    · refine AllFrom.cons ?_ (AllFrom.cons ?_ (AllFrom.cons ?_ (AllFrom.cons ?_ (AllFrom.cons ?_ (AllFrom.cons ?_ (AllFrom.cons ?_ (AllFrom.cons ?_ (AllFrom.cons ?_ (AllFrom.cons ?_ (AllFrom.cons ?_ (AllFrom.cons ?_ (AllFrom.cons ?_ AllFrom.nil))))))))))))
      · refine OwesR.val rfl rfl (fun a' w' hg hz9 hk hd Q => ?_)
        have e10 : a'.eval (.tmp 10) = PT p2 := hk.at 10 (by decide +kernel)
        exact wp_valueR (Tch.ok N) (S := fun _ v_ => v_ = PT p2) _ (by simp only [execOp, e10]; rfl) rfl
      · refine OwesR.val rfl rfl (fun a' w' hg hz9 hk hd Q => ?_)
        have e65 : a'.eval (.tmp 65) = PT p2 := hd 0 65 (by decide +kernel) (by decide)
        refine wp_callR (S := fun _ v_ => v_ = HV rt2) 22 _ (run_enter 22 _ _ rfl (by kernel_rfl)) ?_
        simp only [List.map_toArray, List.map_nil, List.map_cons, e65]
        refine (tRoot_m HRT2.out h2 (T2.out.tch hg) (TT.out.tch hg h2 GG.out) (Nat.le_trans GG.out hg.size)).mono ?_
        rintro e w5 ⟨rfl, hb5⟩
        exact ⟨_, rfl, rfl, hb5⟩
      · refine OwesR.val rfl rfl (fun a' w' hg hz9 hk hd Q => ?_)
        have e5 : a'.eval (.tmp 5) = .pointer (some ⟨N + 1, 0, none⟩) := hk.at 5 (by decide +kernel)
        exact wp_load_rowR (Tch.ok N) (S := fun _ v_ => v_ = HV k) 24 _ rfl _ _ e5 (By (k).1) _ (hg.blk KK.out (by decide)).range0 Tryd.underlying24 rfl (Tryd.sizeH _) rfl
      · refine OwesR.val rfl rfl (fun a' w' hg hz9 hk hd Q => ?_)
        have e18 : a'.eval (.tmp 18) = .pointer (some ⟨D2, 0, none⟩) := hk.at 18 (by decide +kernel)
        exact wp_load_rowR (Tch.ok N) (S := fun _ v_ => v_ = .agg (PrC (.slice pa8 pl2 pc8) pr2).toArray) 39 _ rfl _ _ e18 (PrC (.slice pa8 pl2 pc8) pr2) _ (hg.blk P2.out (by decide)).range0 Tryd.underlying39 rfl (Tryd.sizePr _ _) rfl
      · refine OwesR.val rfl rfl (fun a' w' hg hz9 hk hd Q => ?_)
        have e66 : a'.eval (.tmp 66) = HV rt2 := hd 1 66 (by decide +kernel) (by decide)
        have e67 : a'.eval (.tmp 67) = HV k := hd 2 67 (by decide +kernel) (by decide)
        have e68 : a'.eval (.tmp 68) = .agg (PrC (.slice pa8 pl2 pc8) pr2).toArray := hd 3 68 (by decide +kernel) (by decide)
        refine wp_callR (S := fun _ v_ => v_ = .tuple #[.agg (By v2.1).toArray, .bool hh2, .bool true]) 18 _ (run_enter 18 _ _ rfl (by kernel_rfl)) ?_
        simp only [List.map_toArray, List.map_nil, List.map_cons, e66, e67, e68]
        refine (bCheck_m HCK2.out (O2.out.tch hg (by decide)).rd HPL2.out (TT.out.tch hg h2 GG.out)).mono ?_
        rintro e w5 ⟨rfl, hb5⟩
        exact ⟨_, rfl, rfl, .of_below hb5⟩
      · refine OwesR.val rfl rfl (fun a' w' hg hz9 hk hd Q => ?_)
        have e69 : a'.eval (.tmp 69) = .tuple #[.agg (By v2.1).toArray, .bool hh2, .bool true] := hd 4 69 (by decide +kernel) (by decide)
        exact wp_valueR (Tch.ok N) (S := fun _ v_ => v_ = .tuple #[.agg (By v2.1).toArray, .bool hh2, .bool true]) _ (by simp only [execOp, e69]; rfl) rfl
      · refine OwesR.val rfl rfl (fun a' w' hg hz9 hk hd Q => ?_)
        have e64 : a'.eval (.tmp 64) = .tuple #[.agg (By v2.1).toArray, .bool hh2, .bool true] := hd 5 64 (by decide +kernel) (by decide)
        clear hd hk
        exact wp_valueR (Tch.ok N) (S := fun _ v_ => v_ = .agg (By v2.1).toArray) _ (by simp only [execOp, e64]; go_simp) rfl
      · refine OwesR.val rfl rfl (fun a' w' hg hz9 hk hd Q => ?_)
        have e64 : a'.eval (.tmp 64) = .tuple #[.agg (By v2.1).toArray, .bool hh2, .bool true] := hd 5 64 (by decide +kernel) (by decide)
        clear hd hk
        exact wp_valueR (Tch.ok N) (S := fun _ v_ => v_ = .bool hh2) _ (by simp only [execOp, e64]; go_simp) rfl
      · refine OwesR.val rfl rfl (fun a' w' hg hz9 hk hd Q => ?_)
        have e64 : a'.eval (.tmp 64) = .tuple #[.agg (By v2.1).toArray, .bool hh2, .bool true] := hd 5 64 (by decide +kernel) (by decide)
        clear hd hk
        exact wp_valueR (Tch.ok N) (S := fun _ v_ => v_ = .bool true) _ (by simp only [execOp, e64]; go_simp) rfl
      · exact OwesR.new rfl rfl rfl (fun a' w' => by simp only [execOp]; go_simp; rfl)
      · refine OwesR.put rfl rfl rfl (by decide +kernel) (.tmp 70) rfl (fun a' w' hg hk hd => ?_)
        have e70 : a'.eval (.tmp 70) = .agg (By v2.1).toArray := hd 6 70 (by decide +kernel) (by decide)
        exact e70
      · refine OwesR.val rfl rfl (fun a' w' hg hz9 hk hd Q => ?_)
        have e71 : a'.eval (.tmp 71) = .bool hh2 := hd 7 71 (by decide +kernel) (by decide)
        exact wp_valueR (Tch.ok N) (S := fun _ v_ => v_ = .bool hh2) _ (by simp only [execOp, e71]; rfl) rfl
      · refine OwesR.val rfl rfl (fun a' w' hg hz9 hk hd Q => ?_)
        have e72 : a'.eval (.tmp 72) = .bool true := hd 8 72 (by decide +kernel) (by decide)
        exact wp_valueR (Tch.ok N) (S := fun _ v_ => v_ = .bool true) _ (by simp only [execOp, e72]; rfl) rfl
    · intro a' w6 E4 hsz hdf hk hall ht e19 hE4 hB6
      have e65 : a'.eval (.tmp 65) = PT p2 := hall 0 _ 65 rfl (by decide) rfl
      have e66 : a'.eval (.tmp 66) = HV rt2 := hall 1 _ 66 rfl (by decide) rfl
      have e67 : a'.eval (.tmp 67) = HV k := hall 2 _ 67 rfl (by decide) rfl
      have e68 : a'.eval (.tmp 68) = .agg (PrC (.slice pa8 pl2 pc8) pr2).toArray := hall 3 _ 68 rfl (by decide) rfl
      have e69 : a'.eval (.tmp 69) = .tuple #[.agg (By v2.1).toArray, .bool hh2, .bool true] := hall 4 _ 69 rfl (by decide) rfl
      have e64 : a'.eval (.tmp 64) = .tuple #[.agg (By v2.1).toArray, .bool hh2, .bool true] := hall 5 _ 64 rfl (by decide) rfl
      have e70 : a'.eval (.tmp 70) = .agg (By v2.1).toArray := hall 6 _ 70 rfl (by decide) rfl
      have e71 : a'.eval (.tmp 71) = .bool hh2 := hall 7 _ 71 rfl (by decide) rfl
      have e72 : a'.eval (.tmp 72) = .bool true := hall 8 _ 72 rfl (by decide) rfl
      have e20 : a'.eval (.tmp 20) = .bool hh2 := hall 11 _ 20 rfl (by decide) rfl
      have e21 : a'.eval (.tmp 21) = .bool true := hall 12 _ 21 rfl (by decide) rfl
      have ha := act_puts 100 rfl hsz hdf hk [65, 66, 67, 68, 69, 64, 70, 71, 72, 19, 20, 21] (by decide +kernel)
      simp only [puts, List.foldl_cons, List.foldl_nil, e65, e66, e67, e68, e69, e64, e70, e71, e72, e19, e20, e21] at ha
      simp only [Act.put, List.setIfInBounds_toArray, List.set_cons_succ, List.set_cons_zero] at ha
      clear hall hk hsz hdf e65 e66 e67 e68 e69 e64 e70 e71 e72 e19 e20 e21
      subst ha
      have XX_ := hide (ht.blk XX.out (by decide))
      have KK_ := hide (ht.blk KK.out (by decide))
      have TT_ := hide (TT.out.tch ht h2 GG.out)
      have RR_ := hide (RR.out.tchLow ht GG.out HLOW.out)
      have T1_ := hide (T1.out.tch ht)
      have OO_ := hide (OO.out.tch ht (by decide))
      have PP_ := hide (ht.blk PP.out (by decide))
      have T2_ := hide (T2.out.tch ht)
      have V1_ := hide (ht.blk V1.out (by decide))
      have V2_ := hide (ht.blk V2.out (by decide))
      have V3_ := hide (ht.blk V3.out (by decide))
      have O2_ := hide (O2.out.tch ht (by decide))
      have P2_ := hide (ht.blk P2.out (by decide))
      have LL_ : Hid (Below N w _) := (show _ from LL.out.trans (ht.below GG.out))
      have GG_ : Hid (N ≤ _) := (show _ ≤ _ from Nat.le_trans GG.out ht.size)
      clear ht XX KK TT RR T1 OO PP T2 V1 V2 V3 O2 P2 LL GG
      have XX := XX_
      have KK := KK_
      have TT := TT_
      have RR := RR_
      have T1 := T1_
      have OO := OO_
      have PP := PP_
      have T2 := T2_
      have V1 := V1_
      have V2 := V2_
      have V3 := V3_
      have O2 := O2_
      have P2 := P2_
      have LL := LL_
      have GG := GG_
      clear XX_ KK_ TT_ RR_ T1_ OO_ PP_ T2_ V1_ V2_ V3_ O2_ P2_ LL_ GG_
      have V4 := hide hB6
      clear hB6 hE4
      have hq1 := eqAA v1
      have hq2 : (hh1 == hh1) = true := by simp
      have hq3 := eqAA v2
      have hq4 : (hh2 == hh2) = true := by simp
      go_wp2_with (first
        | (refine wpList_load_w9 rfl 24 _ rfl (E1) 0 rfl (By (v1).1) _ (V1.out.range0) Tryd.underlying24 rfl (Tryd.sizeH (v1)) ?_)
        | (refine wpList_load_w9 rfl 24 _ rfl (E2) 0 rfl (By (v1).1) _ (V2.out.range0) Tryd.underlying24 rfl (Tryd.sizeH (v1)) ?_)
        | (refine wpList_load_w9 rfl 24 _ rfl (E4) 0 rfl (By (v2).1) _ (V4.out.range0) Tryd.underlying24 rfl (Tryd.sizeH (v2)) ?_)
        | (refine wpList_load_w9 rfl 24 _ rfl (E3) 0 rfl (By (v2).1) _ (V3.out.range0) Tryd.underlying24 rfl (Tryd.sizeH (v2)) ?_)
        | (go_at_call 9; refine (ilives_any _ TT.out).mono ?_; rintro e w9 ⟨rfl, hb9⟩; have XX_ := hide (XX.out.kept hb9); have KK_ := hide (KK.out.kept hb9); have TT_ := hide (TT.out.gr hb9); have RR_ := hide (RR.out.kept hb9); have T1_ := hide (T1.out.kept hb9); have OO_ := hide (OO.out.kept hb9); have PP_ := hide (PP.out.kept hb9); have T2_ := hide (T2.out.kept hb9); have V1_ := hide (V1.out.kept hb9); have V2_ := hide (V2.out.kept hb9); have V3_ := hide (V3.out.kept hb9); have O2_ := hide (O2.out.kept hb9); have P2_ := hide (P2.out.kept hb9); have V4_ := hide (V4.out.kept hb9); have LL_ : Hid (Below N w _) := (show _ from LL.out.trans (hb9.mono GG.out)); have GG_ : Hid (N ≤ _) := (show _ ≤ _ from Nat.le_trans GG.out hb9.size); clear hb9 XX KK TT RR T1 OO PP T2 V1 V2 V3 O2 P2 V4 LL GG; have XX := XX_; have KK := KK_; have TT := TT_; have RR := RR_; have T1 := T1_; have OO := OO_; have PP := PP_; have T2 := T2_; have V1 := V1_; have V2 := V2_; have V3 := V3_; have O2 := O2_; have P2 := P2_; have V4 := V4_; have LL := LL_; have GG := GG_; clear XX_ KK_ TT_ RR_ T1_ OO_ PP_ T2_ V1_ V2_ V3_ O2_ P2_ V4_ LL_ GG_)
        | fail)
      go_ret
      exact ⟨rfl, LL.out⟩
#print axioms memberChanges_any
end Go.Proofs.YtooffljimdklfaaDoor
