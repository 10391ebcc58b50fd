/-
  The law MemberChecks: the call returns true.
-/
import Derived.Test.YtooffljimdklfaaDoorLawX12
namespace Go.Proofs.YtooffljimdklfaaDoor
open Go.RowKit
set_option maxHeartbeats 8000000 in
set_option maxRecDepth 100000 in
theorem memberChecks_any (r k : Hs) (q : Pr) (v : Value) (w : World) (hT : Tabs w) (hr : RdG SE w v q.1) : Calls Tryd.prog 4 #[HV r, HV k, .agg (PrC v q).toArray] w fun e w' => e = .returned (.bool true) ∧ Below w.heap.size w w' := by
  obtain ⟨N, HN⟩ : ∃ N, Hid (w.heap.size = N) := ⟨_, rfl⟩
  have h2 : 2 ≤ N := by rw [← HN.out]; exact hT.size
  have HT := hide hT
  have HR := hide hr
  obtain ⟨a, cp, rfl⟩ := hr.slice
  have hcap := hr.cap'
  clear hT hr
  obtain ⟨n, HNL⟩ : ∃ n, Hid (q.1.length = n) := ⟨_, rfl⟩
  rw [HNL.out] at HR hcap ⊢
  rw [HN.out]
  go_enter Tryd.func4, Tryd.ntmps4
  unfold HV
  go_upto_region 1 with fail
  obtain ⟨w1, hw1⟩ : ∃ z, z = ((w.alloc (.cells (By r.1).toArray 24 (0, 0))).alloc (.cells (By k.1).toArray 24 (0, 0))).alloc (.cells (PrC (.slice a n cp) q).toArray 39 (0, 0)) := ⟨_, rfl⟩
  change Code.wp _ _ _ _ (((w.alloc (.cells (By r.1).toArray 24 (0, 0))).alloc (.cells (By k.1).toArray 24 (0, 0))).alloc (.cells (PrC (.slice a n cp) q).toArray 39 (0, 0)))
  rw [← hw1, HN.out]
  obtain ⟨b0, b1, b2, lb, -⟩ := box3 HN hw1
  have K0 := hide b0
  have K1 := hide b1
  have PP := hide b2
  have LL := hide lb
  have c0 := PrC.steps b2
  clear hw1 b0 b1 b2 lb
  have GG : Hid (N ≤ w1.heap.size) := (show _ ≤ _ from Nat.le_of_lt K0.out.lt)
  have TT := hide (HT.out.kept (LL.out.mono h2))
  have RR := hide (HR.out.kept (LL.out.mono (Nat.le_of_eq HN.out)))
  by_cases hn : 300 < n
  · have q1 : (300 : Int) < (n : Int) := by omega
    go_wp2_with (first
      | (go_at_call 9; refine (ilives_any _ TT.out).mono ?_; rintro e w9 ⟨rfl, hb9⟩; have TT_ := hide (TT.out.gr hb9); have LL_ : Hid (Below N w _) := (show _ from LL.out.trans (hb9.mono GG.out)); have GG_ : Hid (N ≤ _) := (show _ ≤ _ from Nat.le_trans GG.out hb9.size); clear hb9 TT LL GG; have TT := TT_; have LL := LL_; have GG := GG_; clear TT_ LL_ GG_)
      | fail)
    go_ret
    exact ⟨rfl, LL.out⟩
  have q1 : ¬ (300 : Int) < (n : Int) := by omega
  have HN6 : Hid (n ≤ 1000000) := (show _ ≤ _ by omega)
  have HQL : Hid (q.1.length ≤ 1000000) := (show _ ≤ _ by rw [HNL.out]; omega)
  obtain ⟨⟨h, ok⟩, HCL⟩ : ∃ z, Hid (climbP k q = z) := ⟨_, rfl⟩
  obtain ⟨⟨v1, hs1, my1⟩, HC1⟩ : ∃ z, Hid (checkP r k q = z) := ⟨_, rfl⟩
  obtain ⟨⟨v2, hs2, my2⟩, HC2⟩ : ∃ z, Hid (checkP h k q = z) := ⟨_, rfl⟩
  obtain ⟨g, HGD⟩ : ∃ z, Hid (goodP q = z) := ⟨_, rfl⟩
  go_upto_region 4 with (first
    | (refine wpList_load_mid rfl 39 _ rfl (N + 2) 0 rfl (PrC (.slice a n cp) q) _ PP.out.range0 Tryd.underlying39 rfl (Tryd.sizePr _ _) ?_)
    | (go_at_call 12; refine (plain_m (B := N) HNL.out RR.out HN6.out GG.out).mono ?_; rintro e w9 ⟨pa9, pc9, rfl, o9, hb9⟩; have K0_ := hide (K0.out.kept hb9); have K1_ := hide (K1.out.kept hb9); have PP_ := hide (PP.out.kept hb9); have TT_ := hide (TT.out.gr hb9); have RR_ := hide (RR.out.kept hb9); have LL_ : Hid (Below N w _) := (show _ from LL.out.trans (hb9.mono GG.out)); have GG_ : Hid (N ≤ _) := (show _ ≤ _ from Nat.le_trans GG.out hb9.size); clear hb9 K0 K1 PP TT RR LL GG; have K0 := K0_; have K1 := K1_; have PP := PP_; have TT := TT_; have RR := RR_; have LL := LL_; have GG := GG_; clear K0_ K1_ PP_ TT_ RR_ LL_ GG_; have OO := hide o9; clear o9; obtain ⟨D, HM⟩ : ∃ z, Hid (w9.heap.size = z) := ⟨_, rfl⟩)
    | (rw [HM.out]; refine wpList_store_blk rfl 35 _ _ rfl D (PrC (.slice none 0 0) zp) (PrC (.slice pa9 n pc9) q) 35 rfl rfl (by rw [← HM.out]; exact Blk.new _ 35 (PrC (.slice none 0 0) zp)) (by rw [PrC_len, PrC_len]) (Tryd.sizeRp _ _) (PrC_one _) ?_; intro w9 hbk9 hu9; have hb9 := roomR_below HM.out hu9; have K0_ := hide (K0.out.kept hb9); have K1_ := hide (K1.out.kept hb9); have PP_ := hide (PP.out.kept hb9); have TT_ := hide (TT.out.gr hb9); have RR_ := hide (RR.out.kept hb9); have OO_ := hide (OO.out.kept hb9); have LL_ : Hid (Below N w _) := (show _ from LL.out.trans (hb9.mono GG.out)); have GG_ : Hid (N ≤ _) := (show _ ≤ _ from Nat.le_trans GG.out hb9.size); clear hb9 K0 K1 PP TT RR OO LL GG; have K0 := K0_; have K1 := K1_; have PP := PP_; have TT := TT_; have RR := RR_; have OO := OO_; have LL := LL_; have GG := GG_; clear K0_ K1_ PP_ TT_ RR_ OO_ LL_ GG_; have QQ := hide hbk9; clear hbk9 hu9 HM)
    | fail)
  clear c0
  go_upto_region 5 with (first
    | (refine wpList_load_mid rfl 24 _ rfl (N + 1) 0 rfl (By (k).1) _ (K1.out.range0) Tryd.underlying24 rfl (Tryd.sizeH (k)) ?_)
    | (refine wpList_load_mid rfl 39 _ rfl (N + 2) 0 rfl (PrC (.slice a n cp) q) _ PP.out.range0 Tryd.underlying39 rfl (Tryd.sizePr _ _) ?_)
    | (go_at_call 16; refine (bClimb_m HCL.out RR.out HQL.out TT.out).mono ?_; rintro e w9 ⟨rfl, hb9⟩; have K0_ := hide (K0.out.kept hb9); have K1_ := hide (K1.out.kept hb9); have PP_ := hide (PP.out.kept hb9); have TT_ := hide (TT.out.gr hb9); have RR_ := hide (RR.out.kept hb9); have OO_ := hide (OO.out.kept hb9); have QQ_ := hide (QQ.out.kept hb9); have LL_ : Hid (Below N w _) := (show _ from LL.out.trans (hb9.mono GG.out)); have GG_ : Hid (N ≤ _) := (show _ ≤ _ from Nat.le_trans GG.out hb9.size); clear hb9 K0 K1 PP TT RR OO QQ LL GG; have K0 := K0_; have K1 := K1_; have PP := PP_; have TT := TT_; have RR := RR_; have OO := OO_; have QQ := QQ_; have LL := LL_; have GG := GG_; clear K0_ K1_ PP_ TT_ RR_ OO_ QQ_ LL_ GG_; obtain ⟨E1, HM⟩ : ∃ z, Hid (w9.heap.size = z) := ⟨_, rfl⟩)
    | (rw [HM.out]; refine wpList_store_blk rfl 24 _ _ rfl E1 (By zh.1) (By (h).1) 24 rfl rfl (by rw [← HM.out]; exact Blk.new _ 24 (By zh.1)) (by rw [By_len, By_len]) (Tryd.sizeH (h)) (By_one _) ?_; intro w9 hbk9 hu9; have hb9 := room_below HM.out hu9; have K0_ := hide (K0.out.kept hb9); have K1_ := hide (K1.out.kept hb9); have PP_ := hide (PP.out.kept hb9); have TT_ := hide (TT.out.gr hb9); have RR_ := hide (RR.out.kept hb9); have OO_ := hide (OO.out.kept hb9); have QQ_ := hide (QQ.out.kept hb9); have LL_ : Hid (Below N w _) := (show _ from LL.out.trans (hb9.mono GG.out)); have GG_ : Hid (N ≤ _) := (show _ ≤ _ from Nat.le_trans GG.out hb9.size); clear hb9 K0 K1 PP TT RR OO QQ LL GG; have K0 := K0_; have K1 := K1_; have PP := PP_; have TT := TT_; have RR := RR_; have OO := OO_; have QQ := QQ_; have LL := LL_; have GG := GG_; clear K0_ K1_ PP_ TT_ RR_ OO_ QQ_ LL_ GG_; have V1 := hide hbk9; clear hbk9 hu9 HM)
    | fail)
  go_upto_region 6 with (first
    | (refine wpList_load_mid rfl 24 _ rfl (N + 1) 0 rfl (By (k).1) _ (K1.out.range0) Tryd.underlying24 rfl (Tryd.sizeH (k)) ?_)
    | (refine wpList_load_mid rfl 35 _ rfl D 0 rfl (PrC (.slice pa9 n pc9) q) _ QQ.out.range0 Tryd.underlying35 rfl (Tryd.sizeRp _ _) ?_)
    | (go_at_call 17; refine (eClimb_m HCL.out OO.out.rd HQL.out).mono ?_; rintro e w9 ⟨rfl, hb9⟩; have K0_ := hide (K0.out.kept hb9); have K1_ := hide (K1.out.kept hb9); have PP_ := hide (PP.out.kept hb9); have TT_ := hide (TT.out.gr hb9); have RR_ := hide (RR.out.kept hb9); have OO_ := hide (OO.out.kept hb9); have QQ_ := hide (QQ.out.kept hb9); have V1_ := hide (V1.out.kept hb9); have LL_ : Hid (Below N w _) := (show _ from LL.out.trans (hb9.mono GG.out)); have GG_ : Hid (N ≤ _) := (show _ ≤ _ from Nat.le_trans GG.out hb9.size); clear hb9 K0 K1 PP TT RR OO QQ V1 LL GG; have K0 := K0_; have K1 := K1_; have PP := PP_; have TT := TT_; have RR := RR_; have OO := OO_; have QQ := QQ_; have V1 := V1_; have LL := LL_; have GG := GG_; clear K0_ K1_ PP_ TT_ RR_ OO_ QQ_ V1_ LL_ GG_; obtain ⟨E2, HM⟩ : ∃ z, Hid (w9.heap.size = z) := ⟨_, rfl⟩)
    | (rw [HM.out]; refine wpList_store_blk rfl 24 _ _ rfl E2 (By zh.1) (By (h).1) 24 rfl rfl (by rw [← HM.out]; exact Blk.new _ 24 (By zh.1)) (by rw [By_len, By_len]) (Tryd.sizeH (h)) (By_one _) ?_; intro w9 hbk9 hu9; have hb9 := room_below HM.out hu9; have K0_ := hide (K0.out.kept hb9); have K1_ := hide (K1.out.kept hb9); have PP_ := hide (PP.out.kept hb9); have TT_ := hide (TT.out.gr hb9); have RR_ := hide (RR.out.kept hb9); have OO_ := hide (OO.out.kept hb9); have QQ_ := hide (QQ.out.kept hb9); have V1_ := hide (V1.out.kept hb9); have LL_ : Hid (Below N w _) := (show _ from LL.out.trans (hb9.mono GG.out)); have GG_ : Hid (N ≤ _) := (show _ ≤ _ from Nat.le_trans GG.out hb9.size); clear hb9 K0 K1 PP TT RR OO QQ V1 LL GG; have K0 := K0_; have K1 := K1_; have PP := PP_; have TT := TT_; have RR := RR_; have OO := OO_; have QQ := QQ_; have V1 := V1_; have LL := LL_; have GG := GG_; clear K0_ K1_ PP_ TT_ RR_ OO_ QQ_ V1_ LL_ GG_; have V2 := hide hbk9; clear hbk9 hu9 HM)
    | fail)
  go_upto_region 7 with (first
    | (refine wpList_load_mid rfl 24 _ rfl (N) 0 rfl (By (r).1) _ (K0.out.range0) Tryd.underlying24 rfl (Tryd.sizeH (r)) ?_)
    | (refine wpList_load_mid rfl 24 _ rfl (N + 1) 0 rfl (By (k).1) _ (K1.out.range0) Tryd.underlying24 rfl (Tryd.sizeH (k)) ?_)
    | (refine wpList_load_mid rfl 39 _ rfl (N + 2) 0 rfl (PrC (.slice a n cp) q) _ PP.out.range0 Tryd.underlying39 rfl (Tryd.sizePr _ _) ?_)
    | (go_at_call 18; refine (bCheck_m HC1.out RR.out HQL.out TT.out).mono ?_; rintro e w9 ⟨rfl, hb9⟩; have K0_ := hide (K0.out.kept hb9); have K1_ := hide (K1.out.kept hb9); have PP_ := hide (PP.out.kept hb9); have TT_ := hide (TT.out.gr hb9); have RR_ := hide (RR.out.kept hb9); have OO_ := hide (OO.out.kept hb9); have QQ_ := hide (QQ.out.kept hb9); have V1_ := hide (V1.out.kept hb9); have V2_ := hide (V2.out.kept hb9); have LL_ : Hid (Below N w _) := (show _ from LL.out.trans (hb9.mono GG.out)); have GG_ : Hid (N ≤ _) := (show _ ≤ _ from Nat.le_trans GG.out hb9.size); clear hb9 K0 K1 PP TT RR OO QQ V1 V2 LL GG; have K0 := K0_; have K1 := K1_; have PP := PP_; have TT := TT_; have RR := RR_; have OO := OO_; have QQ := QQ_; have V1 := V1_; have V2 := V2_; have LL := LL_; have GG := GG_; clear K0_ K1_ PP_ TT_ RR_ OO_ QQ_ V1_ V2_ LL_ GG_; obtain ⟨E3, HM⟩ : ∃ z, Hid (w9.heap.size = z) := ⟨_, rfl⟩)
    | (rw [HM.out]; refine wpList_store_blk rfl 24 _ _ rfl E3 (By zh.1) (By (v1).1) 24 rfl rfl (by rw [← HM.out]; exact Blk.new _ 24 (By zh.1)) (by rw [By_len, By_len]) (Tryd.sizeH (v1)) (By_one _) ?_; intro w9 hbk9 hu9; have hb9 := room_below HM.out hu9; have K0_ := hide (K0.out.kept hb9); have K1_ := hide (K1.out.kept hb9); have PP_ := hide (PP.out.kept hb9); have TT_ := hide (TT.out.gr hb9); have RR_ := hide (RR.out.kept hb9); have OO_ := hide (OO.out.kept hb9); have QQ_ := hide (QQ.out.kept hb9); have V1_ := hide (V1.out.kept hb9); have V2_ := hide (V2.out.kept hb9); have LL_ : Hid (Below N w _) := (show _ from LL.out.trans (hb9.mono GG.out)); have GG_ : Hid (N ≤ _) := (show _ ≤ _ from Nat.le_trans GG.out hb9.size); clear hb9 K0 K1 PP TT RR OO QQ V1 V2 LL GG; have K0 := K0_; have K1 := K1_; have PP := PP_; have TT := TT_; have RR := RR_; have OO := OO_; have QQ := QQ_; have V1 := V1_; have V2 := V2_; have LL := LL_; have GG := GG_; clear K0_ K1_ PP_ TT_ RR_ OO_ QQ_ V1_ V2_ LL_ GG_; have V3 := hide hbk9; clear hbk9 hu9 HM)
    | fail)
  go_upto_region 8 with (first
    | (refine wpList_load_mid rfl 24 _ rfl (N) 0 rfl (By (r).1) _ (K0.out.range0) Tryd.underlying24 rfl (Tryd.sizeH (r)) ?_)
    | (refine wpList_load_mid rfl 24 _ rfl (N + 1) 0 rfl (By (k).1) _ (K1.out.range0) Tryd.underlying24 rfl (Tryd.sizeH (k)) ?_)
    | (refine wpList_load_mid rfl 35 _ rfl D 0 rfl (PrC (.slice pa9 n pc9) q) _ QQ.out.range0 Tryd.underlying35 rfl (Tryd.sizeRp _ _) ?_)
    | (go_at_call 19; refine (eCheck_m HC1.out OO.out.rd HQL.out).mono ?_; rintro e w9 ⟨rfl, hb9⟩; have K0_ := hide (K0.out.kept hb9); have K1_ := hide (K1.out.kept hb9); have PP_ := hide (PP.out.kept hb9); have TT_ := hide (TT.out.gr hb9); have RR_ := hide (RR.out.kept hb9); have OO_ := hide (OO.out.kept hb9); have QQ_ := hide (QQ.out.kept hb9); have V1_ := hide (V1.out.kept hb9); have V2_ := hide (V2.out.kept hb9); have V3_ := hide (V3.out.kept hb9); have LL_ : Hid (Below N w _) := (show _ from LL.out.trans (hb9.mono GG.out)); have GG_ : Hid (N ≤ _) := (show _ ≤ _ from Nat.le_trans GG.out hb9.size); clear hb9 K0 K1 PP TT RR OO QQ V1 V2 V3 LL GG; have K0 := K0_; have K1 := K1_; have PP := PP_; have TT := TT_; have RR := RR_; have OO := OO_; have QQ := QQ_; have V1 := V1_; have V2 := V2_; have V3 := V3_; have LL := LL_; have GG := GG_; clear K0_ K1_ PP_ TT_ RR_ OO_ QQ_ V1_ V2_ V3_ LL_ GG_; obtain ⟨E4, HM⟩ : ∃ z, Hid (w9.heap.size = z) := ⟨_, rfl⟩)
    | (rw [HM.out]; refine wpList_store_blk rfl 24 _ _ rfl E4 (By zh.1) (By (v1).1) 24 rfl rfl (by rw [← HM.out]; exact Blk.new _ 24 (By zh.1)) (by rw [By_len, By_len]) (Tryd.sizeH (v1)) (By_one _) ?_; intro w9 hbk9 hu9; have hb9 := room_below HM.out hu9; have K0_ := hide (K0.out.kept hb9); have K1_ := hide (K1.out.kept hb9); have PP_ := hide (PP.out.kept hb9); have TT_ := hide (TT.out.gr hb9); have RR_ := hide (RR.out.kept hb9); have OO_ := hide (OO.out.kept hb9); have QQ_ := hide (QQ.out.kept hb9); have V1_ := hide (V1.out.kept hb9); have V2_ := hide (V2.out.kept hb9); have V3_ := hide (V3.out.kept hb9); have LL_ : Hid (Below N w _) := (show _ from LL.out.trans (hb9.mono GG.out)); have GG_ : Hid (N ≤ _) := (show _ ≤ _ from Nat.le_trans GG.out hb9.size); clear hb9 K0 K1 PP TT RR OO QQ V1 V2 V3 LL GG; have K0 := K0_; have K1 := K1_; have PP := PP_; have TT := TT_; have RR := RR_; have OO := OO_; have QQ := QQ_; have V1 := V1_; have V2 := V2_; have V3 := V3_; have LL := LL_; have GG := GG_; clear K0_ K1_ PP_ TT_ RR_ OO_ QQ_ V1_ V2_ V3_ LL_ GG_; have V4 := hide hbk9; clear hbk9 hu9 HM)
    | fail)
  go_upto_region 9 with (first
    | (refine wpList_load_mid rfl 24 _ rfl (E2) 0 rfl (By (h).1) _ (V2.out.range0) Tryd.underlying24 rfl (Tryd.sizeH (h)) ?_)
    | (refine wpList_load_mid rfl 24 _ rfl (N + 1) 0 rfl (By (k).1) _ (K1.out.range0) Tryd.underlying24 rfl (Tryd.sizeH (k)) ?_)
    | (refine wpList_load_mid rfl 39 _ rfl (N + 2) 0 rfl (PrC (.slice a n cp) q) _ PP.out.range0 Tryd.underlying39 rfl (Tryd.sizePr _ _) ?_)
    | (go_at_call 18; refine (bCheck_m HC2.out RR.out HQL.out TT.out).mono ?_; rintro e w9 ⟨rfl, hb9⟩; have K0_ := hide (K0.out.kept hb9); have K1_ := hide (K1.out.kept hb9); have PP_ := hide (PP.out.kept hb9); have TT_ := hide (TT.out.gr hb9); have RR_ := hide (RR.out.kept hb9); have OO_ := hide (OO.out.kept hb9); have QQ_ := hide (QQ.out.kept hb9); have V1_ := hide (V1.out.kept hb9); have V2_ := hide (V2.out.kept hb9); have V3_ := hide (V3.out.kept hb9); have V4_ := hide (V4.out.kept hb9); have LL_ : Hid (Below N w _) := (show _ from LL.out.trans (hb9.mono GG.out)); have GG_ : Hid (N ≤ _) := (show _ ≤ _ from Nat.le_trans GG.out hb9.size); clear hb9 K0 K1 PP TT RR OO QQ V1 V2 V3 V4 LL GG; have K0 := K0_; have K1 := K1_; have PP := PP_; have TT := TT_; have RR := RR_; have OO := OO_; have QQ := QQ_; have V1 := V1_; have V2 := V2_; have V3 := V3_; have V4 := V4_; have LL := LL_; have GG := GG_; clear K0_ K1_ PP_ TT_ RR_ OO_ QQ_ V1_ V2_ V3_ V4_ LL_ GG_; obtain ⟨E5, HM⟩ : ∃ z, Hid (w9.heap.size = z) := ⟨_, rfl⟩)
    | (rw [HM.out]; refine wpList_store_blk rfl 24 _ _ rfl E5 (By zh.1) (By (v2).1) 24 rfl rfl (by rw [← HM.out]; exact Blk.new _ 24 (By zh.1)) (by rw [By_len, By_len]) (Tryd.sizeH (v2)) (By_one _) ?_; intro w9 hbk9 hu9; have hb9 := room_below HM.out hu9; have K0_ := hide (K0.out.kept hb9); have K1_ := hide (K1.out.kept hb9); have PP_ := hide (PP.out.kept hb9); have TT_ := hide (TT.out.gr hb9); have RR_ := hide (RR.out.kept hb9); have OO_ := hide (OO.out.kept hb9); have QQ_ := hide (QQ.out.kept hb9); have V1_ := hide (V1.out.kept hb9); have V2_ := hide (V2.out.kept hb9); have V3_ := hide (V3.out.kept hb9); have V4_ := hide (V4.out.kept hb9); have LL_ : Hid (Below N w _) := (show _ from LL.out.trans (hb9.mono GG.out)); have GG_ : Hid (N ≤ _) := (show _ ≤ _ from Nat.le_trans GG.out hb9.size); clear hb9 K0 K1 PP TT RR OO QQ V1 V2 V3 V4 LL GG; have K0 := K0_; have K1 := K1_; have PP := PP_; have TT := TT_; have RR := RR_; have OO := OO_; have QQ := QQ_; have V1 := V1_; have V2 := V2_; have V3 := V3_; have V4 := V4_; have LL := LL_; have GG := GG_; clear K0_ K1_ PP_ TT_ RR_ OO_ QQ_ V1_ V2_ V3_ V4_ LL_ GG_; have V5 := hide hbk9; clear hbk9 hu9 HM)
    | fail)
  go_upto_region 10 with (first
    | (refine wpList_load_mid rfl 24 _ rfl (E2) 0 rfl (By (h).1) _ (V2.out.range0) Tryd.underlying24 rfl (Tryd.sizeH (h)) ?_)
    | (refine wpList_load_mid rfl 24 _ rfl (N + 1) 0 rfl (By (k).1) _ (K1.out.range0) Tryd.underlying24 rfl (Tryd.sizeH (k)) ?_)
    | (refine wpList_load_mid rfl 35 _ rfl D 0 rfl (PrC (.slice pa9 n pc9) q) _ QQ.out.range0 Tryd.underlying35 rfl (Tryd.sizeRp _ _) ?_)
    | (go_at_call 19; refine (eCheck_m HC2.out OO.out.rd HQL.out).mono ?_; rintro e w9 ⟨rfl, hb9⟩; have K0_ := hide (K0.out.kept hb9); have K1_ := hide (K1.out.kept hb9); have PP_ := hide (PP.out.kept hb9); have TT_ := hide (TT.out.gr hb9); have RR_ := hide (RR.out.kept hb9); have OO_ := hide (OO.out.kept hb9); have QQ_ := hide (QQ.out.kept hb9); have V1_ := hide (V1.out.kept hb9); have V2_ := hide (V2.out.kept hb9); have V3_ := hide (V3.out.kept hb9); have V4_ := hide (V4.out.kept hb9); have V5_ := hide (V5.out.kept hb9); have LL_ : Hid (Below N w _) := (show _ from LL.out.trans (hb9.mono GG.out)); have GG_ : Hid (N ≤ _) := (show _ ≤ _ from Nat.le_trans GG.out hb9.size); clear hb9 K0 K1 PP TT RR OO QQ V1 V2 V3 V4 V5 LL GG; have K0 := K0_; have K1 := K1_; have PP := PP_; have TT := TT_; have RR := RR_; have OO := OO_; have QQ := QQ_; have V1 := V1_; have V2 := V2_; have V3 := V3_; have V4 := V4_; have V5 := V5_; have LL := LL_; have GG := GG_; clear K0_ K1_ PP_ TT_ RR_ OO_ QQ_ V1_ V2_ V3_ V4_ V5_ LL_ GG_; obtain ⟨E6, HM⟩ : ∃ z, Hid (w9.heap.size = z) := ⟨_, rfl⟩)
    | (rw [HM.out]; refine wpList_store_blk rfl 24 _ _ rfl E6 (By zh.1) (By (v2).1) 24 rfl rfl (by rw [← HM.out]; exact Blk.new _ 24 (By zh.1)) (by rw [By_len, By_len]) (Tryd.sizeH (v2)) (By_one _) ?_; intro w9 hbk9 hu9; have hb9 := room_below HM.out hu9; have K0_ := hide (K0.out.kept hb9); have K1_ := hide (K1.out.kept hb9); have PP_ := hide (PP.out.kept hb9); have TT_ := hide (TT.out.gr hb9); have RR_ := hide (RR.out.kept hb9); have OO_ := hide (OO.out.kept hb9); have QQ_ := hide (QQ.out.kept hb9); have V1_ := hide (V1.out.kept hb9); have V2_ := hide (V2.out.kept hb9); have V3_ := hide (V3.out.kept hb9); have V4_ := hide (V4.out.kept hb9); have V5_ := hide (V5.out.kept hb9); have LL_ : Hid (Below N w _) := (show _ from LL.out.trans (hb9.mono GG.out)); have GG_ : Hid (N ≤ _) := (show _ ≤ _ from Nat.le_trans GG.out hb9.size); clear hb9 K0 K1 PP TT RR OO QQ V1 V2 V3 V4 V5 LL GG; have K0 := K0_; have K1 := K1_; have PP := PP_; have TT := TT_; have RR := RR_; have OO := OO_; have QQ := QQ_; have V1 := V1_; have V2 := V2_; have V3 := V3_; have V4 := V4_; have V5 := V5_; have LL := LL_; have GG := GG_; clear K0_ K1_ PP_ TT_ RR_ OO_ QQ_ V1_ V2_ V3_ V4_ V5_ LL_ GG_; have V6 := hide hbk9; clear hbk9 hu9 HM)
    | fail)
  refine wp_region_inv Tryd.mixed (KS (fun i_ => match i_ with | 0 => .val (.agg (PrC (.slice a n cp) q).toArray) | 1 | 3 => .val (.bool g) | 2 => .val (.agg (PrC (.slice pa9 n pc9) q).toArray) | 4 | 5 | 8 | 9 | 10 | 13 | 14 | 15 | 18 | 19 | 20 | 23 | 24 | 25 | 28 | 29 | 30 | 33 | 34 | 35 | 38 | 39 | 40 | 43 | 44 | 45 | 46 | 47 | 48 => .val (.bool true) | 6 | 7 => .val (HV h) | 11 | 12 => .val (.bool ok) | 16 | 17 => .val (HV v1) | 21 | 22 => .val (.bool hs1) | 26 | 27 => .val (.bool my1) | 31 | 32 => .val (HV v2) | 36 | 37 => .val (.bool hs2) | 41 | 42 => .val (.bool my2) | _ => .free)) 123 rfl (by decide +kernel) (KS_mono _) ?_ ?_
  · refine AllFrom.cons (fun a' w' hg hk hd => ?_) (AllFrom.cons (fun a' w' hg hk hd => ?_) (AllFrom.cons (fun a' w' hg hk hd => ?_) (AllFrom.cons (fun a' w' hg hk hd => ?_) (AllFrom.cons (fun a' w' hg hk hd => ?_) (AllFrom.cons (fun a' w' hg hk hd => ?_) (AllFrom.cons (fun a' w' hg hk hd => ?_) (AllFrom.cons (fun a' w' hg hk hd => ?_) (AllFrom.cons (fun a' w' hg hk hd => ?_) (AllFrom.cons (fun a' w' hg hk hd => ?_) (AllFrom.cons (fun a' w' hg hk hd => ?_) (AllFrom.cons (fun a' w' hg hk hd => ?_) (AllFrom.cons (fun a' w' hg hk hd => ?_) (AllFrom.cons (fun a' w' hg hk hd => ?_) (AllFrom.cons (fun a' w' hg hk hd => ?_) (AllFrom.cons (fun a' w' hg hk hd => ?_) (AllFrom.cons (fun a' w' hg hk hd => ?_) (AllFrom.cons (fun a' w' hg hk hd => ?_) (AllFrom.cons (fun a' w' hg hk hd => ?_) (AllFrom.cons (fun a' w' hg hk hd => ?_) (AllFrom.cons (fun a' w' hg hk hd => ?_) (AllFrom.cons (fun a' w' hg hk hd => ?_) (AllFrom.cons (fun a' w' hg hk hd => ?_) (AllFrom.cons (fun a' w' hg hk hd => ?_) (AllFrom.cons (fun a' w' hg hk hd => ?_) (AllFrom.cons (fun a' w' hg hk hd => ?_) (AllFrom.cons (fun a' w' hg hk hd => ?_) (AllFrom.cons (fun a' w' hg hk hd => ?_) (AllFrom.cons (fun a' w' hg hk hd => ?_) (AllFrom.cons (fun a' w' hg hk hd => ?_) (AllFrom.cons (fun a' w' hg hk hd => ?_) (AllFrom.cons (fun a' w' hg hk hd => ?_) (AllFrom.cons (fun a' w' hg hk hd => ?_) (AllFrom.cons (fun a' w' hg hk hd => ?_) (AllFrom.cons (fun a' w' hg hk hd => ?_) (AllFrom.cons (fun a' w' hg hk hd => ?_) (AllFrom.cons (fun a' w' hg hk hd => ?_) (AllFrom.cons (fun a' w' hg hk hd => ?_) (AllFrom.cons (fun a' w' hg hk hd => ?_) (AllFrom.cons (fun a' w' hg hk hd => ?_) (AllFrom.cons (fun a' w' hg hk hd => ?_) (AllFrom.cons (fun a' w' hg hk hd => ?_) (AllFrom.cons (fun a' w' hg hk hd => ?_) (AllFrom.cons (fun a' w' hg hk hd => ?_) (AllFrom.cons (fun a' w' hg hk hd => ?_) (AllFrom.cons (fun a' w' hg hk hd => ?_) (AllFrom.cons (fun a' w' hg hk hd => ?_) (AllFrom.cons (fun a' w' hg hk hd => ?_) (AllFrom.cons (fun a' w' hg hk hd => ?_) AllFrom.nil))))))))))))))))))))))))))))))))))))))))))))))))
    · skip
      intro Q
      have e5 : a'.eval (.tmp 5) = .pointer (some ⟨N + 2, 0, none⟩) := hk.at 5 (by decide +kernel)
      exact wp_load_row 39 _ rfl _ _ e5 (PrC (.slice a n cp) q) _ ((PP.out.kept hg).range0) Tryd.underlying39 rfl (Tryd.sizePr _ _) (KS_mkv rfl rfl)
    · skip
      intro Q
      have e75 : a'.eval (.tmp 75) = .agg (PrC (.slice a n cp) q).toArray := KS_val (hd.val 0 75 (by decide +kernel)) rfl
      refine wp_call 20 _ (run_enter 20 _ _ rfl (by kernel_rfl)) ?_
      simp only [List.map_toArray, List.map_nil, List.map_cons, e75]
      refine (bGood_m HGD.out (RR.out.kept hg)).mono ?_
      rintro e w5 ⟨rfl, hb5⟩
      exact ⟨_, rfl, KS_mkv rfl rfl, hb5⟩
    · skip
      intro Q
      have e7 : a'.eval (.tmp 7) = .pointer (some ⟨D, 0, none⟩) := hk.at 7 (by decide +kernel)
      exact wp_load_row 35 _ rfl _ _ e7 (PrC (.slice pa9 n pc9) q) _ ((QQ.out.kept hg).range0) Tryd.underlying35 rfl (Tryd.sizeRp _ _) (KS_mkv rfl rfl)
    · skip
      intro Q
      have e77 : a'.eval (.tmp 77) = .agg (PrC (.slice pa9 n pc9) q).toArray := KS_val (hd.val 2 77 (by decide +kernel)) rfl
      refine wp_call 21 _ (run_enter 21 _ _ rfl (by kernel_rfl)) ?_
      simp only [List.map_toArray, List.map_nil, List.map_cons, e77]
      refine (eGood_m HGD.out (OO.out.kept hg).rd).mono ?_
      rintro e w5 ⟨rfl, hb5⟩
      exact ⟨_, rfl, KS_mkv rfl rfl, hb5⟩
    · skip
      intro Q
      have e76 : a'.eval (.tmp 76) = .bool g := KS_val (hd.val 1 76 (by decide +kernel)) rfl
      have e78 : a'.eval (.tmp 78) = .bool g := KS_val (hd.val 3 78 (by decide +kernel)) rfl
      have hq : (g == g) = true := by simp
      clear hd hk
      exact wp_value (.bool true) (by simp only [execOp, e76, e78]; go_simp) (KS_mkv rfl rfl)
    · skip
      intro Q
      have e79 : a'.eval (.tmp 79) = .bool true := KS_val (hd.val 4 79 (by decide +kernel)) rfl
      exact wp_value _ (by simp only [execOp, e79]; rfl) (KS_mkv rfl rfl)
    · skip
      have eg : a'.eval (.tmp 80) = .bool true := KS_val (hd.val 5 80 (by decide +kernel)) rfl
      refine ⟨80, true, rfl, eg, fun _ Q => ?_, fun h => absurd rfl h⟩
      have e8 : a'.eval (.tmp 8) = .pointer (some ⟨E1, 0, none⟩) := hk.at 8 (by decide +kernel)
      exact wp_load_row 24 _ rfl _ _ e8 (By (h).1) _ ((V1.out.kept hg).range0) Tryd.underlying24 rfl (Tryd.sizeH _) (KS_mkv rfl rfl)
    · skip
      have eg : a'.eval (.tmp 80) = .bool true := KS_val (hd.val 5 80 (by decide +kernel)) rfl
      refine ⟨80, true, rfl, eg, fun _ Q => ?_, fun h => absurd rfl h⟩
      have e10 : a'.eval (.tmp 10) = .pointer (some ⟨E2, 0, none⟩) := hk.at 10 (by decide +kernel)
      exact wp_load_row 24 _ rfl _ _ e10 (By (h).1) _ ((V2.out.kept hg).range0) Tryd.underlying24 rfl (Tryd.sizeH _) (KS_mkv rfl rfl)
    · skip
      have eg : a'.eval (.tmp 80) = .bool true := KS_val (hd.val 5 80 (by decide +kernel)) rfl
      refine ⟨80, true, rfl, eg, fun _ Q => ?_, fun h => absurd rfl h⟩
      have e81 : a'.eval (.tmp 81) = HV h := KS_val (hd.val 6 81 (by decide +kernel)) rfl
      have e82 : a'.eval (.tmp 82) = HV h := KS_val (hd.val 7 82 (by decide +kernel)) rfl
      have hq := eqAA h
      clear hd hk
      exact wp_value (.bool true) (by simp only [execOp, e81, e82, HV]; go_simp) (KS_mkv rfl rfl)
    · skip
      intro Q
      have e80 : a'.eval (.tmp 80) = .bool true := KS_val (hd.val 5 80 (by decide +kernel)) rfl
      have e83 : a'.eval (.tmp 83) = .bool true := KS_val (hd.val 8 83 (by decide +kernel)) rfl
      clear hd hk
      exact wp_value (.bool true) (by simp only [execOp, e80, e83]; go_simp) (KS_mkv rfl rfl)
    · skip
      intro Q
      have e84 : a'.eval (.tmp 84) = .bool true := KS_val (hd.val 9 84 (by decide +kernel)) rfl
      exact wp_value _ (by simp only [execOp, e84]; rfl) (KS_mkv rfl rfl)
    · skip
      have eg : a'.eval (.tmp 85) = .bool true := KS_val (hd.val 10 85 (by decide +kernel)) rfl
      refine ⟨85, true, rfl, eg, fun _ Q => ?_, fun h => absurd rfl h⟩
      have e9 : a'.eval (.tmp 9) = .bool ok := hk.at 9 (by decide +kernel)
      exact wp_value _ (by simp only [execOp, e9]; rfl) (KS_mkv rfl rfl)
    · skip
      have eg : a'.eval (.tmp 85) = .bool true := KS_val (hd.val 10 85 (by decide +kernel)) rfl
      refine ⟨85, true, rfl, eg, fun _ Q => ?_, fun h => absurd rfl h⟩
      have e11 : a'.eval (.tmp 11) = .bool ok := hk.at 11 (by decide +kernel)
      exact wp_value _ (by simp only [execOp, e11]; rfl) (KS_mkv rfl rfl)
    · skip
      have eg : a'.eval (.tmp 85) = .bool true := KS_val (hd.val 10 85 (by decide +kernel)) rfl
      refine ⟨85, true, rfl, eg, fun _ Q => ?_, fun h => absurd rfl h⟩
      have e86 : a'.eval (.tmp 86) = .bool ok := KS_val (hd.val 11 86 (by decide +kernel)) rfl
      have e87 : a'.eval (.tmp 87) = .bool ok := KS_val (hd.val 12 87 (by decide +kernel)) rfl
      have hq : (ok == ok) = true := by simp
      clear hd hk
      exact wp_value (.bool true) (by simp only [execOp, e86, e87]; go_simp) (KS_mkv rfl rfl)
    · skip
      intro Q
      have e85 : a'.eval (.tmp 85) = .bool true := KS_val (hd.val 10 85 (by decide +kernel)) rfl
      have e88 : a'.eval (.tmp 88) = .bool true := KS_val (hd.val 13 88 (by decide +kernel)) rfl
      clear hd hk
      exact wp_value (.bool true) (by simp only [execOp, e85, e88]; go_simp) (KS_mkv rfl rfl)
    · skip
      intro Q
      have e89 : a'.eval (.tmp 89) = .bool true := KS_val (hd.val 14 89 (by decide +kernel)) rfl
      exact wp_value _ (by simp only [execOp, e89]; rfl) (KS_mkv rfl rfl)
    · skip
      have eg : a'.eval (.tmp 90) = .bool true := KS_val (hd.val 15 90 (by decide +kernel)) rfl
      refine ⟨90, true, rfl, eg, fun _ Q => ?_, fun h => absurd rfl h⟩
      have e12 : a'.eval (.tmp 12) = .pointer (some ⟨E3, 0, none⟩) := hk.at 12 (by decide +kernel)
      exact wp_load_row 24 _ rfl _ _ e12 (By (v1).1) _ ((V3.out.kept hg).range0) Tryd.underlying24 rfl (Tryd.sizeH _) (KS_mkv rfl rfl)
    · skip
      have eg : a'.eval (.tmp 90) = .bool true := KS_val (hd.val 15 90 (by decide +kernel)) rfl
      refine ⟨90, true, rfl, eg, fun _ Q => ?_, fun h => absurd rfl h⟩
      have e15 : a'.eval (.tmp 15) = .pointer (some ⟨E4, 0, none⟩) := hk.at 15 (by decide +kernel)
      exact wp_load_row 24 _ rfl _ _ e15 (By (v1).1) _ ((V4.out.kept hg).range0) Tryd.underlying24 rfl (Tryd.sizeH _) (KS_mkv rfl rfl)
    · skip
      have eg : a'.eval (.tmp 90) = .bool true := KS_val (hd.val 15 90 (by decide +kernel)) rfl
      refine ⟨90, true, rfl, eg, fun _ Q => ?_, fun h => absurd rfl h⟩
      have e91 : a'.eval (.tmp 91) = HV v1 := KS_val (hd.val 16 91 (by decide +kernel)) rfl
      have e92 : a'.eval (.tmp 92) = HV v1 := KS_val (hd.val 17 92 (by decide +kernel)) rfl
      have hq := eqAA v1
      clear hd hk
      exact wp_value (.bool true) (by simp only [execOp, e91, e92, HV]; go_simp) (KS_mkv rfl rfl)
    · skip
      intro Q
      have e90 : a'.eval (.tmp 90) = .bool true := KS_val (hd.val 15 90 (by decide +kernel)) rfl
      have e93 : a'.eval (.tmp 93) = .bool true := KS_val (hd.val 18 93 (by decide +kernel)) rfl
      clear hd hk
      exact wp_value (.bool true) (by simp only [execOp, e90, e93]; go_simp) (KS_mkv rfl rfl)
    · skip
      intro Q
      have e94 : a'.eval (.tmp 94) = .bool true := KS_val (hd.val 19 94 (by decide +kernel)) rfl
      exact wp_value _ (by simp only [execOp, e94]; rfl) (KS_mkv rfl rfl)
    · skip
      have eg : a'.eval (.tmp 95) = .bool true := KS_val (hd.val 20 95 (by decide +kernel)) rfl
      refine ⟨95, true, rfl, eg, fun _ Q => ?_, fun h => absurd rfl h⟩
      have e13 : a'.eval (.tmp 13) = .bool hs1 := hk.at 13 (by decide +kernel)
      exact wp_value _ (by simp only [execOp, e13]; rfl) (KS_mkv rfl rfl)
    · skip
      have eg : a'.eval (.tmp 95) = .bool true := KS_val (hd.val 20 95 (by decide +kernel)) rfl
      refine ⟨95, true, rfl, eg, fun _ Q => ?_, fun h => absurd rfl h⟩
      have e16 : a'.eval (.tmp 16) = .bool hs1 := hk.at 16 (by decide +kernel)
      exact wp_value _ (by simp only [execOp, e16]; rfl) (KS_mkv rfl rfl)
    · skip
      have eg : a'.eval (.tmp 95) = .bool true := KS_val (hd.val 20 95 (by decide +kernel)) rfl
      refine ⟨95, true, rfl, eg, fun _ Q => ?_, fun h => absurd rfl h⟩
      have e96 : a'.eval (.tmp 96) = .bool hs1 := KS_val (hd.val 21 96 (by decide +kernel)) rfl
      have e97 : a'.eval (.tmp 97) = .bool hs1 := KS_val (hd.val 22 97 (by decide +kernel)) rfl
      have hq : (hs1 == hs1) = true := by simp
      clear hd hk
      exact wp_value (.bool true) (by simp only [execOp, e96, e97]; go_simp) (KS_mkv rfl rfl)
    · skip
      intro Q
      have e95 : a'.eval (.tmp 95) = .bool true := KS_val (hd.val 20 95 (by decide +kernel)) rfl
      have e98 : a'.eval (.tmp 98) = .bool true := KS_val (hd.val 23 98 (by decide +kernel)) rfl
      clear hd hk
      exact wp_value (.bool true) (by simp only [execOp, e95, e98]; go_simp) (KS_mkv rfl rfl)
    · skip
      intro Q
      have e99 : a'.eval (.tmp 99) = .bool true := KS_val (hd.val 24 99 (by decide +kernel)) rfl
      exact wp_value _ (by simp only [execOp, e99]; rfl) (KS_mkv rfl rfl)
    · skip
      have eg : a'.eval (.tmp 100) = .bool true := KS_val (hd.val 25 100 (by decide +kernel)) rfl
      refine ⟨100, true, rfl, eg, fun _ Q => ?_, fun h => absurd rfl h⟩
      have e14 : a'.eval (.tmp 14) = .bool my1 := hk.at 14 (by decide +kernel)
      exact wp_value _ (by simp only [execOp, e14]; rfl) (KS_mkv rfl rfl)
    · skip
      have eg : a'.eval (.tmp 100) = .bool true := KS_val (hd.val 25 100 (by decide +kernel)) rfl
      refine ⟨100, true, rfl, eg, fun _ Q => ?_, fun h => absurd rfl h⟩
      have e17 : a'.eval (.tmp 17) = .bool my1 := hk.at 17 (by decide +kernel)
      exact wp_value _ (by simp only [execOp, e17]; rfl) (KS_mkv rfl rfl)
    · skip
      have eg : a'.eval (.tmp 100) = .bool true := KS_val (hd.val 25 100 (by decide +kernel)) rfl
      refine ⟨100, true, rfl, eg, fun _ Q => ?_, fun h => absurd rfl h⟩
      have e101 : a'.eval (.tmp 101) = .bool my1 := KS_val (hd.val 26 101 (by decide +kernel)) rfl
      have e102 : a'.eval (.tmp 102) = .bool my1 := KS_val (hd.val 27 102 (by decide +kernel)) rfl
      have hq : (my1 == my1) = true := by simp
      clear hd hk
      exact wp_value (.bool true) (by simp only [execOp, e101, e102]; go_simp) (KS_mkv rfl rfl)
    · skip
      intro Q
      have e100 : a'.eval (.tmp 100) = .bool true := KS_val (hd.val 25 100 (by decide +kernel)) rfl
      have e103 : a'.eval (.tmp 103) = .bool true := KS_val (hd.val 28 103 (by decide +kernel)) rfl
      clear hd hk
      exact wp_value (.bool true) (by simp only [execOp, e100, e103]; go_simp) (KS_mkv rfl rfl)
    · skip
      intro Q
      have e104 : a'.eval (.tmp 104) = .bool true := KS_val (hd.val 29 104 (by decide +kernel)) rfl
      exact wp_value _ (by simp only [execOp, e104]; rfl) (KS_mkv rfl rfl)
    · skip
      have eg : a'.eval (.tmp 105) = .bool true := KS_val (hd.val 30 105 (by decide +kernel)) rfl
      refine ⟨105, true, rfl, eg, fun _ Q => ?_, fun h => absurd rfl h⟩
      have e18 : a'.eval (.tmp 18) = .pointer (some ⟨E5, 0, none⟩) := hk.at 18 (by decide +kernel)
      exact wp_load_row 24 _ rfl _ _ e18 (By (v2).1) _ ((V5.out.kept hg).range0) Tryd.underlying24 rfl (Tryd.sizeH _) (KS_mkv rfl rfl)
    · skip
      have eg : a'.eval (.tmp 105) = .bool true := KS_val (hd.val 30 105 (by decide +kernel)) rfl
      refine ⟨105, true, rfl, eg, fun _ Q => ?_, fun h => absurd rfl h⟩
      have e21 : a'.eval (.tmp 21) = .pointer (some ⟨E6, 0, none⟩) := hk.at 21 (by decide +kernel)
      exact wp_load_row 24 _ rfl _ _ e21 (By (v2).1) _ ((V6.out.kept hg).range0) Tryd.underlying24 rfl (Tryd.sizeH _) (KS_mkv rfl rfl)
    · skip
      have eg : a'.eval (.tmp 105) = .bool true := KS_val (hd.val 30 105 (by decide +kernel)) rfl
      refine ⟨105, true, rfl, eg, fun _ Q => ?_, fun h => absurd rfl h⟩
      have e106 : a'.eval (.tmp 106) = HV v2 := KS_val (hd.val 31 106 (by decide +kernel)) rfl
      have e107 : a'.eval (.tmp 107) = HV v2 := KS_val (hd.val 32 107 (by decide +kernel)) rfl
      have hq := eqAA v2
      clear hd hk
      exact wp_value (.bool true) (by simp only [execOp, e106, e107, HV]; go_simp) (KS_mkv rfl rfl)
    · skip
      intro Q
      have e105 : a'.eval (.tmp 105) = .bool true := KS_val (hd.val 30 105 (by decide +kernel)) rfl
      have e108 : a'.eval (.tmp 108) = .bool true := KS_val (hd.val 33 108 (by decide +kernel)) rfl
      clear hd hk
      exact wp_value (.bool true) (by simp only [execOp, e105, e108]; go_simp) (KS_mkv rfl rfl)
    · skip
      intro Q
      have e109 : a'.eval (.tmp 109) = .bool true := KS_val (hd.val 34 109 (by decide +kernel)) rfl
      exact wp_value _ (by simp only [execOp, e109]; rfl) (KS_mkv rfl rfl)
    · skip
      have eg : a'.eval (.tmp 110) = .bool true := KS_val (hd.val 35 110 (by decide +kernel)) rfl
      refine ⟨110, true, rfl, eg, fun _ Q => ?_, fun h => absurd rfl h⟩
      have e19 : a'.eval (.tmp 19) = .bool hs2 := hk.at 19 (by decide +kernel)
      exact wp_value _ (by simp only [execOp, e19]; rfl) (KS_mkv rfl rfl)
    · skip
      have eg : a'.eval (.tmp 110) = .bool true := KS_val (hd.val 35 110 (by decide +kernel)) rfl
      refine ⟨110, true, rfl, eg, fun _ Q => ?_, fun h => absurd rfl h⟩
      have e22 : a'.eval (.tmp 22) = .bool hs2 := hk.at 22 (by decide +kernel)
      exact wp_value _ (by simp only [execOp, e22]; rfl) (KS_mkv rfl rfl)
    · skip
      have eg : a'.eval (.tmp 110) = .bool true := KS_val (hd.val 35 110 (by decide +kernel)) rfl
      refine ⟨110, true, rfl, eg, fun _ Q => ?_, fun h => absurd rfl h⟩
      have e111 : a'.eval (.tmp 111) = .bool hs2 := KS_val (hd.val 36 111 (by decide +kernel)) rfl
      have e112 : a'.eval (.tmp 112) = .bool hs2 := KS_val (hd.val 37 112 (by decide +kernel)) rfl
      have hq : (hs2 == hs2) = true := by simp
      clear hd hk
      exact wp_value (.bool true) (by simp only [execOp, e111, e112]; go_simp) (KS_mkv rfl rfl)
    · skip
      intro Q
      have e110 : a'.eval (.tmp 110) = .bool true := KS_val (hd.val 35 110 (by decide +kernel)) rfl
      have e113 : a'.eval (.tmp 113) = .bool true := KS_val (hd.val 38 113 (by decide +kernel)) rfl
      clear hd hk
      exact wp_value (.bool true) (by simp only [execOp, e110, e113]; go_simp) (KS_mkv rfl rfl)
    · skip
      intro Q
      have e114 : a'.eval (.tmp 114) = .bool true := KS_val (hd.val 39 114 (by decide +kernel)) rfl
      exact wp_value _ (by simp only [execOp, e114]; rfl) (KS_mkv rfl rfl)
    · skip
      have eg : a'.eval (.tmp 115) = .bool true := KS_val (hd.val 40 115 (by decide +kernel)) rfl
      refine ⟨115, true, rfl, eg, fun _ Q => ?_, fun h => absurd rfl h⟩
      have e20 : a'.eval (.tmp 20) = .bool my2 := hk.at 20 (by decide +kernel)
      exact wp_value _ (by simp only [execOp, e20]; rfl) (KS_mkv rfl rfl)
    · skip
      have eg : a'.eval (.tmp 115) = .bool true := KS_val (hd.val 40 115 (by decide +kernel)) rfl
      refine ⟨115, true, rfl, eg, fun _ Q => ?_, fun h => absurd rfl h⟩
      have e23 : a'.eval (.tmp 23) = .bool my2 := hk.at 23 (by decide +kernel)
      exact wp_value _ (by simp only [execOp, e23]; rfl) (KS_mkv rfl rfl)
    · skip
      have eg : a'.eval (.tmp 115) = .bool true := KS_val (hd.val 40 115 (by decide +kernel)) rfl
      refine ⟨115, true, rfl, eg, fun _ Q => ?_, fun h => absurd rfl h⟩
      have e116 : a'.eval (.tmp 116) = .bool my2 := KS_val (hd.val 41 116 (by decide +kernel)) rfl
      have e117 : a'.eval (.tmp 117) = .bool my2 := KS_val (hd.val 42 117 (by decide +kernel)) rfl
      have hq : (my2 == my2) = true := by simp
      clear hd hk
      exact wp_value (.bool true) (by simp only [execOp, e116, e117]; go_simp) (KS_mkv rfl rfl)
    · skip
      intro Q
      have e115 : a'.eval (.tmp 115) = .bool true := KS_val (hd.val 40 115 (by decide +kernel)) rfl
      have e118 : a'.eval (.tmp 118) = .bool true := KS_val (hd.val 43 118 (by decide +kernel)) rfl
      clear hd hk
      exact wp_value (.bool true) (by simp only [execOp, e115, e118]; go_simp) (KS_mkv rfl rfl)
    · skip
      intro Q
      have e119 : a'.eval (.tmp 119) = .bool true := KS_val (hd.val 44 119 (by decide +kernel)) rfl
      exact wp_value _ (by simp only [execOp, e119]; rfl) (KS_mkv rfl rfl)
    · skip
      have eg : a'.eval (.tmp 120) = .bool true := KS_val (hd.val 45 120 (by decide +kernel)) rfl
      refine ⟨120, true, rfl, eg, fun _ Q => ?_, fun h => absurd rfl h⟩
      refine wp_call 9 _ (run_enter 9 _ _ rfl (by kernel_rfl)) ?_
      simp only [List.map_toArray, List.map_nil]
      refine (ilives_any _ (TT.out.gr hg)).mono ?_
      rintro e w5 ⟨rfl, hb5⟩
      exact ⟨_, rfl, KS_mkv rfl rfl, hb5⟩
    · skip
      intro Q
      have e120 : a'.eval (.tmp 120) = .bool true := KS_val (hd.val 45 120 (by decide +kernel)) rfl
      have e121 : a'.eval (.tmp 121) = .bool true := KS_val (hd.val 46 121 (by decide +kernel)) rfl
      clear hd hk
      exact wp_value (.bool true) (by simp only [execOp, e120, e121]; go_simp) (KS_mkv rfl rfl)
    · skip
      intro Q
      have e122 : a'.eval (.tmp 122) = .bool true := KS_val (hd.val 47 122 (by decide +kernel)) rfl
      exact wp_value _ (by simp only [execOp, e122]; rfl) (KS_mkv rfl rfl)
  · intro a' w8 hsz hdf hk hall hg
    have e75 : a'.eval (.tmp 75) = .agg (PrC (.slice a n cp) q).toArray := KS_val (hall 0 _ 75 rfl rfl) rfl
    have e76 : a'.eval (.tmp 76) = .bool g := KS_val (hall 1 _ 76 rfl rfl) rfl
    have e77 : a'.eval (.tmp 77) = .agg (PrC (.slice pa9 n pc9) q).toArray := KS_val (hall 2 _ 77 rfl rfl) rfl
    have e78 : a'.eval (.tmp 78) = .bool g := KS_val (hall 3 _ 78 rfl rfl) rfl
    have e79 : a'.eval (.tmp 79) = .bool true := KS_val (hall 4 _ 79 rfl rfl) rfl
    have e80 : a'.eval (.tmp 80) = .bool true := KS_val (hall 5 _ 80 rfl rfl) rfl
    have e81 : a'.eval (.tmp 81) = HV h := KS_val (hall 6 _ 81 rfl rfl) rfl
    have e82 : a'.eval (.tmp 82) = HV h := KS_val (hall 7 _ 82 rfl rfl) rfl
    have e83 : a'.eval (.tmp 83) = .bool true := KS_val (hall 8 _ 83 rfl rfl) rfl
    have e84 : a'.eval (.tmp 84) = .bool true := KS_val (hall 9 _ 84 rfl rfl) rfl
    have e85 : a'.eval (.tmp 85) = .bool true := KS_val (hall 10 _ 85 rfl rfl) rfl
    have e86 : a'.eval (.tmp 86) = .bool ok := KS_val (hall 11 _ 86 rfl rfl) rfl
    have e87 : a'.eval (.tmp 87) = .bool ok := KS_val (hall 12 _ 87 rfl rfl) rfl
    have e88 : a'.eval (.tmp 88) = .bool true := KS_val (hall 13 _ 88 rfl rfl) rfl
    have e89 : a'.eval (.tmp 89) = .bool true := KS_val (hall 14 _ 89 rfl rfl) rfl
    have e90 : a'.eval (.tmp 90) = .bool true := KS_val (hall 15 _ 90 rfl rfl) rfl
    have e91 : a'.eval (.tmp 91) = HV v1 := KS_val (hall 16 _ 91 rfl rfl) rfl
    have e92 : a'.eval (.tmp 92) = HV v1 := KS_val (hall 17 _ 92 rfl rfl) rfl
    have e93 : a'.eval (.tmp 93) = .bool true := KS_val (hall 18 _ 93 rfl rfl) rfl
    have e94 : a'.eval (.tmp 94) = .bool true := KS_val (hall 19 _ 94 rfl rfl) rfl
    have e95 : a'.eval (.tmp 95) = .bool true := KS_val (hall 20 _ 95 rfl rfl) rfl
    have e96 : a'.eval (.tmp 96) = .bool hs1 := KS_val (hall 21 _ 96 rfl rfl) rfl
    have e97 : a'.eval (.tmp 97) = .bool hs1 := KS_val (hall 22 _ 97 rfl rfl) rfl
    have e98 : a'.eval (.tmp 98) = .bool true := KS_val (hall 23 _ 98 rfl rfl) rfl
    have e99 : a'.eval (.tmp 99) = .bool true := KS_val (hall 24 _ 99 rfl rfl) rfl
    have e100 : a'.eval (.tmp 100) = .bool true := KS_val (hall 25 _ 100 rfl rfl) rfl
    have e101 : a'.eval (.tmp 101) = .bool my1 := KS_val (hall 26 _ 101 rfl rfl) rfl
    have e102 : a'.eval (.tmp 102) = .bool my1 := KS_val (hall 27 _ 102 rfl rfl) rfl
    have e103 : a'.eval (.tmp 103) = .bool true := KS_val (hall 28 _ 103 rfl rfl) rfl
    have e104 : a'.eval (.tmp 104) = .bool true := KS_val (hall 29 _ 104 rfl rfl) rfl
    have e105 : a'.eval (.tmp 105) = .bool true := KS_val (hall 30 _ 105 rfl rfl) rfl
    have e106 : a'.eval (.tmp 106) = HV v2 := KS_val (hall 31 _ 106 rfl rfl) rfl
    have e107 : a'.eval (.tmp 107) = HV v2 := KS_val (hall 32 _ 107 rfl rfl) rfl
    have e108 : a'.eval (.tmp 108) = .bool true := KS_val (hall 33 _ 108 rfl rfl) rfl
    have e109 : a'.eval (.tmp 109) = .bool true := KS_val (hall 34 _ 109 rfl rfl) rfl
    have e110 : a'.eval (.tmp 110) = .bool true := KS_val (hall 35 _ 110 rfl rfl) rfl
    have e111 : a'.eval (.tmp 111) = .bool hs2 := KS_val (hall 36 _ 111 rfl rfl) rfl
    have e112 : a'.eval (.tmp 112) = .bool hs2 := KS_val (hall 37 _ 112 rfl rfl) rfl
    have e113 : a'.eval (.tmp 113) = .bool true := KS_val (hall 38 _ 113 rfl rfl) rfl
    have e114 : a'.eval (.tmp 114) = .bool true := KS_val (hall 39 _ 114 rfl rfl) rfl
    have e115 : a'.eval (.tmp 115) = .bool true := KS_val (hall 40 _ 115 rfl rfl) rfl
    have e116 : a'.eval (.tmp 116) = .bool my2 := KS_val (hall 41 _ 116 rfl rfl) rfl
    have e117 : a'.eval (.tmp 117) = .bool my2 := KS_val (hall 42 _ 117 rfl rfl) rfl
    have e118 : a'.eval (.tmp 118) = .bool true := KS_val (hall 43 _ 118 rfl rfl) rfl
    have e119 : a'.eval (.tmp 119) = .bool true := KS_val (hall 44 _ 119 rfl rfl) rfl
    have e120 : a'.eval (.tmp 120) = .bool true := KS_val (hall 45 _ 120 rfl rfl) rfl
    have e121 : a'.eval (.tmp 121) = .bool true := KS_val (hall 46 _ 121 rfl rfl) rfl
    have e122 : a'.eval (.tmp 122) = .bool true := KS_val (hall 47 _ 122 rfl rfl) rfl
    have e6 : a'.eval (.tmp 6) = .bool true := KS_val (hall 48 _ 6 rfl rfl) rfl
    have ha := act_puts 123 rfl hsz hdf hk [75, 76, 77, 78, 79, 80, 81, 82, 83, 84, 85, 86, 87, 88, 89, 90, 91, 92, 93, 94, 95, 96, 97, 98, 99, 100, 101, 102, 103, 104, 105, 106, 107, 108, 109, 110, 111, 112, 113, 114, 115, 116, 117, 118, 119, 120, 121, 122, 6] (by decide +kernel)
    simp only [puts, List.foldl_cons, List.foldl_nil, e75, e76, e77, e78, e79, e80, e81, e82, e83, e84, e85, e86, e87, e88, e89, e90, e91, e92, e93, e94, e95, e96, e97, e98, e99, e100, e101, e102, e103, e104, e105, e106, e107, e108, e109, e110, e111, e112, e113, e114, e115, e116, e117, e118, e119, e120, e121, e122, e6] at ha
    simp only [Act.put, List.setIfInBounds_toArray, List.set_cons_succ, List.set_cons_zero] at ha
    clear hall hk hsz hdf e75 e76 e77 e78 e79 e80 e81 e82 e83 e84 e85 e86 e87 e88 e89 e90 e91 e92 e93 e94 e95 e96 e97 e98 e99 e100 e101 e102 e103 e104 e105 e106 e107 e108 e109 e110 e111 e112 e113 e114 e115 e116 e117 e118 e119 e120 e121 e122 e6
    subst ha
    have LL8 : Hid (Below N w w8) := (show _ from LL.out.trans (hg.mono GG.out))
    clear hg
    go_wp2_with fail
    go_ret
    exact ⟨rfl, LL8.out⟩
#print axioms memberChecks_any
end Go.Proofs.YtooffljimdklfaaDoor
