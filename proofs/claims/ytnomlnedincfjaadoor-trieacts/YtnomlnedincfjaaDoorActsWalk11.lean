/-
  The law TrieActs: the call returns true.
-/
import Derived.Test.YtnomlnedincfjaaDoorLawX11
namespace Go.Proofs.YtnomlnedincfjaaDoor
open Go.RowKit
set_option maxHeartbeats 4000000 in
set_option maxRecDepth 100000 in
theorem trieActs_any (L : List (Hs × Hs × Bool)) (v : Value) (k : Hs) (num : Nat) (w : World) (hT : Tabs w) (hr : RdG AE w v L) : Calls Tryd.prog 3 #[v, HV k, .int .u64 (num : Int)] w fun e w' => e = .returned (.bool true) ∧ Below w.heap.size w w' := by
  obtain ⟨N, HN⟩ : ∃ N, Hid (w.heap.size = N) := ⟨_, rfl⟩
  have h2 : 2 ≤ N := by rw [← HN.out]; exact hT.size
  have HT := hide hT
  have HR := hide hr
  obtain ⟨a, cp, rfl⟩ := hr.slice
  have HLOW : Hid (∀ b, InB (.slice a L.length cp) b → b < N) := (show _ from fun b hb => by rw [← HN.out]; exact hr.inB_lt hb)
  have hcap := hr.cap'
  clear hT hr
  obtain ⟨n, HNL⟩ : ∃ n, Hid (L.length = n) := ⟨_, rfl⟩
  rw [HNL.out] at HR HLOW hcap ⊢
  rw [HN.out]
  go_enter Tryd.func3, Tryd.ntmps3
  unfold HV
  go_upto_region 1 with fail
  obtain ⟨w1, hw1⟩ : ∃ z, z = w.alloc (.cells (By k.1).toArray 24 (0, 0)) := ⟨_, rfl⟩
  change Code.wp _ _ _ _ (w.alloc (.cells (By k.1).toArray 24 (0, 0)))
  rw [← hw1, HN.out]
  have KK : Hid (Blk w1 N 24 (By k.1)) := (show Blk _ _ _ _ by rw [hw1, ← HN.out]; exact Blk.new w 24 (By k.1))
  have LL : Hid (Below N w w1) := (show Below _ _ _ by rw [hw1, ← HN.out]; exact (Below.refl _ _).alloc (Nat.le_refl _) _)
  clear hw1
  have GG : Hid (N ≤ w1.heap.size) := (show _ ≤ _ from Nat.le_of_lt KK.out.lt)
  have TT := hide (HT.out.kept (LL.out.mono h2))
  have RR := hide (HR.out.kept (LL.out.mono (Nat.le_of_eq HN.out)))
  by_cases hn : 40 < n
  · have q1 : (40 : Int) < (n : Int) := by omega
    go_wp2_with (first
      | (go_at_call 9; refine (ulives_any _ TT.out).mono ?_; rintro e w9 ⟨rfl, hb9⟩; have TT_ := hide (TT.out.gr hb9); have LL_ : Hid (Below N w _) := (show _ from LL.out.trans (hb9.mono GG.out)); have GG_ : Hid (N ≤ _) := (show _ ≤ _ from Nat.le_trans GG.out hb9.size); clear hb9 TT LL GG; have TT := TT_; have LL := LL_; have GG := GG_; clear TT_ LL_ GG_)
      | fail)
    go_ret
    exact ⟨rfl, LL.out⟩
  have q1 : ¬ (40 : Int) < (n : Int) := by omega
  have HN40 : Hid (L.length ≤ 1000) := (show _ ≤ _ by rw [HNL.out]; omega)
  have hm1 := madeP_length L
  have hm2 := madeP_srt L
  obtain ⟨m, HMm⟩ : ∃ m, Hid (madeP L = m) := ⟨_, rfl⟩
  rw [HMm.out] at hm1 hm2
  rw [HNL.out] at hm1
  have HSR := hide hm2
  have HML : Hid (m.length ≤ 1000000) := (show _ ≤ _ by omega)
  obtain ⟨ln, HLN⟩ : ∃ z, Hid (m.length = z) := ⟨_, rfl⟩
  obtain ⟨vv, HVV⟩ : ∃ z, Hid (valP m k = z) := ⟨_, rfl⟩
  obtain ⟨hs, HHS⟩ : ∃ z, Hid (hasP m k = z) := ⟨_, rfl⟩
  obtain ⟨rt, HRT⟩ : ∃ z, Hid (rootP m = z) := ⟨_, rfl⟩
  obtain ⟨nn, hnn⟩ : ∃ z : Nat, z = num % 50 := ⟨_, rfl⟩
  have hmod : (num : Int) % 50 = (nn : Int) := by omega
  have hn50 : nn < 50 := by omega
  obtain ⟨mt, HTM⟩ : ∃ z, Hid (takeM m (nn : Int) = z) := ⟨_, rfl⟩
  obtain ⟨nl, HTL⟩ : ∃ z, Hid (mt.length = z) := ⟨_, rfl⟩
  have HM1 := hide hm1
  clear hm1 hm2 hnn
  go_upto_region 4 with (first
    | (go_at_call 10; refine (umade_m (B0 := N) HMm.out HLN.out RR.out HN40.out GG.out).mono ?_; rintro e w9 ⟨p, pa, lc, rfl, t9, o9, hb9⟩; have KK_ := hide (KK.out.kept hb9); have TT_ := hide (TT.out.gr hb9); have RR_ := hide (RR.out.kept hb9); have LL_ : Hid (Below N w _) := (show _ from LL.out.trans (hb9.mono GG.out)); have GG_ : Hid (N ≤ _) := (show _ ≤ _ from Nat.le_trans GG.out hb9.size); clear hb9 KK TT RR LL GG; have KK := KK_; have TT := TT_; have RR := RR_; have LL := LL_; have GG := GG_; clear KK_ TT_ RR_ LL_ GG_; have T1 := hide t9; have O1 := hide o9; clear t9 o9)
    | fail)
  go_upto_region 5 with (first
    | (refine wpList_load_mid rfl 24 _ rfl (N) 0 rfl (By (k).1) _ (KK.out.range0) Tryd.underlying24 rfl (Tryd.sizeH (k)) ?_)
    | (go_at_call 11; refine (tGet_m HVV.out HHS.out T1.out).mono ?_; rintro e w9 ⟨rfl, hb9⟩; have KK_ := hide (KK.out.kept hb9); have TT_ := hide (TT.out.gr hb9); have RR_ := hide (RR.out.kept hb9); have T1_ := hide (T1.out.kept hb9); have O1_ := hide (O1.out.kept hb9); have LL_ : Hid (Below N w _) := (show _ from LL.out.trans (hb9.mono GG.out)); have GG_ : Hid (N ≤ _) := (show _ ≤ _ from Nat.le_trans GG.out hb9.size); clear hb9 KK TT RR T1 O1 LL GG; have KK := KK_; have TT := TT_; have RR := RR_; have T1 := T1_; have O1 := O1_; have LL := LL_; have GG := GG_; clear KK_ TT_ RR_ T1_ O1_ LL_ GG_; obtain ⟨E1, HM⟩ : ∃ z, Hid (w9.heap.size = z) := ⟨_, rfl⟩)
    | (rw [HM.out]; refine wpList_store_blk rfl 24 _ _ rfl E1 (By zh.1) (By (vv).1) 24 rfl rfl (by rw [← HM.out]; exact Blk.new _ 24 (By zh.1)) (by rw [By_len, By_len]) (Tryd.sizeH (vv)) (By_one _) ?_; intro w9 hbk9 hu9; have hb9 := room_below HM.out hu9; have KK_ := hide (KK.out.kept hb9); have TT_ := hide (TT.out.gr hb9); have RR_ := hide (RR.out.kept hb9); have T1_ := hide (T1.out.kept hb9); have O1_ := hide (O1.out.kept hb9); have LL_ : Hid (Below N w _) := (show _ from LL.out.trans (hb9.mono GG.out)); have GG_ : Hid (N ≤ _) := (show _ ≤ _ from Nat.le_trans GG.out hb9.size); clear hb9 KK TT RR T1 O1 LL GG; have KK := KK_; have TT := TT_; have RR := RR_; have T1 := T1_; have O1 := O1_; have LL := LL_; have GG := GG_; clear KK_ TT_ RR_ T1_ O1_ LL_ GG_; have V1 := hide hbk9; clear hbk9 hu9 HM)
    | fail)
  go_upto_region 6 with (first
    | (refine wpList_load_mid rfl 24 _ rfl (N) 0 rfl (By (k).1) _ (KK.out.range0) Tryd.underlying24 rfl (Tryd.sizeH (k)) ?_)
    | (go_at_call 12; refine (yGet_m HVV.out HHS.out O1.out.rd HML.out).mono ?_; rintro e w9 ⟨rfl, hb9⟩; have KK_ := hide (KK.out.kept hb9); have TT_ := hide (TT.out.gr hb9); have RR_ := hide (RR.out.kept hb9); have T1_ := hide (T1.out.kept hb9); have O1_ := hide (O1.out.kept hb9); have V1_ := hide (V1.out.kept hb9); have LL_ : Hid (Below N w _) := (show _ from LL.out.trans (hb9.mono GG.out)); have GG_ : Hid (N ≤ _) := (show _ ≤ _ from Nat.le_trans GG.out hb9.size); clear hb9 KK TT RR T1 O1 V1 LL GG; have KK := KK_; have TT := TT_; have RR := RR_; have T1 := T1_; have O1 := O1_; have V1 := V1_; have LL := LL_; have GG := GG_; clear KK_ TT_ RR_ T1_ O1_ V1_ LL_ GG_; obtain ⟨E2, HM⟩ : ∃ z, Hid (w9.heap.size = z) := ⟨_, rfl⟩)
    | (rw [HM.out]; refine wpList_store_blk rfl 24 _ _ rfl E2 (By zh.1) (By (vv).1) 24 rfl rfl (by rw [← HM.out]; exact Blk.new _ 24 (By zh.1)) (by rw [By_len, By_len]) (Tryd.sizeH (vv)) (By_one _) ?_; intro w9 hbk9 hu9; have hb9 := room_below HM.out hu9; have KK_ := hide (KK.out.kept hb9); have TT_ := hide (TT.out.gr hb9); have RR_ := hide (RR.out.kept hb9); have T1_ := hide (T1.out.kept hb9); have O1_ := hide (O1.out.kept hb9); have V1_ := hide (V1.out.kept hb9); have LL_ : Hid (Below N w _) := (show _ from LL.out.trans (hb9.mono GG.out)); have GG_ : Hid (N ≤ _) := (show _ ≤ _ from Nat.le_trans GG.out hb9.size); clear hb9 KK TT RR T1 O1 V1 LL GG; have KK := KK_; have TT := TT_; have RR := RR_; have T1 := T1_; have O1 := O1_; have V1 := V1_; have LL := LL_; have GG := GG_; clear KK_ TT_ RR_ T1_ O1_ V1_ LL_ GG_; have V2 := hide hbk9; clear hbk9 hu9 HM)
    | fail)
  go_upto_region 8 with (first
    | (go_at_call 13; refine (uitems_m (B := N) HTM.out HTL.out T1.out.all HML.out GG.out).mono ?_; rintro e w9 ⟨pa3, lc3, rfl, o9, hb9⟩; have KK_ := hide (KK.out.kept hb9); have TT_ := hide (TT.out.gr hb9); have RR_ := hide (RR.out.kept hb9); have T1_ := hide (T1.out.kept hb9); have O1_ := hide (O1.out.kept hb9); have V1_ := hide (V1.out.kept hb9); have V2_ := hide (V2.out.kept hb9); have LL_ : Hid (Below N w _) := (show _ from LL.out.trans (hb9.mono GG.out)); have GG_ : Hid (N ≤ _) := (show _ ≤ _ from Nat.le_trans GG.out hb9.size); clear hb9 KK TT RR T1 O1 V1 V2 LL GG; have KK := KK_; have TT := TT_; have RR := RR_; have T1 := T1_; have O1 := O1_; have V1 := V1_; have V2 := V2_; have LL := LL_; have GG := GG_; clear KK_ TT_ RR_ T1_ O1_ V1_ V2_ LL_ GG_; have O3 := hide o9; clear o9)
    | fail)
  by_cases hc : nn < ln
  · have q3 : (nn : Int) < (ln : Int) := by omega
    obtain ⟨hs1, hs1r⟩ := slice_G_to (E := IE) (P := Tryd.prog) Tryd.underlying29 Tryd.sizeI' pa ln lc nn (by omega) (by have := O1.out.rd.cap; omega)
    have HS1 := hide hs1r
    clear hs1r
    have HLT : Hid (nl = nn) := (show _ = _ by rw [← HTL.out, ← HTM.out, takeM_nat, List.length_take, HLN.out]; omega)
    go_upto_region 11 with (first
      | (go_at_call 10; refine (umade_m (B0 := N) HMm.out HLN.out RR.out HN40.out GG.out).mono ?_; rintro e w9 ⟨p2, pa2, lc2, rfl, t9, o9, hb9⟩; have KK_ := hide (KK.out.kept hb9); have TT_ := hide (TT.out.gr hb9); have RR_ := hide (RR.out.kept hb9); have T1_ := hide (T1.out.kept hb9); have O1_ := hide (O1.out.kept hb9); have V1_ := hide (V1.out.kept hb9); have V2_ := hide (V2.out.kept hb9); have O3_ := hide (O3.out.kept hb9); have LL_ : Hid (Below N w _) := (show _ from LL.out.trans (hb9.mono GG.out)); have GG_ : Hid (N ≤ _) := (show _ ≤ _ from Nat.le_trans GG.out hb9.size); clear hb9 KK TT RR T1 O1 V1 V2 O3 LL GG; have KK := KK_; have TT := TT_; have RR := RR_; have T1 := T1_; have O1 := O1_; have V1 := V1_; have V2 := V2_; have O3 := O3_; have LL := LL_; have GG := GG_; clear KK_ TT_ RR_ T1_ O1_ V1_ V2_ O3_ LL_ GG_; have T2 := hide t9; have O2 := hide o9; clear t9 o9)
      | fail)
    have hqv := eqAA vv
    have hqr := eqAA rt
    have RD : Hid (RdG IE _ (.slice pa nn lc) mt) := (show RdG _ _ _ _ by have := HS1.out _ _ O1.out.rd; rw [← HTM.out, takeM_nat]; exact this)
    go_wp2_with (first
      | (refine wpList_load_mid rfl 24 _ rfl (E1) 0 rfl (By (vv).1) _ (V1.out.range0) Tryd.underlying24 rfl (Tryd.sizeH (vv)) ?_)
      | (refine wpList_load_mid rfl 24 _ rfl (E2) 0 rfl (By (vv).1) _ (V2.out.range0) Tryd.underlying24 rfl (Tryd.sizeH (vv)) ?_)
      | (go_at_call 14; refine (usame_m O3.out.rd RD.out).mono ?_; rintro e w9 ⟨rfl, hb9⟩; have KK_ := hide (KK.out.kept hb9); have TT_ := hide (TT.out.gr hb9); have RR_ := hide (RR.out.kept hb9); have T1_ := hide (T1.out.kept hb9); have O1_ := hide (O1.out.kept hb9); have V1_ := hide (V1.out.kept hb9); have V2_ := hide (V2.out.kept hb9); have O3_ := hide (O3.out.kept hb9); have T2_ := hide (T2.out.kept hb9); have O2_ := hide (O2.out.kept hb9); have LL_ : Hid (Below N w _) := (show _ from LL.out.trans (hb9.mono GG.out)); have GG_ : Hid (N ≤ _) := (show _ ≤ _ from Nat.le_trans GG.out hb9.size); clear hb9 KK TT RR T1 O1 V1 V2 O3 T2 O2 LL GG; have KK := KK_; have TT := TT_; have RR := RR_; have T1 := T1_; have O1 := O1_; have V1 := V1_; have V2 := V2_; have O3 := O3_; have T2 := T2_; have O2 := O2_; have LL := LL_; have GG := GG_; clear KK_ TT_ RR_ T1_ O1_ V1_ V2_ O3_ T2_ O2_ LL_ GG_)
      | (go_at_call 15; refine (tRoot_m HRT.out h2 T2.out TT.out GG.out).mono ?_; rintro e w9 ⟨rfl, ht9⟩; have KK_ := hide (ht9.blk KK.out (by decide)); have TT_ := hide (TT.out.tch ht9 h2 GG.out); have RR_ := hide (RR.out.tchLow ht9 GG.out HLOW.out); have T1_ := hide (T1.out.tch ht9); have O1_ := hide (O1.out.tch ht9 (by decide)); have V1_ := hide (ht9.blk V1.out (by decide)); have V2_ := hide (ht9.blk V2.out (by decide)); have O3_ := hide (O3.out.tch ht9 (by decide)); have T2_ := hide (T2.out.tch ht9); have O2_ := hide (O2.out.tch ht9 (by decide)); have LL_ : Hid (Below N w _) := (show _ from LL.out.trans (ht9.below GG.out)); have GG_ : Hid (N ≤ _) := (show _ ≤ _ from Nat.le_trans GG.out ht9.size); clear ht9 KK TT RR T1 O1 V1 V2 O3 T2 O2 LL GG; have KK := KK_; have TT := TT_; have RR := RR_; have T1 := T1_; have O1 := O1_; have V1 := V1_; have V2 := V2_; have O3 := O3_; have T2 := T2_; have O2 := O2_; have LL := LL_; have GG := GG_; clear KK_ TT_ RR_ T1_ O1_ V1_ V2_ O3_ T2_ O2_ LL_ GG_; clear RD)
      | (go_at_call 16; refine (yRoot_m HRT.out O2.out.rd HSR.out HML.out).mono ?_; rintro e w9 ⟨rfl, hb9⟩; have KK_ := hide (KK.out.kept hb9); have TT_ := hide (TT.out.gr hb9); have RR_ := hide (RR.out.kept hb9); have T1_ := hide (T1.out.kept hb9); have O1_ := hide (O1.out.kept hb9); have V1_ := hide (V1.out.kept hb9); have V2_ := hide (V2.out.kept hb9); have O3_ := hide (O3.out.kept hb9); have T2_ := hide (T2.out.kept hb9); have O2_ := hide (O2.out.kept hb9); have LL_ : Hid (Below N w _) := (show _ from LL.out.trans (hb9.mono GG.out)); have GG_ : Hid (N ≤ _) := (show _ ≤ _ from Nat.le_trans GG.out hb9.size); clear hb9 KK TT RR T1 O1 V1 V2 O3 T2 O2 LL GG; have KK := KK_; have TT := TT_; have RR := RR_; have T1 := T1_; have O1 := O1_; have V1 := V1_; have V2 := V2_; have O3 := O3_; have T2 := T2_; have O2 := O2_; have LL := LL_; have GG := GG_; clear KK_ TT_ RR_ T1_ O1_ V1_ V2_ O3_ T2_ O2_ LL_ GG_)
      | (go_at_call 17; refine (tLen_m HLN.out T2.out).mono ?_; rintro e w9 ⟨rfl, hw9⟩; subst w9)
      | (go_at_call 9; refine (ulives_any _ TT.out).mono ?_; rintro e w9 ⟨rfl, hb9⟩; have KK_ := hide (KK.out.kept hb9); have TT_ := hide (TT.out.gr hb9); have RR_ := hide (RR.out.kept hb9); have T1_ := hide (T1.out.kept hb9); have O1_ := hide (O1.out.kept hb9); have V1_ := hide (V1.out.kept hb9); have V2_ := hide (V2.out.kept hb9); have O3_ := hide (O3.out.kept hb9); have T2_ := hide (T2.out.kept hb9); have O2_ := hide (O2.out.kept hb9); have LL_ : Hid (Below N w _) := (show _ from LL.out.trans (hb9.mono GG.out)); have GG_ : Hid (N ≤ _) := (show _ ≤ _ from Nat.le_trans GG.out hb9.size); clear hb9 KK TT RR T1 O1 V1 V2 O3 T2 O2 LL GG; have KK := KK_; have TT := TT_; have RR := RR_; have T1 := T1_; have O1 := O1_; have V1 := V1_; have V2 := V2_; have O3 := O3_; have T2 := T2_; have O2 := O2_; have LL := LL_; have GG := GG_; clear KK_ TT_ RR_ T1_ O1_ V1_ V2_ O3_ T2_ O2_ LL_ GG_)
      | fail)
    go_ret
    exact ⟨rfl, LL.out⟩
  · have q3 : ¬ (nn : Int) < (ln : Int) := by omega
    go_upto_region 11 with (first
      | (go_at_call 10; refine (umade_m (B0 := N) HMm.out HLN.out RR.out HN40.out GG.out).mono ?_; rintro e w9 ⟨p2, pa2, lc2, rfl, t9, o9, hb9⟩; have KK_ := hide (KK.out.kept hb9); have TT_ := hide (TT.out.gr hb9); have RR_ := hide (RR.out.kept hb9); have T1_ := hide (T1.out.kept hb9); have O1_ := hide (O1.out.kept hb9); have V1_ := hide (V1.out.kept hb9); have V2_ := hide (V2.out.kept hb9); have O3_ := hide (O3.out.kept hb9); have LL_ : Hid (Below N w _) := (show _ from LL.out.trans (hb9.mono GG.out)); have GG_ : Hid (N ≤ _) := (show _ ≤ _ from Nat.le_trans GG.out hb9.size); clear hb9 KK TT RR T1 O1 V1 V2 O3 LL GG; have KK := KK_; have TT := TT_; have RR := RR_; have T1 := T1_; have O1 := O1_; have V1 := V1_; have V2 := V2_; have O3 := O3_; have LL := LL_; have GG := GG_; clear KK_ TT_ RR_ T1_ O1_ V1_ V2_ O3_ LL_ GG_; have T2 := hide t9; have O2 := hide o9; clear t9 o9)
      | fail)
    have hqv := eqAA vv
    have hqr := eqAA rt
    have RD : Hid (RdG IE _ (.slice pa ln lc) mt) := (show RdG _ _ _ _ by rw [← HTM.out, takeM_nat, List.take_of_length_le (by rw [HLN.out]; omega)]; exact O1.out.rd)
    go_wp2_with (first
      | (refine wpList_load_mid rfl 24 _ rfl (E1) 0 rfl (By (vv).1) _ (V1.out.range0) Tryd.underlying24 rfl (Tryd.sizeH (vv)) ?_)
      | (refine wpList_load_mid rfl 24 _ rfl (E2) 0 rfl (By (vv).1) _ (V2.out.range0) Tryd.underlying24 rfl (Tryd.sizeH (vv)) ?_)
      | (go_at_call 14; refine (usame_m O3.out.rd RD.out).mono ?_; rintro e w9 ⟨rfl, hb9⟩; have KK_ := hide (KK.out.kept hb9); have TT_ := hide (TT.out.gr hb9); have RR_ := hide (RR.out.kept hb9); have T1_ := hide (T1.out.kept hb9); have O1_ := hide (O1.out.kept hb9); have V1_ := hide (V1.out.kept hb9); have V2_ := hide (V2.out.kept hb9); have O3_ := hide (O3.out.kept hb9); have T2_ := hide (T2.out.kept hb9); have O2_ := hide (O2.out.kept hb9); have LL_ : Hid (Below N w _) := (show _ from LL.out.trans (hb9.mono GG.out)); have GG_ : Hid (N ≤ _) := (show _ ≤ _ from Nat.le_trans GG.out hb9.size); clear hb9 KK TT RR T1 O1 V1 V2 O3 T2 O2 LL GG; have KK := KK_; have TT := TT_; have RR := RR_; have T1 := T1_; have O1 := O1_; have V1 := V1_; have V2 := V2_; have O3 := O3_; have T2 := T2_; have O2 := O2_; have LL := LL_; have GG := GG_; clear KK_ TT_ RR_ T1_ O1_ V1_ V2_ O3_ T2_ O2_ LL_ GG_)
      | (go_at_call 15; refine (tRoot_m HRT.out h2 T2.out TT.out GG.out).mono ?_; rintro e w9 ⟨rfl, ht9⟩; have KK_ := hide (ht9.blk KK.out (by decide)); have TT_ := hide (TT.out.tch ht9 h2 GG.out); have RR_ := hide (RR.out.tchLow ht9 GG.out HLOW.out); have T1_ := hide (T1.out.tch ht9); have O1_ := hide (O1.out.tch ht9 (by decide)); have V1_ := hide (ht9.blk V1.out (by decide)); have V2_ := hide (ht9.blk V2.out (by decide)); have O3_ := hide (O3.out.tch ht9 (by decide)); have T2_ := hide (T2.out.tch ht9); have O2_ := hide (O2.out.tch ht9 (by decide)); have LL_ : Hid (Below N w _) := (show _ from LL.out.trans (ht9.below GG.out)); have GG_ : Hid (N ≤ _) := (show _ ≤ _ from Nat.le_trans GG.out ht9.size); clear ht9 KK TT RR T1 O1 V1 V2 O3 T2 O2 LL GG; have KK := KK_; have TT := TT_; have RR := RR_; have T1 := T1_; have O1 := O1_; have V1 := V1_; have V2 := V2_; have O3 := O3_; have T2 := T2_; have O2 := O2_; have LL := LL_; have GG := GG_; clear KK_ TT_ RR_ T1_ O1_ V1_ V2_ O3_ T2_ O2_ LL_ GG_; clear RD)
      | (go_at_call 16; refine (yRoot_m HRT.out O2.out.rd HSR.out HML.out).mono ?_; rintro e w9 ⟨rfl, hb9⟩; have KK_ := hide (KK.out.kept hb9); have TT_ := hide (TT.out.gr hb9); have RR_ := hide (RR.out.kept hb9); have T1_ := hide (T1.out.kept hb9); have O1_ := hide (O1.out.kept hb9); have V1_ := hide (V1.out.kept hb9); have V2_ := hide (V2.out.kept hb9); have O3_ := hide (O3.out.kept hb9); have T2_ := hide (T2.out.kept hb9); have O2_ := hide (O2.out.kept hb9); have LL_ : Hid (Below N w _) := (show _ from LL.out.trans (hb9.mono GG.out)); have GG_ : Hid (N ≤ _) := (show _ ≤ _ from Nat.le_trans GG.out hb9.size); clear hb9 KK TT RR T1 O1 V1 V2 O3 T2 O2 LL GG; have KK := KK_; have TT := TT_; have RR := RR_; have T1 := T1_; have O1 := O1_; have V1 := V1_; have V2 := V2_; have O3 := O3_; have T2 := T2_; have O2 := O2_; have LL := LL_; have GG := GG_; clear KK_ TT_ RR_ T1_ O1_ V1_ V2_ O3_ T2_ O2_ LL_ GG_)
      | (go_at_call 17; refine (tLen_m HLN.out T2.out).mono ?_; rintro e w9 ⟨rfl, hw9⟩; subst w9)
      | (go_at_call 9; refine (ulives_any _ TT.out).mono ?_; rintro e w9 ⟨rfl, hb9⟩; have KK_ := hide (KK.out.kept hb9); have TT_ := hide (TT.out.gr hb9); have RR_ := hide (RR.out.kept hb9); have T1_ := hide (T1.out.kept hb9); have O1_ := hide (O1.out.kept hb9); have V1_ := hide (V1.out.kept hb9); have V2_ := hide (V2.out.kept hb9); have O3_ := hide (O3.out.kept hb9); have T2_ := hide (T2.out.kept hb9); have O2_ := hide (O2.out.kept hb9); have LL_ : Hid (Below N w _) := (show _ from LL.out.trans (hb9.mono GG.out)); have GG_ : Hid (N ≤ _) := (show _ ≤ _ from Nat.le_trans GG.out hb9.size); clear hb9 KK TT RR T1 O1 V1 V2 O3 T2 O2 LL GG; have KK := KK_; have TT := TT_; have RR := RR_; have T1 := T1_; have O1 := O1_; have V1 := V1_; have V2 := V2_; have O3 := O3_; have T2 := T2_; have O2 := O2_; have LL := LL_; have GG := GG_; clear KK_ TT_ RR_ T1_ O1_ V1_ V2_ O3_ T2_ O2_ LL_ GG_)
      | fail)
    go_ret
    exact ⟨rfl, LL.out⟩
#print axioms trieActs_any
end Go.Proofs.YtnomlnedincfjaaDoor
