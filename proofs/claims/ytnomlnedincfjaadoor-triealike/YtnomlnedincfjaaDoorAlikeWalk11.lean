/-
  The law TrieAlike: the call returns true.
-/
import Derived.Test.YtnomlnedincfjaaDoorLawX11
namespace Go.Proofs.YtnomlnedincfjaaDoor
open Go.RowKit
theorem back_has {m : List It} {k v v2 : Hs} (h : Srt m) (hv : valP m k = v2) (hh : hasP m k = true) : putP (dropP (putP m k v) k) k v2 = m := by
  refine (((h.put k v).drop k).put k v2).ext h (fun q => ?_)
  rw [getP_put, getP_drop, getP_put]
  by_cases hq : q = k
  · rw [if_pos hq, hq]
    unfold valP at hv
    unfold hasP at hh
    cases e : getP m k with
    | none => rw [e] at hh; cases hh
    | some z => rw [e] at hv; rw [← hv]; rfl
  · rw [if_neg hq, if_neg hq, if_neg hq]
theorem back_not {m : List It} {k v : Hs} (h : Srt m) (hh : hasP m k = false) : dropP (putP m k v) k = m := by
  refine ((h.put k v).drop k).ext h (fun q => ?_)
  rw [getP_drop, getP_put]
  by_cases hq : q = k
  · rw [if_pos hq, hq]
    unfold hasP at hh
    cases e : getP m k with
    | none => rfl
    | some z => rw [e] at hh; cases hh
  · rw [if_neg hq, if_neg hq]
set_option maxHeartbeats 8000000 in
set_option maxRecDepth 100000 in
theorem trieAlike_any (L : List (Hs × Hs × Bool)) (v : Value) (x : Hs × Hs × Bool) (w : World) (hT : Tabs w) (hr : RdG AE w v L) : Calls Tryd.prog 8 #[v, .agg (AE.c x).toArray] w fun e w' => e = .returned (.bool true) ∧ Below w.heap.size w w' := by
  obtain ⟨N, HN⟩ : ∃ N, Hid (w.heap.size = N) := ⟨_, rfl⟩
  have h2 : 2 ≤ N := by rw [← HN.out]; exact hT.size
  have HT := hide hT
  have HR := hide hr
  obtain ⟨a, cp, rfl⟩ := hr.slice
  have HLOW : Hid (∀ b, InB (.slice a L.length cp) b → b < N) := (show _ from fun b hb => by rw [← HN.out]; exact hr.inB_lt hb)
  have hcap := hr.cap'
  clear hT hr
  obtain ⟨n, HNL⟩ : ∃ n, Hid (L.length = n) := ⟨_, rfl⟩
  rw [HNL.out] at HR HLOW hcap ⊢
  rw [HN.out]
  go_enter Tryd.func8, Tryd.ntmps8
  go_upto_region 1 with fail
  obtain ⟨w1, hw1⟩ : ∃ z, z = w.alloc (.cells (AE.c x).toArray 48 (0, 0)) := ⟨_, rfl⟩
  change Code.wp _ _ _ _ (w.alloc (.cells (AE.c x).toArray 48 (0, 0)))
  rw [← hw1, HN.out]
  have XX : Hid (Blk w1 N 48 (AE.c x)) := (show Blk _ _ _ _ by rw [hw1, ← HN.out]; exact Blk.new w 48 (AE.c x))
  have LL : Hid (Below N w w1) := (show Below _ _ _ by rw [hw1, ← HN.out]; exact (Below.refl _ _).alloc (Nat.le_refl _) _)
  clear hw1
  have GG : Hid (N ≤ w1.heap.size) := (show _ ≤ _ from Nat.le_of_lt XX.out.lt)
  have TT := hide (HT.out.kept (LL.out.mono h2))
  have RR := hide (HR.out.kept (LL.out.mono (Nat.le_of_eq HN.out)))
  by_cases hn : 30 < n
  · have q1 : (30 : Int) < (n : Int) := by omega
    go_wp2_with (first
      | (go_at_call 9; refine (ulives_any _ TT.out).mono ?_; rintro e w9 ⟨rfl, hb9⟩; have TT_ := hide (TT.out.gr hb9); have LL_ : Hid (Below N w _) := (show _ from LL.out.trans (hb9.mono GG.out)); have GG_ : Hid (N ≤ _) := (show _ ≤ _ from Nat.le_trans GG.out hb9.size); clear hb9 TT LL GG; have TT := TT_; have LL := LL_; have GG := GG_; clear TT_ LL_ GG_)
      | fail)
    go_ret
    exact ⟨rfl, LL.out⟩
  have q1 : ¬ (30 : Int) < (n : Int) := by omega
  have HN40 : Hid (L.length ≤ 1000) := (show _ ≤ _ by rw [HNL.out]; omega)
  have hm1 := madeP_length L
  have hm2 := madeP_srt L
  obtain ⟨m, HMm⟩ : ∃ m, Hid (madeP L = m) := ⟨_, rfl⟩
  rw [HMm.out] at hm1 hm2
  rw [HNL.out] at hm1
  have HSR := hide hm2
  have HML : Hid (m.length ≤ 1000000) := (show _ ≤ _ by omega)
  have hs1 := hm2.put x.1 x.2.1
  have hl1 : (putP m x.1 x.2.1).length ≤ 1000 := by rw [putP_length hm2]; split <;> omega
  have hl2 : (dropP (putP m x.1 x.2.1) x.1).length ≤ 1000 := by have := dropP_length hs1 x.1; omega
  have HBH : Hid (∀ v2, valP m x.1 = v2 → hasP m x.1 = true → putP (dropP (putP m x.1 x.2.1) x.1) x.1 v2 = m) := (show _ from fun v2 h3 h4 => back_has hm2 h3 h4)
  have HBN : Hid (hasP m x.1 = false → dropP (putP m x.1 x.2.1) x.1 = m) := (show _ from fun h4 => back_not hm2 h4)
  obtain ⟨mu, HMU⟩ : ∃ z, Hid (putP m x.1 x.2.1 = z) := ⟨_, rfl⟩
  rw [HMU.out] at hs1 hl1 hl2 HBH HBN
  obtain ⟨mw, HMW⟩ : ∃ z, Hid (dropP mu x.1 = z) := ⟨_, rfl⟩
  rw [HMW.out] at hl2 HBH HBN
  have HSU := hide hs1
  have HUL : Hid (mu.length ≤ 1000000) := (show _ ≤ _ by omega)
  have HWL : Hid (mw.length ≤ 1000000) := (show _ ≤ _ by omega)
  obtain ⟨ln, HLN⟩ : ∃ z, Hid (m.length = z) := ⟨_, rfl⟩
  obtain ⟨v2, HV2⟩ : ∃ z, Hid (valP m x.1 = z) := ⟨_, rfl⟩
  obtain ⟨h2v, HH2⟩ : ∃ z, Hid (hasP m x.1 = z) := ⟨_, rfl⟩
  obtain ⟨rt, HRT⟩ : ∃ z, Hid (rootP m = z) := ⟨_, rfl⟩
  obtain ⟨ru, HRU⟩ : ∃ z, Hid (rootP mu = z) := ⟨_, rfl⟩
  have hlb : ln ≤ 30 := by rw [← HLN.out]; omega
  clear hm1 hm2 hs1 hl1 hl2
  go_upto_region 4 with (first
    | (go_at_call 10; refine (umade_m (B0 := N) HMm.out HLN.out RR.out HN40.out GG.out).mono ?_; rintro e w9 ⟨p, pa, lc, rfl, t9, o9, hb9⟩; have XX_ := hide (XX.out.kept hb9); have TT_ := hide (TT.out.gr hb9); have RR_ := hide (RR.out.kept hb9); have LL_ : Hid (Below N w _) := (show _ from LL.out.trans (hb9.mono GG.out)); have GG_ : Hid (N ≤ _) := (show _ ≤ _ from Nat.le_trans GG.out hb9.size); clear hb9 XX TT RR LL GG; have XX := XX_; have TT := TT_; have RR := RR_; have LL := LL_; have GG := GG_; clear XX_ TT_ RR_ LL_ GG_; have T1 := hide t9; have O1 := hide o9; clear t9 o9)
    | fail)
  go_upto_region 5 with (first
    | (refine wpList_load_mid rfl 24 _ rfl (N) 0 rfl (By (x.1).1) _ (AEkey XX.out) Tryd.underlying24 rfl (Tryd.sizeH (x.1)) ?_)
    | (refine wpList_load_mid rfl 24 _ rfl (N) 32 rfl (By (x.2.1).1) _ (AEval XX.out) Tryd.underlying24 rfl (Tryd.sizeH (x.2.1)) ?_)
    | (go_at_call 23; refine (tPut_m HMU.out T1.out GG.out HML.out).mono ?_; rintro e w9 ⟨pu, rfl, t9, hb9⟩; have XX_ := hide (XX.out.kept hb9); have TT_ := hide (TT.out.gr hb9); have T1_ := hide (T1.out.kept hb9); have O1_ := hide (O1.out.kept hb9); have LL_ : Hid (Below N w _) := (show _ from LL.out.trans (hb9.mono GG.out)); have GG_ : Hid (N ≤ _) := (show _ ≤ _ from Nat.le_trans GG.out hb9.size); clear hb9 XX TT T1 O1 LL GG; have XX := XX_; have TT := TT_; have T1 := T1_; have O1 := O1_; have LL := LL_; have GG := GG_; clear XX_ TT_ T1_ O1_ LL_ GG_; have TU := hide t9; clear t9)
    | fail)
  go_upto_region 6 with (first
    | (refine wpList_load_mid rfl 24 _ rfl (N) 0 rfl (By (x.1).1) _ (AEkey XX.out) Tryd.underlying24 rfl (Tryd.sizeH (x.1)) ?_)
    | (go_at_call 11; refine (tGet_m HV2.out HH2.out T1.out).mono ?_; rintro e w9 ⟨rfl, hb9⟩; have XX_ := hide (XX.out.kept hb9); have TT_ := hide (TT.out.gr hb9); have T1_ := hide (T1.out.kept hb9); have O1_ := hide (O1.out.kept hb9); have TU_ := hide (TU.out.kept hb9); have LL_ : Hid (Below N w _) := (show _ from LL.out.trans (hb9.mono GG.out)); have GG_ : Hid (N ≤ _) := (show _ ≤ _ from Nat.le_trans GG.out hb9.size); clear hb9 XX TT T1 O1 TU LL GG; have XX := XX_; have TT := TT_; have T1 := T1_; have O1 := O1_; have TU := TU_; have LL := LL_; have GG := GG_; clear XX_ TT_ T1_ O1_ TU_ LL_ GG_; obtain ⟨E1, HM⟩ : ∃ z, Hid (w9.heap.size = z) := ⟨_, rfl⟩)
    | (rw [HM.out]; refine wpList_store_blk rfl 24 _ _ rfl E1 (By zh.1) (By (v2).1) 24 rfl rfl (by rw [← HM.out]; exact Blk.new _ 24 (By zh.1)) (by rw [By_len, By_len]) (Tryd.sizeH (v2)) (By_one _) ?_; intro w9 hbk9 hu9; have hb9 := room_below HM.out hu9; have XX_ := hide (XX.out.kept hb9); have TT_ := hide (TT.out.gr hb9); have T1_ := hide (T1.out.kept hb9); have O1_ := hide (O1.out.kept hb9); have TU_ := hide (TU.out.kept hb9); have LL_ : Hid (Below N w _) := (show _ from LL.out.trans (hb9.mono GG.out)); have GG_ : Hid (N ≤ _) := (show _ ≤ _ from Nat.le_trans GG.out hb9.size); clear hb9 XX TT T1 O1 TU LL GG; have XX := XX_; have TT := TT_; have T1 := T1_; have O1 := O1_; have TU := TU_; have LL := LL_; have GG := GG_; clear XX_ TT_ T1_ O1_ TU_ LL_ GG_; have V2 := hide hbk9; clear hbk9 hu9 HM)
    | fail)
  go_upto_region 7 with (first
    | (refine wpList_load_mid rfl 24 _ rfl (N) 0 rfl (By (x.1).1) _ (AEkey XX.out) Tryd.underlying24 rfl (Tryd.sizeH (x.1)) ?_)
    | (go_at_call 24; refine (tDrop_m HMW.out TU.out GG.out HUL.out).mono ?_; rintro e w9 ⟨pw, rfl, t9, hb9⟩; have XX_ := hide (XX.out.kept hb9); have TT_ := hide (TT.out.gr hb9); have T1_ := hide (T1.out.kept hb9); have O1_ := hide (O1.out.kept hb9); have TU_ := hide (TU.out.kept hb9); have V2_ := hide (V2.out.kept hb9); have LL_ : Hid (Below N w _) := (show _ from LL.out.trans (hb9.mono GG.out)); have GG_ : Hid (N ≤ _) := (show _ ≤ _ from Nat.le_trans GG.out hb9.size); clear hb9 XX TT T1 O1 TU V2 LL GG; have XX := XX_; have TT := TT_; have T1 := T1_; have O1 := O1_; have TU := TU_; have V2 := V2_; have LL := LL_; have GG := GG_; clear XX_ TT_ T1_ O1_ TU_ V2_ LL_ GG_; have TW := hide t9; clear t9)
    | fail)
  cases h2v with
  | true =>
    have HMX : Hid (putP mw x.1 v2 = m) := (show _ = _ from HBH.out v2 HV2.out HH2.out)
    go_upto_region 9 with (first
      | (refine wpList_load_mid rfl 24 _ rfl (N) 0 rfl (By (x.1).1) _ (AEkey XX.out) Tryd.underlying24 rfl (Tryd.sizeH (x.1)) ?_)
      | (refine wpList_load_mid rfl 24 _ rfl (E1) 0 rfl (By (v2).1) _ (V2.out.range0) Tryd.underlying24 rfl (Tryd.sizeH (v2)) ?_)
      | (go_at_call 23; refine (tPut_m HMX.out TW.out GG.out HWL.out).mono ?_; rintro e w9 ⟨px, rfl, t9, hb9⟩; have XX_ := hide (XX.out.kept hb9); have TT_ := hide (TT.out.gr hb9); have T1_ := hide (T1.out.kept hb9); have O1_ := hide (O1.out.kept hb9); have TU_ := hide (TU.out.kept hb9); have V2_ := hide (V2.out.kept hb9); have TW_ := hide (TW.out.kept hb9); have LL_ : Hid (Below N w _) := (show _ from LL.out.trans (hb9.mono GG.out)); have GG_ : Hid (N ≤ _) := (show _ ≤ _ from Nat.le_trans GG.out hb9.size); clear hb9 XX TT T1 O1 TU V2 TW LL GG; have XX := XX_; have TT := TT_; have T1 := T1_; have O1 := O1_; have TU := TU_; have V2 := V2_; have TW := TW_; have LL := LL_; have GG := GG_; clear XX_ TT_ T1_ O1_ TU_ V2_ TW_ LL_ GG_; have TX := hide t9; clear t9)
      | fail)
    go_upto_region 10 with (first
      | (go_at_call 13; refine (uitems_m (B := N) (takeM_all m) HLN.out T1.out.all HML.out GG.out).mono ?_; rintro e w9 ⟨pa3, lc3, rfl, o9, hb9⟩; have XX_ := hide (XX.out.kept hb9); have TT_ := hide (TT.out.gr hb9); have T1_ := hide (T1.out.kept hb9); have O1_ := hide (O1.out.kept hb9); have TU_ := hide (TU.out.kept hb9); have V2_ := hide (V2.out.kept hb9); have TW_ := hide (TW.out.kept hb9); have TX_ := hide (TX.out.kept hb9); have LL_ : Hid (Below N w _) := (show _ from LL.out.trans (hb9.mono GG.out)); have GG_ : Hid (N ≤ _) := (show _ ≤ _ from Nat.le_trans GG.out hb9.size); clear hb9 XX TT T1 O1 TU V2 TW TX LL GG; have XX := XX_; have TT := TT_; have T1 := T1_; have O1 := O1_; have TU := TU_; have V2 := V2_; have TW := TW_; have TX := TX_; have LL := LL_; have GG := GG_; clear XX_ TT_ T1_ O1_ TU_ V2_ TW_ TX_ LL_ GG_; have O3 := hide o9; clear o9)
      | fail)
    go_upto_region 11 with (first
      | (go_at_call 13; refine (uitems_m (B := N) (takeM_all m) HLN.out TX.out.all HML.out GG.out).mono ?_; rintro e w9 ⟨pa4, lc4, rfl, o9, hb9⟩; have XX_ := hide (XX.out.kept hb9); have TT_ := hide (TT.out.gr hb9); have T1_ := hide (T1.out.kept hb9); have O1_ := hide (O1.out.kept hb9); have TU_ := hide (TU.out.kept hb9); have V2_ := hide (V2.out.kept hb9); have TW_ := hide (TW.out.kept hb9); have TX_ := hide (TX.out.kept hb9); have O3_ := hide (O3.out.kept hb9); have LL_ : Hid (Below N w _) := (show _ from LL.out.trans (hb9.mono GG.out)); have GG_ : Hid (N ≤ _) := (show _ ≤ _ from Nat.le_trans GG.out hb9.size); clear hb9 XX TT T1 O1 TU V2 TW TX O3 LL GG; have XX := XX_; have TT := TT_; have T1 := T1_; have O1 := O1_; have TU := TU_; have V2 := V2_; have TW := TW_; have TX := TX_; have O3 := O3_; have LL := LL_; have GG := GG_; clear XX_ TT_ T1_ O1_ TU_ V2_ TW_ TX_ O3_ LL_ GG_; have O4 := hide o9; clear o9)
      | fail)
    refine wp_region_invR (Tch.ok N) Tryd.mixed (KR (R := Tch N) (fun i_ => match i_ with | 0 | 1 | 2 | 3 | 4 | 7 | 8 | 9 | 14 | 15 | 16 | 21 | 22 | 23 | 33 | 34 | 35 | 36 | 37 | 38 => .val (.bool true) | 5 => .val (.slice pa3 ln lc3) | 6 => .val (.slice pa4 ln lc4) | 10 => .val (PT px) | 11 | 13 | 18 | 20 => .val (HV rt) | 12 | 17 => .val (PT p) | 19 | 26 => .val (.slice pa ln lc) | 24 => .val (PT pu) | 25 | 32 => .val (HV ru) | 27 => .val (.pointer (some ⟨N, 0, none⟩)) | 28 => .val (HV x.1) | 29 => .val (.pointer (some ⟨N, 32, none⟩)) | 30 => .val (HV x.2.1) | 31 => .of (fun w v_ => OwnG IE w N 46 v_ mu) (fun _ _ _ hg h => h.tch hg (by decide)) | _ => .free)) 95 rfl (by decide +kernel) (KR_mono _) ?_ ?_
    · refine AllFrom.cons (fun a' w' hg hk hd => ?_) (AllFrom.cons (fun a' w' hg hk hd => ?_) (AllFrom.cons (fun a' w' hg hk hd => ?_) (AllFrom.cons (fun a' w' hg hk hd => ?_) (AllFrom.cons (fun a' w' hg hk hd => ?_) (AllFrom.cons (fun a' w' hg hk hd => ?_) (AllFrom.cons (fun a' w' hg hk hd => ?_) (AllFrom.cons (fun a' w' hg hk hd => ?_) (AllFrom.cons (fun a' w' hg hk hd => ?_) (AllFrom.cons (fun a' w' hg hk hd => ?_) (AllFrom.cons (fun a' w' hg hk hd => ?_) (AllFrom.cons (fun a' w' hg hk hd => ?_) (AllFrom.cons (fun a' w' hg hk hd => ?_) (AllFrom.cons (fun a' w' hg hk hd => ?_) (AllFrom.cons (fun a' w' hg hk hd => ?_) (AllFrom.cons (fun a' w' hg hk hd => ?_) (AllFrom.cons (fun a' w' hg hk hd => ?_) (AllFrom.cons (fun a' w' hg hk hd => ?_) (AllFrom.cons (fun a' w' hg hk hd => ?_) (AllFrom.cons (fun a' w' hg hk hd => ?_) (AllFrom.cons (fun a' w' hg hk hd => ?_) (AllFrom.cons (fun a' w' hg hk hd => ?_) (AllFrom.cons (fun a' w' hg hk hd => ?_) (AllFrom.cons (fun a' w' hg hk hd => ?_) (AllFrom.cons (fun a' w' hg hk hd => ?_) (AllFrom.cons (fun a' w' hg hk hd => ?_) (AllFrom.cons (fun a' w' hg hk hd => ?_) (AllFrom.cons (fun a' w' hg hk hd => ?_) (AllFrom.cons (fun a' w' hg hk hd => ?_) (AllFrom.cons (fun a' w' hg hk hd => ?_) (AllFrom.cons (fun a' w' hg hk hd => ?_) (AllFrom.cons (fun a' w' hg hk hd => ?_) (AllFrom.cons (fun a' w' hg hk hd => ?_) (AllFrom.cons (fun a' w' hg hk hd => ?_) (AllFrom.cons (fun a' w' hg hk hd => ?_) (AllFrom.cons (fun a' w' hg hk hd => ?_) (AllFrom.cons (fun a' w' hg hk hd => ?_) (AllFrom.cons (fun a' w' hg hk hd => ?_) (AllFrom.cons (fun a' w' hg hk hd => ?_) AllFrom.nil))))))))))))))))))))))))))))))))))))))
      · skip
        intro Q
        have e12 : a'.eval (.tmp 12) = .bool true := hk.at 12 (by decide +kernel)
        exact wp_valueR (Tch.ok N) _ (by simp only [execOp, e12]; rfl) (KR_mkv rfl rfl)
      · skip
        intro Q
        have e57 : a'.eval (.tmp 57) = .bool true := KR_val (hd.val 0 57 (by decide +kernel)) rfl
        exact wp_valueR (Tch.ok N) _ (by simp only [execOp, e57]; rfl) (KR_mkv rfl rfl)
      · skip
        have eg : a'.eval (.tmp 58) = .bool true := KR_val (hd.val 1 58 (by decide +kernel)) rfl
        refine ⟨58, true, rfl, eg, fun _ Q => ?_, fun h => absurd rfl h⟩
        have e14 : a'.eval (.tmp 14) = .bool true := hk.at 14 (by decide +kernel)
        exact wp_valueR (Tch.ok N) _ (by simp only [execOp, e14]; rfl) (KR_mkv rfl rfl)
      · skip
        intro Q
        have e58 : a'.eval (.tmp 58) = .bool true := KR_val (hd.val 1 58 (by decide +kernel)) rfl
        have e59 : a'.eval (.tmp 59) = .bool true := KR_val (hd.val 2 59 (by decide +kernel)) rfl
        clear hd hk
        exact wp_valueR (Tch.ok N) (.bool true) (by simp only [execOp, e58, e59]; go_simp) (KR_mkv rfl rfl)
      · skip
        intro Q
        have e60 : a'.eval (.tmp 60) = .bool true := KR_val (hd.val 3 60 (by decide +kernel)) rfl
        exact wp_valueR (Tch.ok N) _ (by simp only [execOp, e60]; rfl) (KR_mkv rfl rfl)
      · skip
        have eg : a'.eval (.tmp 61) = .bool true := KR_val (hd.val 4 61 (by decide +kernel)) rfl
        refine ⟨61, true, rfl, eg, fun _ Q => ?_, fun h => absurd rfl h⟩
        have e11 : a'.eval (.tmp 11) = .slice pa3 ln lc3 := hk.at 11 (by decide +kernel)
        exact wp_valueR (Tch.ok N) _ (by simp only [execOp, e11]; rfl) (KR_mkv rfl rfl)
      · skip
        have eg : a'.eval (.tmp 61) = .bool true := KR_val (hd.val 4 61 (by decide +kernel)) rfl
        refine ⟨61, true, rfl, eg, fun _ Q => ?_, fun h => absurd rfl h⟩
        have e13 : a'.eval (.tmp 13) = .slice pa4 ln lc4 := hk.at 13 (by decide +kernel)
        exact wp_valueR (Tch.ok N) _ (by simp only [execOp, e13]; rfl) (KR_mkv rfl rfl)
      · skip
        have eg : a'.eval (.tmp 61) = .bool true := KR_val (hd.val 4 61 (by decide +kernel)) rfl
        refine ⟨61, true, rfl, eg, fun _ Q => ?_, fun h => absurd rfl h⟩
        have e62 : a'.eval (.tmp 62) = .slice pa3 ln lc3 := KR_val (hd.val 5 62 (by decide +kernel)) rfl
        have e63 : a'.eval (.tmp 63) = .slice pa4 ln lc4 := KR_val (hd.val 6 63 (by decide +kernel)) rfl
        refine wp_callR 14 _ (run_enter 14 _ _ rfl (by kernel_rfl)) ?_
        simp only [List.map_toArray, List.map_nil, List.map_cons, e62, e63]
        refine (usame_m (O3.out.tch hg (by decide)).rd (O4.out.tch hg (by decide)).rd).mono ?_
        rintro e w5 ⟨rfl, hb5⟩
        exact ⟨_, rfl, KR_mkv rfl rfl, .of_below hb5⟩
      · skip
        intro Q
        have e61 : a'.eval (.tmp 61) = .bool true := KR_val (hd.val 4 61 (by decide +kernel)) rfl
        have e64 : a'.eval (.tmp 64) = .bool true := KR_val (hd.val 7 64 (by decide +kernel)) rfl
        clear hd hk
        exact wp_valueR (Tch.ok N) (.bool true) (by simp only [execOp, e61, e64]; go_simp) (KR_mkv rfl rfl)
      · skip
        intro Q
        have e65 : a'.eval (.tmp 65) = .bool true := KR_val (hd.val 8 65 (by decide +kernel)) rfl
        exact wp_valueR (Tch.ok N) _ (by simp only [execOp, e65]; rfl) (KR_mkv rfl rfl)
      · skip
        have eg : a'.eval (.tmp 66) = .bool true := KR_val (hd.val 9 66 (by decide +kernel)) rfl
        refine ⟨66, true, rfl, eg, fun _ Q => ?_, fun h => absurd rfl h⟩
        have e10 : a'.eval (.tmp 10) = PT px := hk.at 10 (by decide +kernel)
        exact wp_valueR (Tch.ok N) _ (by simp only [execOp, e10]; rfl) (KR_mkv rfl rfl)
      · skip
        have eg : a'.eval (.tmp 66) = .bool true := KR_val (hd.val 9 66 (by decide +kernel)) rfl
        refine ⟨66, true, rfl, eg, fun _ Q => ?_, fun h => absurd rfl h⟩
        have e67 : a'.eval (.tmp 67) = PT px := KR_val (hd.val 10 67 (by decide +kernel)) rfl
        refine wp_callR 15 _ (run_enter 15 _ _ rfl (by kernel_rfl)) ?_
        simp only [List.map_toArray, List.map_nil, List.map_cons, e67]
        refine (tRoot_m HRT.out h2 (TX.out.tch hg) (TT.out.tch hg h2 GG.out) (Nat.le_trans GG.out hg.size)).mono ?_
        rintro e w5 ⟨rfl, hb5⟩
        exact ⟨_, rfl, KR_mkv rfl rfl, hb5⟩
      · skip
        have eg : a'.eval (.tmp 66) = .bool true := KR_val (hd.val 9 66 (by decide +kernel)) rfl
        refine ⟨66, true, rfl, eg, fun _ Q => ?_, fun h => absurd rfl h⟩
        have e5 : a'.eval (.tmp 5) = PT p := hk.at 5 (by decide +kernel)
        exact wp_valueR (Tch.ok N) _ (by simp only [execOp, e5]; rfl) (KR_mkv rfl rfl)
      · skip
        have eg : a'.eval (.tmp 66) = .bool true := KR_val (hd.val 9 66 (by decide +kernel)) rfl
        refine ⟨66, true, rfl, eg, fun _ Q => ?_, fun h => absurd rfl h⟩
        have e69 : a'.eval (.tmp 69) = PT p := KR_val (hd.val 12 69 (by decide +kernel)) rfl
        refine wp_callR 15 _ (run_enter 15 _ _ rfl (by kernel_rfl)) ?_
        simp only [List.map_toArray, List.map_nil, List.map_cons, e69]
        refine (tRoot_m HRT.out h2 (T1.out.tch hg) (TT.out.tch hg h2 GG.out) (Nat.le_trans GG.out hg.size)).mono ?_
        rintro e w5 ⟨rfl, hb5⟩
        exact ⟨_, rfl, KR_mkv rfl rfl, hb5⟩
      · skip
        have eg : a'.eval (.tmp 66) = .bool true := KR_val (hd.val 9 66 (by decide +kernel)) rfl
        refine ⟨66, true, rfl, eg, fun _ Q => ?_, fun h => absurd rfl h⟩
        have e68 : a'.eval (.tmp 68) = HV rt := KR_val (hd.val 11 68 (by decide +kernel)) rfl
        have e70 : a'.eval (.tmp 70) = HV rt := KR_val (hd.val 13 70 (by decide +kernel)) rfl
        have hq := eqAA rt
        clear hd hk
        exact wp_valueR (Tch.ok N) _ (by simp only [execOp, e68, e70, HV]; go_simp) (KR_mkv rfl rfl)
      · skip
        intro Q
        have e66 : a'.eval (.tmp 66) = .bool true := KR_val (hd.val 9 66 (by decide +kernel)) rfl
        have e71 : a'.eval (.tmp 71) = .bool true := KR_val (hd.val 14 71 (by decide +kernel)) rfl
        clear hd hk
        exact wp_valueR (Tch.ok N) (.bool true) (by simp only [execOp, e66, e71]; go_simp) (KR_mkv rfl rfl)
      · skip
        intro Q
        have e72 : a'.eval (.tmp 72) = .bool true := KR_val (hd.val 15 72 (by decide +kernel)) rfl
        exact wp_valueR (Tch.ok N) _ (by simp only [execOp, e72]; rfl) (KR_mkv rfl rfl)
      · skip
        have eg : a'.eval (.tmp 73) = .bool true := KR_val (hd.val 16 73 (by decide +kernel)) rfl
        refine ⟨73, true, rfl, eg, fun _ Q => ?_, fun h => absurd rfl h⟩
        have e5 : a'.eval (.tmp 5) = PT p := hk.at 5 (by decide +kernel)
        exact wp_valueR (Tch.ok N) _ (by simp only [execOp, e5]; rfl) (KR_mkv rfl rfl)
      · skip
        have eg : a'.eval (.tmp 73) = .bool true := KR_val (hd.val 16 73 (by decide +kernel)) rfl
        refine ⟨73, true, rfl, eg, fun _ Q => ?_, fun h => absurd rfl h⟩
        have e74 : a'.eval (.tmp 74) = PT p := KR_val (hd.val 17 74 (by decide +kernel)) rfl
        refine wp_callR 15 _ (run_enter 15 _ _ rfl (by kernel_rfl)) ?_
        simp only [List.map_toArray, List.map_nil, List.map_cons, e74]
        refine (tRoot_m HRT.out h2 (T1.out.tch hg) (TT.out.tch hg h2 GG.out) (Nat.le_trans GG.out hg.size)).mono ?_
        rintro e w5 ⟨rfl, hb5⟩
        exact ⟨_, rfl, KR_mkv rfl rfl, hb5⟩
      · skip
        have eg : a'.eval (.tmp 73) = .bool true := KR_val (hd.val 16 73 (by decide +kernel)) rfl
        refine ⟨73, true, rfl, eg, fun _ Q => ?_, fun h => absurd rfl h⟩
        have e6 : a'.eval (.tmp 6) = .slice pa ln lc := hk.at 6 (by decide +kernel)
        exact wp_valueR (Tch.ok N) _ (by simp only [execOp, e6]; rfl) (KR_mkv rfl rfl)
      · skip
        have eg : a'.eval (.tmp 73) = .bool true := KR_val (hd.val 16 73 (by decide +kernel)) rfl
        refine ⟨73, true, rfl, eg, fun _ Q => ?_, fun h => absurd rfl h⟩
        have e76 : a'.eval (.tmp 76) = .slice pa ln lc := KR_val (hd.val 19 76 (by decide +kernel)) rfl
        refine wp_callR 16 _ (run_enter 16 _ _ rfl (by kernel_rfl)) ?_
        simp only [List.map_toArray, List.map_nil, List.map_cons, e76]
        refine (yRoot_m HRT.out (O1.out.tch hg (by decide)).rd HSR.out HML.out).mono ?_
        rintro e w5 ⟨rfl, hb5⟩
        exact ⟨_, rfl, KR_mkv rfl rfl, .of_below hb5⟩
      · skip
        have eg : a'.eval (.tmp 73) = .bool true := KR_val (hd.val 16 73 (by decide +kernel)) rfl
        refine ⟨73, true, rfl, eg, fun _ Q => ?_, fun h => absurd rfl h⟩
        have e75 : a'.eval (.tmp 75) = HV rt := KR_val (hd.val 18 75 (by decide +kernel)) rfl
        have e77 : a'.eval (.tmp 77) = HV rt := KR_val (hd.val 20 77 (by decide +kernel)) rfl
        have hq := eqAA rt
        clear hd hk
        exact wp_valueR (Tch.ok N) _ (by simp only [execOp, e75, e77, HV]; go_simp) (KR_mkv rfl rfl)
      · skip
        intro Q
        have e73 : a'.eval (.tmp 73) = .bool true := KR_val (hd.val 16 73 (by decide +kernel)) rfl
        have e78 : a'.eval (.tmp 78) = .bool true := KR_val (hd.val 21 78 (by decide +kernel)) rfl
        clear hd hk
        exact wp_valueR (Tch.ok N) (.bool true) (by simp only [execOp, e73, e78]; go_simp) (KR_mkv rfl rfl)
      · skip
        intro Q
        have e79 : a'.eval (.tmp 79) = .bool true := KR_val (hd.val 22 79 (by decide +kernel)) rfl
        exact wp_valueR (Tch.ok N) _ (by simp only [execOp, e79]; rfl) (KR_mkv rfl rfl)
      · skip
        have eg : a'.eval (.tmp 80) = .bool true := KR_val (hd.val 23 80 (by decide +kernel)) rfl
        refine ⟨80, true, rfl, eg, fun _ Q => ?_, fun h => absurd rfl h⟩
        have e7 : a'.eval (.tmp 7) = PT pu := hk.at 7 (by decide +kernel)
        exact wp_valueR (Tch.ok N) _ (by simp only [execOp, e7]; rfl) (KR_mkv rfl rfl)
      · skip
        have eg : a'.eval (.tmp 80) = .bool true := KR_val (hd.val 23 80 (by decide +kernel)) rfl
        refine ⟨80, true, rfl, eg, fun _ Q => ?_, fun h => absurd rfl h⟩
        have e81 : a'.eval (.tmp 81) = PT pu := KR_val (hd.val 24 81 (by decide +kernel)) rfl
        refine wp_callR 15 _ (run_enter 15 _ _ rfl (by kernel_rfl)) ?_
        simp only [List.map_toArray, List.map_nil, List.map_cons, e81]
        refine (tRoot_m HRU.out h2 (TU.out.tch hg) (TT.out.tch hg h2 GG.out) (Nat.le_trans GG.out hg.size)).mono ?_
        rintro e w5 ⟨rfl, hb5⟩
        exact ⟨_, rfl, KR_mkv rfl rfl, hb5⟩
      · skip
        have eg : a'.eval (.tmp 80) = .bool true := KR_val (hd.val 23 80 (by decide +kernel)) rfl
        refine ⟨80, true, rfl, eg, fun _ Q => ?_, fun h => absurd rfl h⟩
        have e6 : a'.eval (.tmp 6) = .slice pa ln lc := hk.at 6 (by decide +kernel)
        exact wp_valueR (Tch.ok N) _ (by simp only [execOp, e6]; rfl) (KR_mkv rfl rfl)
      · skip
        have eg : a'.eval (.tmp 80) = .bool true := KR_val (hd.val 23 80 (by decide +kernel)) rfl
        refine ⟨80, true, rfl, eg, fun _ Q => ?_, fun h => absurd rfl h⟩
        have e3 : a'.eval (.tmp 3) = .pointer (some ⟨N, 0, none⟩) := hk.at 3 (by decide +kernel)
        clear hd hk
        exact wp_valueR (Tch.ok N) (.pointer (some ⟨N, 0, none⟩)) (by simp only [execOp, e3]; go_simp) (KR_mkv rfl rfl)
      · skip
        have eg : a'.eval (.tmp 80) = .bool true := KR_val (hd.val 23 80 (by decide +kernel)) rfl
        refine ⟨80, true, rfl, eg, fun _ Q => ?_, fun h => absurd rfl h⟩
        have e84 : a'.eval (.tmp 84) = .pointer (some ⟨N, 0, none⟩) := KR_val (hd.val 27 84 (by decide +kernel)) rfl
        exact wp_load_rowR (Tch.ok N) 24 _ rfl _ _ e84 (By (x.1).1) _ (AEkey (hg.blk XX.out (by decide))) Tryd.underlying24 rfl (Tryd.sizeH _) (KR_mkv rfl rfl)
      · skip
        have eg : a'.eval (.tmp 80) = .bool true := KR_val (hd.val 23 80 (by decide +kernel)) rfl
        refine ⟨80, true, rfl, eg, fun _ Q => ?_, fun h => absurd rfl h⟩
        have e3 : a'.eval (.tmp 3) = .pointer (some ⟨N, 0, none⟩) := hk.at 3 (by decide +kernel)
        clear hd hk
        exact wp_valueR (Tch.ok N) (.pointer (some ⟨N, 32, none⟩)) (by simp only [execOp, e3]; go_simp) (KR_mkv rfl rfl)
      · skip
        have eg : a'.eval (.tmp 80) = .bool true := KR_val (hd.val 23 80 (by decide +kernel)) rfl
        refine ⟨80, true, rfl, eg, fun _ Q => ?_, fun h => absurd rfl h⟩
        have e86 : a'.eval (.tmp 86) = .pointer (some ⟨N, 32, none⟩) := KR_val (hd.val 29 86 (by decide +kernel)) rfl
        exact wp_load_rowR (Tch.ok N) 24 _ rfl _ _ e86 (By (x.2.1).1) _ (AEval (hg.blk XX.out (by decide))) Tryd.underlying24 rfl (Tryd.sizeH _) (KR_mkv rfl rfl)
      · skip
        have eg : a'.eval (.tmp 80) = .bool true := KR_val (hd.val 23 80 (by decide +kernel)) rfl
        refine ⟨80, true, rfl, eg, fun _ Q => ?_, fun h => absurd rfl h⟩
        have e83 : a'.eval (.tmp 83) = .slice pa ln lc := KR_val (hd.val 26 83 (by decide +kernel)) rfl
        have e85 : a'.eval (.tmp 85) = HV x.1 := KR_val (hd.val 28 85 (by decide +kernel)) rfl
        have e87 : a'.eval (.tmp 87) = HV x.2.1 := KR_val (hd.val 30 87 (by decide +kernel)) rfl
        refine wp_callR 25 _ (run_enter 25 _ _ rfl (by kernel_rfl)) ?_
        simp only [List.map_toArray, List.map_nil, List.map_cons, e83, e85, e87]
        refine (yPut_any x.1 x.2.1 (O1.out.tch hg (by decide)).rd HML.out).mono ?_
        rintro e w5 ⟨v5, rfl, o5, hb5⟩
        rw [HMU.out] at o5
        exact ⟨_, rfl, KR_mko rfl (o5.mono (Nat.le_trans GG.out hg.size)), .of_below hb5⟩
      · skip
        have eg : a'.eval (.tmp 80) = .bool true := KR_val (hd.val 23 80 (by decide +kernel)) rfl
        refine ⟨80, true, rfl, eg, fun _ Q => ?_, fun h => absurd rfl h⟩
        have r88 := KR_of (hd.val 31 88 (by decide +kernel)) rfl
        refine wp_callR 16 _ (run_enter 16 _ _ rfl (by kernel_rfl)) ?_
        simp only [List.map_toArray, List.map_nil, List.map_cons]
        obtain ⟨pa8, lc8, e88⟩ := r88.form
        refine (yRoot_m HRU.out r88.rd HSU.out HUL.out).mono ?_
        rintro e w5 ⟨rfl, hb5⟩
        exact ⟨_, rfl, KR_mkv rfl rfl, .of_below hb5⟩
      · skip
        have eg : a'.eval (.tmp 80) = .bool true := KR_val (hd.val 23 80 (by decide +kernel)) rfl
        refine ⟨80, true, rfl, eg, fun _ Q => ?_, fun h => absurd rfl h⟩
        have e82 : a'.eval (.tmp 82) = HV ru := KR_val (hd.val 25 82 (by decide +kernel)) rfl
        have e89 : a'.eval (.tmp 89) = HV ru := KR_val (hd.val 32 89 (by decide +kernel)) rfl
        have hq := eqAA ru
        clear hd hk
        exact wp_valueR (Tch.ok N) _ (by simp only [execOp, e82, e89, HV]; go_simp) (KR_mkv rfl rfl)
      · skip
        intro Q
        have e80 : a'.eval (.tmp 80) = .bool true := KR_val (hd.val 23 80 (by decide +kernel)) rfl
        have e90 : a'.eval (.tmp 90) = .bool true := KR_val (hd.val 33 90 (by decide +kernel)) rfl
        clear hd hk
        exact wp_valueR (Tch.ok N) (.bool true) (by simp only [execOp, e80, e90]; go_simp) (KR_mkv rfl rfl)
      · skip
        intro Q
        have e91 : a'.eval (.tmp 91) = .bool true := KR_val (hd.val 34 91 (by decide +kernel)) rfl
        exact wp_valueR (Tch.ok N) _ (by simp only [execOp, e91]; rfl) (KR_mkv rfl rfl)
      · skip
        have eg : a'.eval (.tmp 92) = .bool true := KR_val (hd.val 35 92 (by decide +kernel)) rfl
        refine ⟨92, true, rfl, eg, fun _ Q => ?_, fun h => absurd rfl h⟩
        refine wp_callR 9 _ (run_enter 9 _ _ rfl (by kernel_rfl)) ?_
        simp only [List.map_toArray, List.map_nil]
        refine (ulives_any _ (TT.out.tch hg h2 GG.out)).mono ?_
        rintro e w5 ⟨rfl, hb5⟩
        exact ⟨_, rfl, KR_mkv rfl rfl, .of_below hb5⟩
      · skip
        intro Q
        have e92 : a'.eval (.tmp 92) = .bool true := KR_val (hd.val 35 92 (by decide +kernel)) rfl
        have e93 : a'.eval (.tmp 93) = .bool true := KR_val (hd.val 36 93 (by decide +kernel)) rfl
        clear hd hk
        exact wp_valueR (Tch.ok N) (.bool true) (by simp only [execOp, e92, e93]; go_simp) (KR_mkv rfl rfl)
      · skip
        intro Q
        have e94 : a'.eval (.tmp 94) = .bool true := KR_val (hd.val 37 94 (by decide +kernel)) rfl
        exact wp_valueR (Tch.ok N) _ (by simp only [execOp, e94]; rfl) (KR_mkv rfl rfl)
    · intro a' w6 hsz hdf hk hall hg
      have e57 : a'.eval (.tmp 57) = .bool true := KR_val (hall 0 _ 57 rfl rfl) rfl
      have e58 : a'.eval (.tmp 58) = .bool true := KR_val (hall 1 _ 58 rfl rfl) rfl
      have e59 : a'.eval (.tmp 59) = .bool true := KR_val (hall 2 _ 59 rfl rfl) rfl
      have e60 : a'.eval (.tmp 60) = .bool true := KR_val (hall 3 _ 60 rfl rfl) rfl
      have e61 : a'.eval (.tmp 61) = .bool true := KR_val (hall 4 _ 61 rfl rfl) rfl
      have e62 : a'.eval (.tmp 62) = .slice pa3 ln lc3 := KR_val (hall 5 _ 62 rfl rfl) rfl
      have e63 : a'.eval (.tmp 63) = .slice pa4 ln lc4 := KR_val (hall 6 _ 63 rfl rfl) rfl
      have e64 : a'.eval (.tmp 64) = .bool true := KR_val (hall 7 _ 64 rfl rfl) rfl
      have e65 : a'.eval (.tmp 65) = .bool true := KR_val (hall 8 _ 65 rfl rfl) rfl
      have e66 : a'.eval (.tmp 66) = .bool true := KR_val (hall 9 _ 66 rfl rfl) rfl
      have e67 : a'.eval (.tmp 67) = PT px := KR_val (hall 10 _ 67 rfl rfl) rfl
      have e68 : a'.eval (.tmp 68) = HV rt := KR_val (hall 11 _ 68 rfl rfl) rfl
      have e69 : a'.eval (.tmp 69) = PT p := KR_val (hall 12 _ 69 rfl rfl) rfl
      have e70 : a'.eval (.tmp 70) = HV rt := KR_val (hall 13 _ 70 rfl rfl) rfl
      have e71 : a'.eval (.tmp 71) = .bool true := KR_val (hall 14 _ 71 rfl rfl) rfl
      have e72 : a'.eval (.tmp 72) = .bool true := KR_val (hall 15 _ 72 rfl rfl) rfl
      have e73 : a'.eval (.tmp 73) = .bool true := KR_val (hall 16 _ 73 rfl rfl) rfl
      have e74 : a'.eval (.tmp 74) = PT p := KR_val (hall 17 _ 74 rfl rfl) rfl
      have e75 : a'.eval (.tmp 75) = HV rt := KR_val (hall 18 _ 75 rfl rfl) rfl
      have e76 : a'.eval (.tmp 76) = .slice pa ln lc := KR_val (hall 19 _ 76 rfl rfl) rfl
      have e77 : a'.eval (.tmp 77) = HV rt := KR_val (hall 20 _ 77 rfl rfl) rfl
      have e78 : a'.eval (.tmp 78) = .bool true := KR_val (hall 21 _ 78 rfl rfl) rfl
      have e79 : a'.eval (.tmp 79) = .bool true := KR_val (hall 22 _ 79 rfl rfl) rfl
      have e80 : a'.eval (.tmp 80) = .bool true := KR_val (hall 23 _ 80 rfl rfl) rfl
      have e81 : a'.eval (.tmp 81) = PT pu := KR_val (hall 24 _ 81 rfl rfl) rfl
      have e82 : a'.eval (.tmp 82) = HV ru := KR_val (hall 25 _ 82 rfl rfl) rfl
      have e83 : a'.eval (.tmp 83) = .slice pa ln lc := KR_val (hall 26 _ 83 rfl rfl) rfl
      have e84 : a'.eval (.tmp 84) = .pointer (some ⟨N, 0, none⟩) := KR_val (hall 27 _ 84 rfl rfl) rfl
      have e85 : a'.eval (.tmp 85) = HV x.1 := KR_val (hall 28 _ 85 rfl rfl) rfl
      have e86 : a'.eval (.tmp 86) = .pointer (some ⟨N, 32, none⟩) := KR_val (hall 29 _ 86 rfl rfl) rfl
      have e87 : a'.eval (.tmp 87) = HV x.2.1 := KR_val (hall 30 _ 87 rfl rfl) rfl
      have r88 : (fun w v_ => OwnG IE w N 46 v_ mu) w6 (a'.eval (.tmp 88)) := KR_of (hall 31 _ 88 rfl rfl) rfl
      obtain ⟨x88, hx88⟩ : ∃ v, a'.eval (.tmp 88) = v := ⟨_, rfl⟩
      rw [hx88] at r88
      have e89 : a'.eval (.tmp 89) = HV ru := KR_val (hall 32 _ 89 rfl rfl) rfl
      have e90 : a'.eval (.tmp 90) = .bool true := KR_val (hall 33 _ 90 rfl rfl) rfl
      have e91 : a'.eval (.tmp 91) = .bool true := KR_val (hall 34 _ 91 rfl rfl) rfl
      have e92 : a'.eval (.tmp 92) = .bool true := KR_val (hall 35 _ 92 rfl rfl) rfl
      have e93 : a'.eval (.tmp 93) = .bool true := KR_val (hall 36 _ 93 rfl rfl) rfl
      have e94 : a'.eval (.tmp 94) = .bool true := KR_val (hall 37 _ 94 rfl rfl) rfl
      have e4 : a'.eval (.tmp 4) = .bool true := KR_val (hall 38 _ 4 rfl rfl) rfl
      have ha := act_puts 95 rfl hsz hdf hk [57, 58, 59, 60, 61, 62, 63, 64, 65, 66, 67, 68, 69, 70, 71, 72, 73, 74, 75, 76, 77, 78, 79, 80, 81, 82, 83, 84, 85, 86, 87, 88, 89, 90, 91, 92, 93, 94, 4] (by decide +kernel)
      simp only [puts, List.foldl_cons, List.foldl_nil, e57, e58, e59, e60, e61, e62, e63, e64, e65, e66, e67, e68, e69, e70, e71, e72, e73, e74, e75, e76, e77, e78, e79, e80, e81, e82, e83, e84, e85, e86, e87, hx88, e89, e90, e91, e92, e93, e94, e4] at ha
      simp only [Act.put, List.setIfInBounds_toArray, List.set_cons_succ, List.set_cons_zero] at ha
      clear hall hk hsz hdf e57 e58 e59 e60 e61 e62 e63 e64 e65 e66 e67 e68 e69 e70 e71 e72 e73 e74 e75 e76 e77 e78 e79 e80 e81 e82 e83 e84 e85 e86 e87 hx88 e89 e90 e91 e92 e93 e94 e4
      subst ha
      have L6 : Hid (Below N w w6) := (show _ from LL.out.trans (hg.below GG.out))
      clear hg
      go_wp2_with fail
      go_ret
      exact ⟨rfl, L6.out⟩
  | false =>
    have HWE : Hid (mw = m) := (show _ = _ from HBN.out HH2.out)
    rw [HWE.out] at TW
    go_upto_region 9 with fail
    go_upto_region 10 with (first
      | (go_at_call 13; refine (uitems_m (B := N) (takeM_all m) HLN.out T1.out.all HML.out GG.out).mono ?_; rintro e w9 ⟨pa3, lc3, rfl, o9, hb9⟩; have XX_ := hide (XX.out.kept hb9); have TT_ := hide (TT.out.gr hb9); have T1_ := hide (T1.out.kept hb9); have O1_ := hide (O1.out.kept hb9); have TU_ := hide (TU.out.kept hb9); have V2_ := hide (V2.out.kept hb9); have TW_ := hide (TW.out.kept hb9); have LL_ : Hid (Below N w _) := (show _ from LL.out.trans (hb9.mono GG.out)); have GG_ : Hid (N ≤ _) := (show _ ≤ _ from Nat.le_trans GG.out hb9.size); clear hb9 XX TT T1 O1 TU V2 TW LL GG; have XX := XX_; have TT := TT_; have T1 := T1_; have O1 := O1_; have TU := TU_; have V2 := V2_; have TW := TW_; have LL := LL_; have GG := GG_; clear XX_ TT_ T1_ O1_ TU_ V2_ TW_ LL_ GG_; have O3 := hide o9; clear o9)
      | fail)
    go_upto_region 11 with (first
      | (go_at_call 13; refine (uitems_m (B := N) (takeM_all m) HLN.out TW.out.all HML.out GG.out).mono ?_; rintro e w9 ⟨pa4, lc4, rfl, o9, hb9⟩; have XX_ := hide (XX.out.kept hb9); have TT_ := hide (TT.out.gr hb9); have T1_ := hide (T1.out.kept hb9); have O1_ := hide (O1.out.kept hb9); have TU_ := hide (TU.out.kept hb9); have V2_ := hide (V2.out.kept hb9); have TW_ := hide (TW.out.kept hb9); have O3_ := hide (O3.out.kept hb9); have LL_ : Hid (Below N w _) := (show _ from LL.out.trans (hb9.mono GG.out)); have GG_ : Hid (N ≤ _) := (show _ ≤ _ from Nat.le_trans GG.out hb9.size); clear hb9 XX TT T1 O1 TU V2 TW O3 LL GG; have XX := XX_; have TT := TT_; have T1 := T1_; have O1 := O1_; have TU := TU_; have V2 := V2_; have TW := TW_; have O3 := O3_; have LL := LL_; have GG := GG_; clear XX_ TT_ T1_ O1_ TU_ V2_ TW_ O3_ LL_ GG_; have O4 := hide o9; clear o9)
      | fail)
    refine wp_region_invR (Tch.ok N) Tryd.mixed (KR (R := Tch N) (fun i_ => match i_ with | 0 | 1 | 2 | 3 | 4 | 7 | 8 | 9 | 14 | 15 | 16 | 21 | 22 | 23 | 33 | 34 | 35 | 36 | 37 | 38 => .val (.bool true) | 5 => .val (.slice pa3 ln lc3) | 6 => .val (.slice pa4 ln lc4) | 10 => .val (PT pw) | 11 | 13 | 18 | 20 => .val (HV rt) | 12 | 17 => .val (PT p) | 19 | 26 => .val (.slice pa ln lc) | 24 => .val (PT pu) | 25 | 32 => .val (HV ru) | 27 => .val (.pointer (some ⟨N, 0, none⟩)) | 28 => .val (HV x.1) | 29 => .val (.pointer (some ⟨N, 32, none⟩)) | 30 => .val (HV x.2.1) | 31 => .of (fun w v_ => OwnG IE w N 46 v_ mu) (fun _ _ _ hg h => h.tch hg (by decide)) | _ => .free)) 95 rfl (by decide +kernel) (KR_mono _) ?_ ?_
    · refine AllFrom.cons (fun a' w' hg hk hd => ?_) (AllFrom.cons (fun a' w' hg hk hd => ?_) (AllFrom.cons (fun a' w' hg hk hd => ?_) (AllFrom.cons (fun a' w' hg hk hd => ?_) (AllFrom.cons (fun a' w' hg hk hd => ?_) (AllFrom.cons (fun a' w' hg hk hd => ?_) (AllFrom.cons (fun a' w' hg hk hd => ?_) (AllFrom.cons (fun a' w' hg hk hd => ?_) (AllFrom.cons (fun a' w' hg hk hd => ?_) (AllFrom.cons (fun a' w' hg hk hd => ?_) (AllFrom.cons (fun a' w' hg hk hd => ?_) (AllFrom.cons (fun a' w' hg hk hd => ?_) (AllFrom.cons (fun a' w' hg hk hd => ?_) (AllFrom.cons (fun a' w' hg hk hd => ?_) (AllFrom.cons (fun a' w' hg hk hd => ?_) (AllFrom.cons (fun a' w' hg hk hd => ?_) (AllFrom.cons (fun a' w' hg hk hd => ?_) (AllFrom.cons (fun a' w' hg hk hd => ?_) (AllFrom.cons (fun a' w' hg hk hd => ?_) (AllFrom.cons (fun a' w' hg hk hd => ?_) (AllFrom.cons (fun a' w' hg hk hd => ?_) (AllFrom.cons (fun a' w' hg hk hd => ?_) (AllFrom.cons (fun a' w' hg hk hd => ?_) (AllFrom.cons (fun a' w' hg hk hd => ?_) (AllFrom.cons (fun a' w' hg hk hd => ?_) (AllFrom.cons (fun a' w' hg hk hd => ?_) (AllFrom.cons (fun a' w' hg hk hd => ?_) (AllFrom.cons (fun a' w' hg hk hd => ?_) (AllFrom.cons (fun a' w' hg hk hd => ?_) (AllFrom.cons (fun a' w' hg hk hd => ?_) (AllFrom.cons (fun a' w' hg hk hd => ?_) (AllFrom.cons (fun a' w' hg hk hd => ?_) (AllFrom.cons (fun a' w' hg hk hd => ?_) (AllFrom.cons (fun a' w' hg hk hd => ?_) (AllFrom.cons (fun a' w' hg hk hd => ?_) (AllFrom.cons (fun a' w' hg hk hd => ?_) (AllFrom.cons (fun a' w' hg hk hd => ?_) (AllFrom.cons (fun a' w' hg hk hd => ?_) (AllFrom.cons (fun a' w' hg hk hd => ?_) AllFrom.nil))))))))))))))))))))))))))))))))))))))
      · skip
        intro Q
        have e12 : a'.eval (.tmp 12) = .bool true := hk.at 12 (by decide +kernel)
        exact wp_valueR (Tch.ok N) _ (by simp only [execOp, e12]; rfl) (KR_mkv rfl rfl)
      · skip
        intro Q
        have e57 : a'.eval (.tmp 57) = .bool true := KR_val (hd.val 0 57 (by decide +kernel)) rfl
        exact wp_valueR (Tch.ok N) _ (by simp only [execOp, e57]; rfl) (KR_mkv rfl rfl)
      · skip
        have eg : a'.eval (.tmp 58) = .bool true := KR_val (hd.val 1 58 (by decide +kernel)) rfl
        refine ⟨58, true, rfl, eg, fun _ Q => ?_, fun h => absurd rfl h⟩
        have e14 : a'.eval (.tmp 14) = .bool true := hk.at 14 (by decide +kernel)
        exact wp_valueR (Tch.ok N) _ (by simp only [execOp, e14]; rfl) (KR_mkv rfl rfl)
      · skip
        intro Q
        have e58 : a'.eval (.tmp 58) = .bool true := KR_val (hd.val 1 58 (by decide +kernel)) rfl
        have e59 : a'.eval (.tmp 59) = .bool true := KR_val (hd.val 2 59 (by decide +kernel)) rfl
        clear hd hk
        exact wp_valueR (Tch.ok N) (.bool true) (by simp only [execOp, e58, e59]; go_simp) (KR_mkv rfl rfl)
      · skip
        intro Q
        have e60 : a'.eval (.tmp 60) = .bool true := KR_val (hd.val 3 60 (by decide +kernel)) rfl
        exact wp_valueR (Tch.ok N) _ (by simp only [execOp, e60]; rfl) (KR_mkv rfl rfl)
      · skip
        have eg : a'.eval (.tmp 61) = .bool true := KR_val (hd.val 4 61 (by decide +kernel)) rfl
        refine ⟨61, true, rfl, eg, fun _ Q => ?_, fun h => absurd rfl h⟩
        have e11 : a'.eval (.tmp 11) = .slice pa3 ln lc3 := hk.at 11 (by decide +kernel)
        exact wp_valueR (Tch.ok N) _ (by simp only [execOp, e11]; rfl) (KR_mkv rfl rfl)
      · skip
        have eg : a'.eval (.tmp 61) = .bool true := KR_val (hd.val 4 61 (by decide +kernel)) rfl
        refine ⟨61, true, rfl, eg, fun _ Q => ?_, fun h => absurd rfl h⟩
        have e13 : a'.eval (.tmp 13) = .slice pa4 ln lc4 := hk.at 13 (by decide +kernel)
        exact wp_valueR (Tch.ok N) _ (by simp only [execOp, e13]; rfl) (KR_mkv rfl rfl)
      · skip
        have eg : a'.eval (.tmp 61) = .bool true := KR_val (hd.val 4 61 (by decide +kernel)) rfl
        refine ⟨61, true, rfl, eg, fun _ Q => ?_, fun h => absurd rfl h⟩
        have e62 : a'.eval (.tmp 62) = .slice pa3 ln lc3 := KR_val (hd.val 5 62 (by decide +kernel)) rfl
        have e63 : a'.eval (.tmp 63) = .slice pa4 ln lc4 := KR_val (hd.val 6 63 (by decide +kernel)) rfl
        refine wp_callR 14 _ (run_enter 14 _ _ rfl (by kernel_rfl)) ?_
        simp only [List.map_toArray, List.map_nil, List.map_cons, e62, e63]
        refine (usame_m (O3.out.tch hg (by decide)).rd (O4.out.tch hg (by decide)).rd).mono ?_
        rintro e w5 ⟨rfl, hb5⟩
        exact ⟨_, rfl, KR_mkv rfl rfl, .of_below hb5⟩
      · skip
        intro Q
        have e61 : a'.eval (.tmp 61) = .bool true := KR_val (hd.val 4 61 (by decide +kernel)) rfl
        have e64 : a'.eval (.tmp 64) = .bool true := KR_val (hd.val 7 64 (by decide +kernel)) rfl
        clear hd hk
        exact wp_valueR (Tch.ok N) (.bool true) (by simp only [execOp, e61, e64]; go_simp) (KR_mkv rfl rfl)
      · skip
        intro Q
        have e65 : a'.eval (.tmp 65) = .bool true := KR_val (hd.val 8 65 (by decide +kernel)) rfl
        exact wp_valueR (Tch.ok N) _ (by simp only [execOp, e65]; rfl) (KR_mkv rfl rfl)
      · skip
        have eg : a'.eval (.tmp 66) = .bool true := KR_val (hd.val 9 66 (by decide +kernel)) rfl
        refine ⟨66, true, rfl, eg, fun _ Q => ?_, fun h => absurd rfl h⟩
        have e10 : a'.eval (.tmp 10) = PT pw := hk.at 10 (by decide +kernel)
        exact wp_valueR (Tch.ok N) _ (by simp only [execOp, e10]; rfl) (KR_mkv rfl rfl)
      · skip
        have eg : a'.eval (.tmp 66) = .bool true := KR_val (hd.val 9 66 (by decide +kernel)) rfl
        refine ⟨66, true, rfl, eg, fun _ Q => ?_, fun h => absurd rfl h⟩
        have e67 : a'.eval (.tmp 67) = PT pw := KR_val (hd.val 10 67 (by decide +kernel)) rfl
        refine wp_callR 15 _ (run_enter 15 _ _ rfl (by kernel_rfl)) ?_
        simp only [List.map_toArray, List.map_nil, List.map_cons, e67]
        refine (tRoot_m HRT.out h2 (TW.out.tch hg) (TT.out.tch hg h2 GG.out) (Nat.le_trans GG.out hg.size)).mono ?_
        rintro e w5 ⟨rfl, hb5⟩
        exact ⟨_, rfl, KR_mkv rfl rfl, hb5⟩
      · skip
        have eg : a'.eval (.tmp 66) = .bool true := KR_val (hd.val 9 66 (by decide +kernel)) rfl
        refine ⟨66, true, rfl, eg, fun _ Q => ?_, fun h => absurd rfl h⟩
        have e5 : a'.eval (.tmp 5) = PT p := hk.at 5 (by decide +kernel)
        exact wp_valueR (Tch.ok N) _ (by simp only [execOp, e5]; rfl) (KR_mkv rfl rfl)
      · skip
        have eg : a'.eval (.tmp 66) = .bool true := KR_val (hd.val 9 66 (by decide +kernel)) rfl
        refine ⟨66, true, rfl, eg, fun _ Q => ?_, fun h => absurd rfl h⟩
        have e69 : a'.eval (.tmp 69) = PT p := KR_val (hd.val 12 69 (by decide +kernel)) rfl
        refine wp_callR 15 _ (run_enter 15 _ _ rfl (by kernel_rfl)) ?_
        simp only [List.map_toArray, List.map_nil, List.map_cons, e69]
        refine (tRoot_m HRT.out h2 (T1.out.tch hg) (TT.out.tch hg h2 GG.out) (Nat.le_trans GG.out hg.size)).mono ?_
        rintro e w5 ⟨rfl, hb5⟩
        exact ⟨_, rfl, KR_mkv rfl rfl, hb5⟩
      · skip
        have eg : a'.eval (.tmp 66) = .bool true := KR_val (hd.val 9 66 (by decide +kernel)) rfl
        refine ⟨66, true, rfl, eg, fun _ Q => ?_, fun h => absurd rfl h⟩
        have e68 : a'.eval (.tmp 68) = HV rt := KR_val (hd.val 11 68 (by decide +kernel)) rfl
        have e70 : a'.eval (.tmp 70) = HV rt := KR_val (hd.val 13 70 (by decide +kernel)) rfl
        have hq := eqAA rt
        clear hd hk
        exact wp_valueR (Tch.ok N) _ (by simp only [execOp, e68, e70, HV]; go_simp) (KR_mkv rfl rfl)
      · skip
        intro Q
        have e66 : a'.eval (.tmp 66) = .bool true := KR_val (hd.val 9 66 (by decide +kernel)) rfl
        have e71 : a'.eval (.tmp 71) = .bool true := KR_val (hd.val 14 71 (by decide +kernel)) rfl
        clear hd hk
        exact wp_valueR (Tch.ok N) (.bool true) (by simp only [execOp, e66, e71]; go_simp) (KR_mkv rfl rfl)
      · skip
        intro Q
        have e72 : a'.eval (.tmp 72) = .bool true := KR_val (hd.val 15 72 (by decide +kernel)) rfl
        exact wp_valueR (Tch.ok N) _ (by simp only [execOp, e72]; rfl) (KR_mkv rfl rfl)
      · skip
        have eg : a'.eval (.tmp 73) = .bool true := KR_val (hd.val 16 73 (by decide +kernel)) rfl
        refine ⟨73, true, rfl, eg, fun _ Q => ?_, fun h => absurd rfl h⟩
        have e5 : a'.eval (.tmp 5) = PT p := hk.at 5 (by decide +kernel)
        exact wp_valueR (Tch.ok N) _ (by simp only [execOp, e5]; rfl) (KR_mkv rfl rfl)
      · skip
        have eg : a'.eval (.tmp 73) = .bool true := KR_val (hd.val 16 73 (by decide +kernel)) rfl
        refine ⟨73, true, rfl, eg, fun _ Q => ?_, fun h => absurd rfl h⟩
        have e74 : a'.eval (.tmp 74) = PT p := KR_val (hd.val 17 74 (by decide +kernel)) rfl
        refine wp_callR 15 _ (run_enter 15 _ _ rfl (by kernel_rfl)) ?_
        simp only [List.map_toArray, List.map_nil, List.map_cons, e74]
        refine (tRoot_m HRT.out h2 (T1.out.tch hg) (TT.out.tch hg h2 GG.out) (Nat.le_trans GG.out hg.size)).mono ?_
        rintro e w5 ⟨rfl, hb5⟩
        exact ⟨_, rfl, KR_mkv rfl rfl, hb5⟩
      · skip
        have eg : a'.eval (.tmp 73) = .bool true := KR_val (hd.val 16 73 (by decide +kernel)) rfl
        refine ⟨73, true, rfl, eg, fun _ Q => ?_, fun h => absurd rfl h⟩
        have e6 : a'.eval (.tmp 6) = .slice pa ln lc := hk.at 6 (by decide +kernel)
        exact wp_valueR (Tch.ok N) _ (by simp only [execOp, e6]; rfl) (KR_mkv rfl rfl)
      · skip
        have eg : a'.eval (.tmp 73) = .bool true := KR_val (hd.val 16 73 (by decide +kernel)) rfl
        refine ⟨73, true, rfl, eg, fun _ Q => ?_, fun h => absurd rfl h⟩
        have e76 : a'.eval (.tmp 76) = .slice pa ln lc := KR_val (hd.val 19 76 (by decide +kernel)) rfl
        refine wp_callR 16 _ (run_enter 16 _ _ rfl (by kernel_rfl)) ?_
        simp only [List.map_toArray, List.map_nil, List.map_cons, e76]
        refine (yRoot_m HRT.out (O1.out.tch hg (by decide)).rd HSR.out HML.out).mono ?_
        rintro e w5 ⟨rfl, hb5⟩
        exact ⟨_, rfl, KR_mkv rfl rfl, .of_below hb5⟩
      · skip
        have eg : a'.eval (.tmp 73) = .bool true := KR_val (hd.val 16 73 (by decide +kernel)) rfl
        refine ⟨73, true, rfl, eg, fun _ Q => ?_, fun h => absurd rfl h⟩
        have e75 : a'.eval (.tmp 75) = HV rt := KR_val (hd.val 18 75 (by decide +kernel)) rfl
        have e77 : a'.eval (.tmp 77) = HV rt := KR_val (hd.val 20 77 (by decide +kernel)) rfl
        have hq := eqAA rt
        clear hd hk
        exact wp_valueR (Tch.ok N) _ (by simp only [execOp, e75, e77, HV]; go_simp) (KR_mkv rfl rfl)
      · skip
        intro Q
        have e73 : a'.eval (.tmp 73) = .bool true := KR_val (hd.val 16 73 (by decide +kernel)) rfl
        have e78 : a'.eval (.tmp 78) = .bool true := KR_val (hd.val 21 78 (by decide +kernel)) rfl
        clear hd hk
        exact wp_valueR (Tch.ok N) (.bool true) (by simp only [execOp, e73, e78]; go_simp) (KR_mkv rfl rfl)
      · skip
        intro Q
        have e79 : a'.eval (.tmp 79) = .bool true := KR_val (hd.val 22 79 (by decide +kernel)) rfl
        exact wp_valueR (Tch.ok N) _ (by simp only [execOp, e79]; rfl) (KR_mkv rfl rfl)
      · skip
        have eg : a'.eval (.tmp 80) = .bool true := KR_val (hd.val 23 80 (by decide +kernel)) rfl
        refine ⟨80, true, rfl, eg, fun _ Q => ?_, fun h => absurd rfl h⟩
        have e7 : a'.eval (.tmp 7) = PT pu := hk.at 7 (by decide +kernel)
        exact wp_valueR (Tch.ok N) _ (by simp only [execOp, e7]; rfl) (KR_mkv rfl rfl)
      · skip
        have eg : a'.eval (.tmp 80) = .bool true := KR_val (hd.val 23 80 (by decide +kernel)) rfl
        refine ⟨80, true, rfl, eg, fun _ Q => ?_, fun h => absurd rfl h⟩
        have e81 : a'.eval (.tmp 81) = PT pu := KR_val (hd.val 24 81 (by decide +kernel)) rfl
        refine wp_callR 15 _ (run_enter 15 _ _ rfl (by kernel_rfl)) ?_
        simp only [List.map_toArray, List.map_nil, List.map_cons, e81]
        refine (tRoot_m HRU.out h2 (TU.out.tch hg) (TT.out.tch hg h2 GG.out) (Nat.le_trans GG.out hg.size)).mono ?_
        rintro e w5 ⟨rfl, hb5⟩
        exact ⟨_, rfl, KR_mkv rfl rfl, hb5⟩
      · skip
        have eg : a'.eval (.tmp 80) = .bool true := KR_val (hd.val 23 80 (by decide +kernel)) rfl
        refine ⟨80, true, rfl, eg, fun _ Q => ?_, fun h => absurd rfl h⟩
        have e6 : a'.eval (.tmp 6) = .slice pa ln lc := hk.at 6 (by decide +kernel)
        exact wp_valueR (Tch.ok N) _ (by simp only [execOp, e6]; rfl) (KR_mkv rfl rfl)
      · skip
        have eg : a'.eval (.tmp 80) = .bool true := KR_val (hd.val 23 80 (by decide +kernel)) rfl
        refine ⟨80, true, rfl, eg, fun _ Q => ?_, fun h => absurd rfl h⟩
        have e3 : a'.eval (.tmp 3) = .pointer (some ⟨N, 0, none⟩) := hk.at 3 (by decide +kernel)
        clear hd hk
        exact wp_valueR (Tch.ok N) (.pointer (some ⟨N, 0, none⟩)) (by simp only [execOp, e3]; go_simp) (KR_mkv rfl rfl)
      · skip
        have eg : a'.eval (.tmp 80) = .bool true := KR_val (hd.val 23 80 (by decide +kernel)) rfl
        refine ⟨80, true, rfl, eg, fun _ Q => ?_, fun h => absurd rfl h⟩
        have e84 : a'.eval (.tmp 84) = .pointer (some ⟨N, 0, none⟩) := KR_val (hd.val 27 84 (by decide +kernel)) rfl
        exact wp_load_rowR (Tch.ok N) 24 _ rfl _ _ e84 (By (x.1).1) _ (AEkey (hg.blk XX.out (by decide))) Tryd.underlying24 rfl (Tryd.sizeH _) (KR_mkv rfl rfl)
      · skip
        have eg : a'.eval (.tmp 80) = .bool true := KR_val (hd.val 23 80 (by decide +kernel)) rfl
        refine ⟨80, true, rfl, eg, fun _ Q => ?_, fun h => absurd rfl h⟩
        have e3 : a'.eval (.tmp 3) = .pointer (some ⟨N, 0, none⟩) := hk.at 3 (by decide +kernel)
        clear hd hk
        exact wp_valueR (Tch.ok N) (.pointer (some ⟨N, 32, none⟩)) (by simp only [execOp, e3]; go_simp) (KR_mkv rfl rfl)
      · skip
        have eg : a'.eval (.tmp 80) = .bool true := KR_val (hd.val 23 80 (by decide +kernel)) rfl
        refine ⟨80, true, rfl, eg, fun _ Q => ?_, fun h => absurd rfl h⟩
        have e86 : a'.eval (.tmp 86) = .pointer (some ⟨N, 32, none⟩) := KR_val (hd.val 29 86 (by decide +kernel)) rfl
        exact wp_load_rowR (Tch.ok N) 24 _ rfl _ _ e86 (By (x.2.1).1) _ (AEval (hg.blk XX.out (by decide))) Tryd.underlying24 rfl (Tryd.sizeH _) (KR_mkv rfl rfl)
      · skip
        have eg : a'.eval (.tmp 80) = .bool true := KR_val (hd.val 23 80 (by decide +kernel)) rfl
        refine ⟨80, true, rfl, eg, fun _ Q => ?_, fun h => absurd rfl h⟩
        have e83 : a'.eval (.tmp 83) = .slice pa ln lc := KR_val (hd.val 26 83 (by decide +kernel)) rfl
        have e85 : a'.eval (.tmp 85) = HV x.1 := KR_val (hd.val 28 85 (by decide +kernel)) rfl
        have e87 : a'.eval (.tmp 87) = HV x.2.1 := KR_val (hd.val 30 87 (by decide +kernel)) rfl
        refine wp_callR 25 _ (run_enter 25 _ _ rfl (by kernel_rfl)) ?_
        simp only [List.map_toArray, List.map_nil, List.map_cons, e83, e85, e87]
        refine (yPut_any x.1 x.2.1 (O1.out.tch hg (by decide)).rd HML.out).mono ?_
        rintro e w5 ⟨v5, rfl, o5, hb5⟩
        rw [HMU.out] at o5
        exact ⟨_, rfl, KR_mko rfl (o5.mono (Nat.le_trans GG.out hg.size)), .of_below hb5⟩
      · skip
        have eg : a'.eval (.tmp 80) = .bool true := KR_val (hd.val 23 80 (by decide +kernel)) rfl
        refine ⟨80, true, rfl, eg, fun _ Q => ?_, fun h => absurd rfl h⟩
        have r88 := KR_of (hd.val 31 88 (by decide +kernel)) rfl
        refine wp_callR 16 _ (run_enter 16 _ _ rfl (by kernel_rfl)) ?_
        simp only [List.map_toArray, List.map_nil, List.map_cons]
        obtain ⟨pa8, lc8, e88⟩ := r88.form
        refine (yRoot_m HRU.out r88.rd HSU.out HUL.out).mono ?_
        rintro e w5 ⟨rfl, hb5⟩
        exact ⟨_, rfl, KR_mkv rfl rfl, .of_below hb5⟩
      · skip
        have eg : a'.eval (.tmp 80) = .bool true := KR_val (hd.val 23 80 (by decide +kernel)) rfl
        refine ⟨80, true, rfl, eg, fun _ Q => ?_, fun h => absurd rfl h⟩
        have e82 : a'.eval (.tmp 82) = HV ru := KR_val (hd.val 25 82 (by decide +kernel)) rfl
        have e89 : a'.eval (.tmp 89) = HV ru := KR_val (hd.val 32 89 (by decide +kernel)) rfl
        have hq := eqAA ru
        clear hd hk
        exact wp_valueR (Tch.ok N) _ (by simp only [execOp, e82, e89, HV]; go_simp) (KR_mkv rfl rfl)
      · skip
        intro Q
        have e80 : a'.eval (.tmp 80) = .bool true := KR_val (hd.val 23 80 (by decide +kernel)) rfl
        have e90 : a'.eval (.tmp 90) = .bool true := KR_val (hd.val 33 90 (by decide +kernel)) rfl
        clear hd hk
        exact wp_valueR (Tch.ok N) (.bool true) (by simp only [execOp, e80, e90]; go_simp) (KR_mkv rfl rfl)
      · skip
        intro Q
        have e91 : a'.eval (.tmp 91) = .bool true := KR_val (hd.val 34 91 (by decide +kernel)) rfl
        exact wp_valueR (Tch.ok N) _ (by simp only [execOp, e91]; rfl) (KR_mkv rfl rfl)
      · skip
        have eg : a'.eval (.tmp 92) = .bool true := KR_val (hd.val 35 92 (by decide +kernel)) rfl
        refine ⟨92, true, rfl, eg, fun _ Q => ?_, fun h => absurd rfl h⟩
        refine wp_callR 9 _ (run_enter 9 _ _ rfl (by kernel_rfl)) ?_
        simp only [List.map_toArray, List.map_nil]
        refine (ulives_any _ (TT.out.tch hg h2 GG.out)).mono ?_
        rintro e w5 ⟨rfl, hb5⟩
        exact ⟨_, rfl, KR_mkv rfl rfl, .of_below hb5⟩
      · skip
        intro Q
        have e92 : a'.eval (.tmp 92) = .bool true := KR_val (hd.val 35 92 (by decide +kernel)) rfl
        have e93 : a'.eval (.tmp 93) = .bool true := KR_val (hd.val 36 93 (by decide +kernel)) rfl
        clear hd hk
        exact wp_valueR (Tch.ok N) (.bool true) (by simp only [execOp, e92, e93]; go_simp) (KR_mkv rfl rfl)
      · skip
        intro Q
        have e94 : a'.eval (.tmp 94) = .bool true := KR_val (hd.val 37 94 (by decide +kernel)) rfl
        exact wp_valueR (Tch.ok N) _ (by simp only [execOp, e94]; rfl) (KR_mkv rfl rfl)
    · intro a' w6 hsz hdf hk hall hg
      have e57 : a'.eval (.tmp 57) = .bool true := KR_val (hall 0 _ 57 rfl rfl) rfl
      have e58 : a'.eval (.tmp 58) = .bool true := KR_val (hall 1 _ 58 rfl rfl) rfl
      have e59 : a'.eval (.tmp 59) = .bool true := KR_val (hall 2 _ 59 rfl rfl) rfl
      have e60 : a'.eval (.tmp 60) = .bool true := KR_val (hall 3 _ 60 rfl rfl) rfl
      have e61 : a'.eval (.tmp 61) = .bool true := KR_val (hall 4 _ 61 rfl rfl) rfl
      have e62 : a'.eval (.tmp 62) = .slice pa3 ln lc3 := KR_val (hall 5 _ 62 rfl rfl) rfl
      have e63 : a'.eval (.tmp 63) = .slice pa4 ln lc4 := KR_val (hall 6 _ 63 rfl rfl) rfl
      have e64 : a'.eval (.tmp 64) = .bool true := KR_val (hall 7 _ 64 rfl rfl) rfl
      have e65 : a'.eval (.tmp 65) = .bool true := KR_val (hall 8 _ 65 rfl rfl) rfl
      have e66 : a'.eval (.tmp 66) = .bool true := KR_val (hall 9 _ 66 rfl rfl) rfl
      have e67 : a'.eval (.tmp 67) = PT pw := KR_val (hall 10 _ 67 rfl rfl) rfl
      have e68 : a'.eval (.tmp 68) = HV rt := KR_val (hall 11 _ 68 rfl rfl) rfl
      have e69 : a'.eval (.tmp 69) = PT p := KR_val (hall 12 _ 69 rfl rfl) rfl
      have e70 : a'.eval (.tmp 70) = HV rt := KR_val (hall 13 _ 70 rfl rfl) rfl
      have e71 : a'.eval (.tmp 71) = .bool true := KR_val (hall 14 _ 71 rfl rfl) rfl
      have e72 : a'.eval (.tmp 72) = .bool true := KR_val (hall 15 _ 72 rfl rfl) rfl
      have e73 : a'.eval (.tmp 73) = .bool true := KR_val (hall 16 _ 73 rfl rfl) rfl
      have e74 : a'.eval (.tmp 74) = PT p := KR_val (hall 17 _ 74 rfl rfl) rfl
      have e75 : a'.eval (.tmp 75) = HV rt := KR_val (hall 18 _ 75 rfl rfl) rfl
      have e76 : a'.eval (.tmp 76) = .slice pa ln lc := KR_val (hall 19 _ 76 rfl rfl) rfl
      have e77 : a'.eval (.tmp 77) = HV rt := KR_val (hall 20 _ 77 rfl rfl) rfl
      have e78 : a'.eval (.tmp 78) = .bool true := KR_val (hall 21 _ 78 rfl rfl) rfl
      have e79 : a'.eval (.tmp 79) = .bool true := KR_val (hall 22 _ 79 rfl rfl) rfl
      have e80 : a'.eval (.tmp 80) = .bool true := KR_val (hall 23 _ 80 rfl rfl) rfl
      have e81 : a'.eval (.tmp 81) = PT pu := KR_val (hall 24 _ 81 rfl rfl) rfl
      have e82 : a'.eval (.tmp 82) = HV ru := KR_val (hall 25 _ 82 rfl rfl) rfl
      have e83 : a'.eval (.tmp 83) = .slice pa ln lc := KR_val (hall 26 _ 83 rfl rfl) rfl
      have e84 : a'.eval (.tmp 84) = .pointer (some ⟨N, 0, none⟩) := KR_val (hall 27 _ 84 rfl rfl) rfl
      have e85 : a'.eval (.tmp 85) = HV x.1 := KR_val (hall 28 _ 85 rfl rfl) rfl
      have e86 : a'.eval (.tmp 86) = .pointer (some ⟨N, 32, none⟩) := KR_val (hall 29 _ 86 rfl rfl) rfl
      have e87 : a'.eval (.tmp 87) = HV x.2.1 := KR_val (hall 30 _ 87 rfl rfl) rfl
      have r88 : (fun w v_ => OwnG IE w N 46 v_ mu) w6 (a'.eval (.tmp 88)) := KR_of (hall 31 _ 88 rfl rfl) rfl
      obtain ⟨x88, hx88⟩ : ∃ v, a'.eval (.tmp 88) = v := ⟨_, rfl⟩
      rw [hx88] at r88
      have e89 : a'.eval (.tmp 89) = HV ru := KR_val (hall 32 _ 89 rfl rfl) rfl
      have e90 : a'.eval (.tmp 90) = .bool true := KR_val (hall 33 _ 90 rfl rfl) rfl
      have e91 : a'.eval (.tmp 91) = .bool true := KR_val (hall 34 _ 91 rfl rfl) rfl
      have e92 : a'.eval (.tmp 92) = .bool true := KR_val (hall 35 _ 92 rfl rfl) rfl
      have e93 : a'.eval (.tmp 93) = .bool true := KR_val (hall 36 _ 93 rfl rfl) rfl
      have e94 : a'.eval (.tmp 94) = .bool true := KR_val (hall 37 _ 94 rfl rfl) rfl
      have e4 : a'.eval (.tmp 4) = .bool true := KR_val (hall 38 _ 4 rfl rfl) rfl
      have ha := act_puts 95 rfl hsz hdf hk [57, 58, 59, 60, 61, 62, 63, 64, 65, 66, 67, 68, 69, 70, 71, 72, 73, 74, 75, 76, 77, 78, 79, 80, 81, 82, 83, 84, 85, 86, 87, 88, 89, 90, 91, 92, 93, 94, 4] (by decide +kernel)
      simp only [puts, List.foldl_cons, List.foldl_nil, e57, e58, e59, e60, e61, e62, e63, e64, e65, e66, e67, e68, e69, e70, e71, e72, e73, e74, e75, e76, e77, e78, e79, e80, e81, e82, e83, e84, e85, e86, e87, hx88, e89, e90, e91, e92, e93, e94, e4] at ha
      simp only [Act.put, List.setIfInBounds_toArray, List.set_cons_succ, List.set_cons_zero] at ha
      clear hall hk hsz hdf e57 e58 e59 e60 e61 e62 e63 e64 e65 e66 e67 e68 e69 e70 e71 e72 e73 e74 e75 e76 e77 e78 e79 e80 e81 e82 e83 e84 e85 e86 e87 hx88 e89 e90 e91 e92 e93 e94 e4
      subst ha
      have L6 : Hid (Below N w w6) := (show _ from LL.out.trans (hg.below GG.out))
      clear hg
      go_wp2_with fail
      go_ret
      exact ⟨rfl, L6.out⟩
#print axioms trieAlike_any
end Go.Proofs.YtnomlnedincfjaaDoor
