/-
  The law TrieGets: the call returns true.
-/
import Derived.Test.YtnomlnedincfjaaDoorLawX11
namespace Go.Proofs.YtnomlnedincfjaaDoor
open Go.RowKit
set_option maxHeartbeats 4000000 in
set_option maxRecDepth 100000 in
theorem trieGets_any (L : List (Hs × Hs × Bool)) (v : Value) (x : Hs × Hs × Bool) (k : Hs) (w : World) (hT : Tabs w) (hr : RdG AE w v L) : Calls Tryd.prog 6 #[v, .agg (AE.c x).toArray, HV k] w fun e w' => e = .returned (.bool true) ∧ Below w.heap.size w w' := by
  obtain ⟨N, HN⟩ : ∃ N, Hid (w.heap.size = N) := ⟨_, rfl⟩
  have h2 : 2 ≤ N := by rw [← HN.out]; exact hT.size
  have HT := hide hT
  have HR := hide hr
  obtain ⟨a, cp, rfl⟩ := hr.slice
  have HLOW : Hid (∀ b, InB (.slice a L.length cp) b → b < N) := (show _ from fun b hb => by rw [← HN.out]; exact hr.inB_lt hb)
  have hcap := hr.cap'
  clear hT hr
  obtain ⟨n, HNL⟩ : ∃ n, Hid (L.length = n) := ⟨_, rfl⟩
  rw [HNL.out] at HR HLOW hcap ⊢
  rw [HN.out]
  go_enter Tryd.func6, Tryd.ntmps6
  unfold HV
  go_upto_region 1 with fail
  obtain ⟨w1, hw1⟩ : ∃ z, z = (w.alloc (.cells (AE.c x).toArray 48 (0, 0))).alloc (.cells (By k.1).toArray 24 (0, 0)) := ⟨_, rfl⟩
  change Code.wp _ _ _ _ ((w.alloc (.cells (AE.c x).toArray 48 (0, 0))).alloc (.cells (By k.1).toArray 24 (0, 0)))
  rw [← hw1, HN.out]
  have XX : Hid (Blk w1 N 48 (AE.c x)) := (show Blk _ _ _ _ by rw [hw1, ← HN.out]; exact (Blk.new w 48 (AE.c x)).alloc _)
  have KK : Hid (Blk w1 (N + 1) 24 (By k.1)) := (show Blk _ _ _ _ by rw [hw1, ← HN.out]; have := Blk.new (w.alloc (.cells (AE.c x).toArray 48 (0, 0))) 24 (By k.1); simpa using this)
  have LL : Hid (Below N w w1) := (show Below _ _ _ by rw [hw1, ← HN.out]; exact ((Below.refl _ _).alloc (Nat.le_refl _) _).alloc (by simp) _)
  clear hw1
  have GG : Hid (N ≤ w1.heap.size) := (show _ ≤ _ from Nat.le_of_lt XX.out.lt)
  have TT := hide (HT.out.kept (LL.out.mono h2))
  have RR := hide (HR.out.kept (LL.out.mono (Nat.le_of_eq HN.out)))
  by_cases hn : 30 < n
  · have q1 : (30 : Int) < (n : Int) := by omega
    go_wp2_with (first
      | (go_at_call 9; refine (ulives_any _ TT.out).mono ?_; rintro e w9 ⟨rfl, hb9⟩; have TT_ := hide (TT.out.gr hb9); have LL_ : Hid (Below N w _) := (show _ from LL.out.trans (hb9.mono GG.out)); have GG_ : Hid (N ≤ _) := (show _ ≤ _ from Nat.le_trans GG.out hb9.size); clear hb9 TT LL GG; have TT := TT_; have LL := LL_; have GG := GG_; clear TT_ LL_ GG_)
      | fail)
    go_ret
    exact ⟨rfl, LL.out⟩
  have q1 : ¬ (30 : Int) < (n : Int) := by omega
  have HN40 : Hid (L.length ≤ 1000) := (show _ ≤ _ by rw [HNL.out]; omega)
  have hm1 := madeP_length L
  have hm2 := madeP_srt L
  obtain ⟨m, HMm⟩ : ∃ m, Hid (madeP L = m) := ⟨_, rfl⟩
  rw [HMm.out] at hm1 hm2
  rw [HNL.out] at hm1
  have HML : Hid (m.length ≤ 1000000) := (show _ ≤ _ by omega)
  have HLP0 := hide (putP_length hm2 x.1 x.2.1)
  have HLD0 := hide (dropP_length hm2 x.1)
  have HV3 : Hid (valP (putP m x.1 x.2.1) x.1 = x.2.1) := (show _ = _ by unfold valP; rw [getP_put, if_pos rfl]; rfl)
  have HH3 : Hid (hasP (putP m x.1 x.2.1) x.1 = true) := (show _ = _ by unfold hasP; rw [getP_put, if_pos rfl]; rfl)
  have HH4 : Hid (hasP (dropP m x.1) x.1 = false) := (show _ = _ by unfold hasP; rw [getP_drop, if_pos rfl]; rfl)
  have HK5 : Hid (¬ k = x.1 → getP (putP m x.1 x.2.1) k = getP m k ∧ getP (dropP m x.1) k = getP m k) := (show _ from fun h => by rw [getP_put, getP_drop, if_neg h, if_neg h]; exact ⟨rfl, rfl⟩)
  obtain ⟨mp, HMP⟩ : ∃ z, Hid (putP m x.1 x.2.1 = z) := ⟨_, rfl⟩
  obtain ⟨md, HMD⟩ : ∃ z, Hid (dropP m x.1 = z) := ⟨_, rfl⟩
  rw [HMP.out] at HLP0 HV3 HH3 HK5
  rw [HMD.out] at HLD0 HH4 HK5
  obtain ⟨ln, HLN⟩ : ∃ z, Hid (m.length = z) := ⟨_, rfl⟩
  obtain ⟨v1, HV1⟩ : ∃ z, Hid (valP m k = z) := ⟨_, rfl⟩
  obtain ⟨h1v, HH1⟩ : ∃ z, Hid (hasP m k = z) := ⟨_, rfl⟩
  obtain ⟨v2, HV2⟩ : ∃ z, Hid (valP m x.1 = z) := ⟨_, rfl⟩
  obtain ⟨h2v, HH2⟩ : ∃ z, Hid (hasP m x.1 = z) := ⟨_, rfl⟩
  obtain ⟨v4, HV4⟩ : ∃ z, Hid (valP md x.1 = z) := ⟨_, rfl⟩
  obtain ⟨rt, HRT⟩ : ∃ z, Hid (rootP m = z) := ⟨_, rfl⟩
  have hlb : ln ≤ 30 := by rw [← HLN.out]; omega
  clear hm1 hm2
  go_upto_region 4 with (first
    | (go_at_call 10; refine (umade_m (B0 := N) HMm.out HLN.out RR.out HN40.out GG.out).mono ?_; rintro e w9 ⟨p, pa, lc, rfl, t9, o9, hb9⟩; have XX_ := hide (XX.out.kept hb9); have KK_ := hide (KK.out.kept hb9); have TT_ := hide (TT.out.gr hb9); have RR_ := hide (RR.out.kept hb9); have LL_ : Hid (Below N w _) := (show _ from LL.out.trans (hb9.mono GG.out)); have GG_ : Hid (N ≤ _) := (show _ ≤ _ from Nat.le_trans GG.out hb9.size); clear hb9 XX KK TT RR LL GG; have XX := XX_; have KK := KK_; have TT := TT_; have RR := RR_; have LL := LL_; have GG := GG_; clear XX_ KK_ TT_ RR_ LL_ GG_; have T1 := hide t9; clear t9 o9)
    | fail)
  go_upto_region 5 with (first
    | (refine wpList_load_mid rfl 24 _ rfl (N + 1) 0 rfl (By (k).1) _ (KK.out.range0) Tryd.underlying24 rfl (Tryd.sizeH (k)) ?_)
    | (go_at_call 11; refine (tGet_m HV1.out HH1.out T1.out).mono ?_; rintro e w9 ⟨rfl, hb9⟩; have XX_ := hide (XX.out.kept hb9); have KK_ := hide (KK.out.kept hb9); have TT_ := hide (TT.out.gr hb9); have RR_ := hide (RR.out.kept hb9); have T1_ := hide (T1.out.kept hb9); have LL_ : Hid (Below N w _) := (show _ from LL.out.trans (hb9.mono GG.out)); have GG_ : Hid (N ≤ _) := (show _ ≤ _ from Nat.le_trans GG.out hb9.size); clear hb9 XX KK TT RR T1 LL GG; have XX := XX_; have KK := KK_; have TT := TT_; have RR := RR_; have T1 := T1_; have LL := LL_; have GG := GG_; clear XX_ KK_ TT_ RR_ T1_ LL_ GG_; obtain ⟨E1, HM⟩ : ∃ z, Hid (w9.heap.size = z) := ⟨_, rfl⟩)
    | (rw [HM.out]; refine wpList_store_blk rfl 24 _ _ rfl E1 (By zh.1) (By (v1).1) 24 rfl rfl (by rw [← HM.out]; exact Blk.new _ 24 (By zh.1)) (by rw [By_len, By_len]) (Tryd.sizeH (v1)) (By_one _) ?_; intro w9 hbk9 hu9; have hb9 := room_below HM.out hu9; have XX_ := hide (XX.out.kept hb9); have KK_ := hide (KK.out.kept hb9); have TT_ := hide (TT.out.gr hb9); have RR_ := hide (RR.out.kept hb9); have T1_ := hide (T1.out.kept hb9); have LL_ : Hid (Below N w _) := (show _ from LL.out.trans (hb9.mono GG.out)); have GG_ : Hid (N ≤ _) := (show _ ≤ _ from Nat.le_trans GG.out hb9.size); clear hb9 XX KK TT RR T1 LL GG; have XX := XX_; have KK := KK_; have TT := TT_; have RR := RR_; have T1 := T1_; have LL := LL_; have GG := GG_; clear XX_ KK_ TT_ RR_ T1_ LL_ GG_; have V1 := hide hbk9; clear hbk9 hu9 HM)
    | fail)
  go_upto_region 6 with (first
    | (go_at_call 17; refine (tLen_m HLN.out T1.out).mono ?_; rintro e w9 ⟨rfl, hw9⟩; subst w9)
    | fail)
  go_upto_region 7 with (first
    | (refine wpList_load_mid rfl 24 _ rfl (N) 0 rfl (By (x.1).1) _ (AEkey XX.out) Tryd.underlying24 rfl (Tryd.sizeH (x.1)) ?_)
    | (go_at_call 11; refine (tGet_m HV2.out HH2.out T1.out).mono ?_; rintro e w9 ⟨rfl, hb9⟩; have XX_ := hide (XX.out.kept hb9); have KK_ := hide (KK.out.kept hb9); have TT_ := hide (TT.out.gr hb9); have RR_ := hide (RR.out.kept hb9); have T1_ := hide (T1.out.kept hb9); have V1_ := hide (V1.out.kept hb9); have LL_ : Hid (Below N w _) := (show _ from LL.out.trans (hb9.mono GG.out)); have GG_ : Hid (N ≤ _) := (show _ ≤ _ from Nat.le_trans GG.out hb9.size); clear hb9 XX KK TT RR T1 V1 LL GG; have XX := XX_; have KK := KK_; have TT := TT_; have RR := RR_; have T1 := T1_; have V1 := V1_; have LL := LL_; have GG := GG_; clear XX_ KK_ TT_ RR_ T1_ V1_ LL_ GG_; obtain ⟨E2, HM⟩ : ∃ z, Hid (w9.heap.size = z) := ⟨_, rfl⟩)
    | (rw [HM.out]; refine wpList_store_blk rfl 24 _ _ rfl E2 (By zh.1) (By (v2).1) 24 rfl rfl (by rw [← HM.out]; exact Blk.new _ 24 (By zh.1)) (by rw [By_len, By_len]) (Tryd.sizeH (v2)) (By_one _) ?_; intro w9 hbk9 hu9; have hb9 := room_below HM.out hu9; have XX_ := hide (XX.out.kept hb9); have KK_ := hide (KK.out.kept hb9); have TT_ := hide (TT.out.gr hb9); have RR_ := hide (RR.out.kept hb9); have T1_ := hide (T1.out.kept hb9); have V1_ := hide (V1.out.kept hb9); have LL_ : Hid (Below N w _) := (show _ from LL.out.trans (hb9.mono GG.out)); have GG_ : Hid (N ≤ _) := (show _ ≤ _ from Nat.le_trans GG.out hb9.size); clear hb9 XX KK TT RR T1 V1 LL GG; have XX := XX_; have KK := KK_; have TT := TT_; have RR := RR_; have T1 := T1_; have V1 := V1_; have LL := LL_; have GG := GG_; clear XX_ KK_ TT_ RR_ T1_ V1_ LL_ GG_; have V2 := hide hbk9; clear hbk9 hu9 HM)
    | fail)
  refine wp_region_inv Tryd.mixed (KS (fun i_ => match i_ with | 0 | 6 => .val (PT p) | 1 | 7 => .val (.pointer (some ⟨N, 0, none⟩)) | 2 | 8 => .val (HV x.1) | 3 => .val (.pointer (some ⟨N, 32, none⟩)) | 4 => .val (HV x.2.1) | 5 | 10 => .of (fun w v_ => ∃ p_, v_ = PT p_ ∧ TrieAt N w p_ (mp)) (fun _ _ _ hg ⟨p_, e, h2⟩ => ⟨p_, e, h2.kept hg⟩) | 9 | 11 => .of (fun w v_ => ∃ p_, v_ = PT p_ ∧ TrieAt N w p_ (md)) (fun _ _ _ hg ⟨p_, e, h2⟩ => ⟨p_, e, h2.kept hg⟩) | _ => .free)) 155 rfl (by decide +kernel) (KS_mono _) ?_ ?_
  · refine AllFrom.cons (fun a' w' hg hk hd => ?_) (AllFrom.cons (fun a' w' hg hk hd => ?_) (AllFrom.cons (fun a' w' hg hk hd => ?_) (AllFrom.cons (fun a' w' hg hk hd => ?_) (AllFrom.cons (fun a' w' hg hk hd => ?_) (AllFrom.cons (fun a' w' hg hk hd => ?_) (AllFrom.cons (fun a' w' hg hk hd => ?_) (AllFrom.cons (fun a' w' hg hk hd => ?_) (AllFrom.cons (fun a' w' hg hk hd => ?_) (AllFrom.cons (fun a' w' hg hk hd => ?_) (AllFrom.cons (fun a' w' hg hk hd => ?_) (AllFrom.cons (fun a' w' hg hk hd => ?_) AllFrom.nil)))))))))))
    · skip
      intro Q
      have e7 : a'.eval (.tmp 7) = PT p := hk.at 7 (by decide +kernel)
      exact wp_value _ (by simp only [execOp, e7]; rfl) (KS_mkv rfl rfl)
    · skip
      intro Q
      have e4 : a'.eval (.tmp 4) = .pointer (some ⟨N, 0, none⟩) := hk.at 4 (by decide +kernel)
      clear hd hk
      exact wp_value (.pointer (some ⟨N, 0, none⟩)) (by simp only [execOp, e4]; go_simp) (KS_mkv rfl rfl)
    · skip
      intro Q
      have e51 : a'.eval (.tmp 51) = .pointer (some ⟨N, 0, none⟩) := KS_val (hd.val 1 51 (by decide +kernel)) rfl
      exact wp_load_row 24 _ rfl _ _ e51 (By (x.1).1) _ (AEkey (XX.out.kept hg)) Tryd.underlying24 rfl (Tryd.sizeH _) (KS_mkv rfl rfl)
    · skip
      intro Q
      have e4 : a'.eval (.tmp 4) = .pointer (some ⟨N, 0, none⟩) := hk.at 4 (by decide +kernel)
      clear hd hk
      exact wp_value (.pointer (some ⟨N, 32, none⟩)) (by simp only [execOp, e4]; go_simp) (KS_mkv rfl rfl)
    · skip
      intro Q
      have e53 : a'.eval (.tmp 53) = .pointer (some ⟨N, 32, none⟩) := KS_val (hd.val 3 53 (by decide +kernel)) rfl
      exact wp_load_row 24 _ rfl _ _ e53 (By (x.2.1).1) _ (AEval (XX.out.kept hg)) Tryd.underlying24 rfl (Tryd.sizeH _) (KS_mkv rfl rfl)
    · skip
      intro Q
      have e50 : a'.eval (.tmp 50) = PT p := KS_val (hd.val 0 50 (by decide +kernel)) rfl
      have e52 : a'.eval (.tmp 52) = HV x.1 := KS_val (hd.val 2 52 (by decide +kernel)) rfl
      have e54 : a'.eval (.tmp 54) = HV x.2.1 := KS_val (hd.val 4 54 (by decide +kernel)) rfl
      refine wp_call 23 _ (run_enter 23 _ _ rfl (by kernel_rfl)) ?_
      simp only [List.map_toArray, List.map_nil, List.map_cons, e50, e52, e54]
      refine (tPut_m HMP.out (T1.out.kept hg) (Nat.le_trans GG.out hg.size) HML.out).mono ?_
      rintro e w5 ⟨p5, rfl, t5, hb5⟩
      exact ⟨_, rfl, KS_mko rfl ⟨p5, rfl, t5⟩, hb5⟩
    · skip
      intro Q
      have e7 : a'.eval (.tmp 7) = PT p := hk.at 7 (by decide +kernel)
      exact wp_value _ (by simp only [execOp, e7]; rfl) (KS_mkv rfl rfl)
    · skip
      intro Q
      have e4 : a'.eval (.tmp 4) = .pointer (some ⟨N, 0, none⟩) := hk.at 4 (by decide +kernel)
      clear hd hk
      exact wp_value (.pointer (some ⟨N, 0, none⟩)) (by simp only [execOp, e4]; go_simp) (KS_mkv rfl rfl)
    · skip
      intro Q
      have e57 : a'.eval (.tmp 57) = .pointer (some ⟨N, 0, none⟩) := KS_val (hd.val 7 57 (by decide +kernel)) rfl
      exact wp_load_row 24 _ rfl _ _ e57 (By (x.1).1) _ (AEkey (XX.out.kept hg)) Tryd.underlying24 rfl (Tryd.sizeH _) (KS_mkv rfl rfl)
    · skip
      intro Q
      have e56 : a'.eval (.tmp 56) = PT p := KS_val (hd.val 6 56 (by decide +kernel)) rfl
      have e58 : a'.eval (.tmp 58) = HV x.1 := KS_val (hd.val 8 58 (by decide +kernel)) rfl
      refine wp_call 24 _ (run_enter 24 _ _ rfl (by kernel_rfl)) ?_
      simp only [List.map_toArray, List.map_nil, List.map_cons, e56, e58]
      refine (tDrop_m HMD.out (T1.out.kept hg) (Nat.le_trans GG.out hg.size) HML.out).mono ?_
      rintro e w5 ⟨p5, rfl, t5, hb5⟩
      exact ⟨_, rfl, KS_mko rfl ⟨p5, rfl, t5⟩, hb5⟩
    · skip
      intro Q
      have r55 := KS_of (hd.val 5 55 (by decide +kernel)) rfl
      exact wp_value (a'.eval (.tmp 55)) (by simp only [execOp]; rfl) (KS_mko rfl r55)
    · skip
      intro Q
      have r59 := KS_of (hd.val 9 59 (by decide +kernel)) rfl
      exact wp_value (a'.eval (.tmp 59)) (by simp only [execOp]; rfl) (KS_mko rfl r59)
  · intro a' w8 hsz hdf hk hall hg
    have e50 : a'.eval (.tmp 50) = PT p := KS_val (hall 0 _ 50 rfl rfl) rfl
    have e51 : a'.eval (.tmp 51) = .pointer (some ⟨N, 0, none⟩) := KS_val (hall 1 _ 51 rfl rfl) rfl
    have e52 : a'.eval (.tmp 52) = HV x.1 := KS_val (hall 2 _ 52 rfl rfl) rfl
    have e53 : a'.eval (.tmp 53) = .pointer (some ⟨N, 32, none⟩) := KS_val (hall 3 _ 53 rfl rfl) rfl
    have e54 : a'.eval (.tmp 54) = HV x.2.1 := KS_val (hall 4 _ 54 rfl rfl) rfl
    have r55 : (fun w v_ => ∃ p_, v_ = PT p_ ∧ TrieAt N w p_ (mp)) w8 (a'.eval (.tmp 55)) := KS_of (hall 5 _ 55 rfl rfl) rfl
    obtain ⟨x55, hx55⟩ : ∃ v, a'.eval (.tmp 55) = v := ⟨_, rfl⟩
    rw [hx55] at r55
    have e56 : a'.eval (.tmp 56) = PT p := KS_val (hall 6 _ 56 rfl rfl) rfl
    have e57 : a'.eval (.tmp 57) = .pointer (some ⟨N, 0, none⟩) := KS_val (hall 7 _ 57 rfl rfl) rfl
    have e58 : a'.eval (.tmp 58) = HV x.1 := KS_val (hall 8 _ 58 rfl rfl) rfl
    have r59 : (fun w v_ => ∃ p_, v_ = PT p_ ∧ TrieAt N w p_ (md)) w8 (a'.eval (.tmp 59)) := KS_of (hall 9 _ 59 rfl rfl) rfl
    obtain ⟨x59, hx59⟩ : ∃ v, a'.eval (.tmp 59) = v := ⟨_, rfl⟩
    rw [hx59] at r59
    have r14 : (fun w v_ => ∃ p_, v_ = PT p_ ∧ TrieAt N w p_ (mp)) w8 (a'.eval (.tmp 14)) := KS_of (hall 10 _ 14 rfl rfl) rfl
    obtain ⟨x14, hx14⟩ : ∃ v, a'.eval (.tmp 14) = v := ⟨_, rfl⟩
    rw [hx14] at r14
    have r15 : (fun w v_ => ∃ p_, v_ = PT p_ ∧ TrieAt N w p_ (md)) w8 (a'.eval (.tmp 15)) := KS_of (hall 11 _ 15 rfl rfl) rfl
    obtain ⟨x15, hx15⟩ : ∃ v, a'.eval (.tmp 15) = v := ⟨_, rfl⟩
    rw [hx15] at r15
    have ha := act_puts 155 rfl hsz hdf hk [50, 51, 52, 53, 54, 55, 56, 57, 58, 59, 14, 15] (by decide +kernel)
    simp only [puts, List.foldl_cons, List.foldl_nil, e50, e51, e52, e53, e54, hx55, e56, e57, e58, hx59, hx14, hx15] at ha
    simp only [Act.put, List.setIfInBounds_toArray, List.set_cons_succ, List.set_cons_zero] at ha
    clear hall hk hsz hdf e50 e51 e52 e53 e54 hx55 e56 e57 e58 hx59 hx14 hx15
    subst ha
    obtain ⟨pp, ep, tp⟩ := r14
    subst ep
    obtain ⟨pd, ed, td⟩ := r15
    subst ed
    obtain ⟨_, -, -⟩ := r55
    obtain ⟨_, -, -⟩ := r59
    have XX_ := hide (XX.out.kept hg)
    have KK_ := hide (KK.out.kept hg)
    have TT_ := hide (TT.out.gr hg)
    have RR_ := hide (RR.out.kept hg)
    have T1_ := hide (T1.out.kept hg)
    have V1_ := hide (V1.out.kept hg)
    have V2_ := hide (V2.out.kept hg)
    have LL_ : Hid (Below N w _) := (show _ from LL.out.trans (hg.mono GG.out))
    have GG_ : Hid (N ≤ _) := (show _ ≤ _ from Nat.le_trans GG.out hg.size)
    clear hg XX KK TT RR T1 V1 V2 LL GG
    have XX := XX_
    have KK := KK_
    have TT := TT_
    have RR := RR_
    have T1 := T1_
    have V1 := V1_
    have V2 := V2_
    have LL := LL_
    have GG := GG_
    clear XX_ KK_ TT_ RR_ T1_ V1_ V2_ LL_ GG_
    have TP := hide tp
    have TD := hide td
    clear tp td
    go_upto_region 9 with (first
      | (refine wpList_load_mid rfl 24 _ rfl (N) 0 rfl (By (x.1).1) _ (AEkey XX.out) Tryd.underlying24 rfl (Tryd.sizeH (x.1)) ?_)
      | (go_at_call 11; refine (tGet_m HV3.out HH3.out TP.out).mono ?_; rintro e w9 ⟨rfl, hb9⟩; have XX_ := hide (XX.out.kept hb9); have KK_ := hide (KK.out.kept hb9); have TT_ := hide (TT.out.gr hb9); have RR_ := hide (RR.out.kept hb9); have T1_ := hide (T1.out.kept hb9); have V1_ := hide (V1.out.kept hb9); have V2_ := hide (V2.out.kept hb9); have TP_ := hide (TP.out.kept hb9); have TD_ := hide (TD.out.kept hb9); have LL_ : Hid (Below N w _) := (show _ from LL.out.trans (hb9.mono GG.out)); have GG_ : Hid (N ≤ _) := (show _ ≤ _ from Nat.le_trans GG.out hb9.size); clear hb9 XX KK TT RR T1 V1 V2 TP TD LL GG; have XX := XX_; have KK := KK_; have TT := TT_; have RR := RR_; have T1 := T1_; have V1 := V1_; have V2 := V2_; have TP := TP_; have TD := TD_; have LL := LL_; have GG := GG_; clear XX_ KK_ TT_ RR_ T1_ V1_ V2_ TP_ TD_ LL_ GG_; obtain ⟨E3, HM⟩ : ∃ z, Hid (w9.heap.size = z) := ⟨_, rfl⟩)
      | (rw [HM.out]; refine wpList_store_blk rfl 24 _ _ rfl E3 (By zh.1) (By (x.2.1).1) 24 rfl rfl (by rw [← HM.out]; exact Blk.new _ 24 (By zh.1)) (by rw [By_len, By_len]) (Tryd.sizeH (x.2.1)) (By_one _) ?_; intro w9 hbk9 hu9; have hb9 := room_below HM.out hu9; have XX_ := hide (XX.out.kept hb9); have KK_ := hide (KK.out.kept hb9); have TT_ := hide (TT.out.gr hb9); have RR_ := hide (RR.out.kept hb9); have T1_ := hide (T1.out.kept hb9); have V1_ := hide (V1.out.kept hb9); have V2_ := hide (V2.out.kept hb9); have TP_ := hide (TP.out.kept hb9); have TD_ := hide (TD.out.kept hb9); have LL_ : Hid (Below N w _) := (show _ from LL.out.trans (hb9.mono GG.out)); have GG_ : Hid (N ≤ _) := (show _ ≤ _ from Nat.le_trans GG.out hb9.size); clear hb9 XX KK TT RR T1 V1 V2 TP TD LL GG; have XX := XX_; have KK := KK_; have TT := TT_; have RR := RR_; have T1 := T1_; have V1 := V1_; have V2 := V2_; have TP := TP_; have TD := TD_; have LL := LL_; have GG := GG_; clear XX_ KK_ TT_ RR_ T1_ V1_ V2_ TP_ TD_ LL_ GG_; have V3 := hide hbk9; clear hbk9 hu9 HM)
      | fail)
    go_upto_region 10 with (first
      | (refine wpList_load_mid rfl 24 _ rfl (N) 0 rfl (By (x.1).1) _ (AEkey XX.out) Tryd.underlying24 rfl (Tryd.sizeH (x.1)) ?_)
      | (go_at_call 11; refine (tGet_m HV4.out HH4.out TD.out).mono ?_; rintro e w9 ⟨rfl, hb9⟩; have XX_ := hide (XX.out.kept hb9); have KK_ := hide (KK.out.kept hb9); have TT_ := hide (TT.out.gr hb9); have RR_ := hide (RR.out.kept hb9); have T1_ := hide (T1.out.kept hb9); have V1_ := hide (V1.out.kept hb9); have V2_ := hide (V2.out.kept hb9); have TP_ := hide (TP.out.kept hb9); have TD_ := hide (TD.out.kept hb9); have V3_ := hide (V3.out.kept hb9); have LL_ : Hid (Below N w _) := (show _ from LL.out.trans (hb9.mono GG.out)); have GG_ : Hid (N ≤ _) := (show _ ≤ _ from Nat.le_trans GG.out hb9.size); clear hb9 XX KK TT RR T1 V1 V2 TP TD V3 LL GG; have XX := XX_; have KK := KK_; have TT := TT_; have RR := RR_; have T1 := T1_; have V1 := V1_; have V2 := V2_; have TP := TP_; have TD := TD_; have V3 := V3_; have LL := LL_; have GG := GG_; clear XX_ KK_ TT_ RR_ T1_ V1_ V2_ TP_ TD_ V3_ LL_ GG_; obtain ⟨E4, HM⟩ : ∃ z, Hid (w9.heap.size = z) := ⟨_, rfl⟩)
      | (rw [HM.out]; refine wpList_store_blk rfl 24 _ _ rfl E4 (By zh.1) (By (v4).1) 24 rfl rfl (by rw [← HM.out]; exact Blk.new _ 24 (By zh.1)) (by rw [By_len, By_len]) (Tryd.sizeH (v4)) (By_one _) ?_; intro w9 hbk9 hu9; have hb9 := room_below HM.out hu9; have XX_ := hide (XX.out.kept hb9); have KK_ := hide (KK.out.kept hb9); have TT_ := hide (TT.out.gr hb9); have RR_ := hide (RR.out.kept hb9); have T1_ := hide (T1.out.kept hb9); have V1_ := hide (V1.out.kept hb9); have V2_ := hide (V2.out.kept hb9); have TP_ := hide (TP.out.kept hb9); have TD_ := hide (TD.out.kept hb9); have V3_ := hide (V3.out.kept hb9); have LL_ : Hid (Below N w _) := (show _ from LL.out.trans (hb9.mono GG.out)); have GG_ : Hid (N ≤ _) := (show _ ≤ _ from Nat.le_trans GG.out hb9.size); clear hb9 XX KK TT RR T1 V1 V2 TP TD V3 LL GG; have XX := XX_; have KK := KK_; have TT := TT_; have RR := RR_; have T1 := T1_; have V1 := V1_; have V2 := V2_; have TP := TP_; have TD := TD_; have V3 := V3_; have LL := LL_; have GG := GG_; clear XX_ KK_ TT_ RR_ T1_ V1_ V2_ TP_ TD_ V3_ LL_ GG_; have V4 := hide hbk9; clear hbk9 hu9 HM)
      | fail)
    have hqx := eqAA x.2.1
    have heq := eqA k x.1
    by_cases hkx : k = x.1
    · rw [decide_eq_true hkx] at heq
      clear hkx
      cases h2v with
      | true =>
        have HLP : Hid (mp.length = ln) := (show _ = _ by rw [HLP0.out, HH2.out, if_pos rfl, HLN.out]; rfl)
        have hd9 := HLD0.out
        rw [HH2.out, if_pos rfl, HLN.out] at hd9
        obtain ⟨ld, hld⟩ : ∃ z, z + 1 = ln := ⟨md.length, hd9⟩
        have HLD : Hid (md.length = ld) := (show _ = _ by omega)
        have qd : (ln : Int) - 1 = (ld : Int) := by omega
        clear hd9 hld
        go_wp2_with (first
          | (refine wpList_load_w9 rfl 24 _ rfl (E3) 0 rfl (By (x.2.1).1) _ (V3.out.range0) Tryd.underlying24 rfl (Tryd.sizeH (x.2.1)) ?_)
          | (refine wpList_load_w9 rfl 24 _ rfl (N) 32 rfl (By (x.2.1).1) _ (AEval XX.out) Tryd.underlying24 rfl (Tryd.sizeH (x.2.1)) ?_)
          | (refine wpList_load_mid rfl 24 _ rfl (N + 1) 0 rfl (By (k).1) _ (KK.out.range0) Tryd.underlying24 rfl (Tryd.sizeH (k)) ?_)
          | (refine wpList_load_mid rfl 24 _ rfl (N) 0 rfl (By (x.1).1) _ (AEkey XX.out) Tryd.underlying24 rfl (Tryd.sizeH (x.1)) ?_)
          | (go_at_call 17; with_reducible (show Calls _ _ #[PT pp] _ _); refine (tLen_m HLP.out TP.out).mono ?_; rintro e w9 ⟨rfl, hw9⟩; subst w9)
          | (go_at_call 17; with_reducible (show Calls _ _ #[PT pd] _ _); refine (tLen_m HLD.out TD.out).mono ?_; rintro e w9 ⟨rfl, hw9⟩; subst w9)
          | (go_at_call 17; with_reducible (show Calls _ _ #[PT p] _ _); refine (tLen_m HLN.out T1.out).mono ?_; rintro e w9 ⟨rfl, hw9⟩; subst w9)
          | (go_at_call 9; refine (ulives_any _ TT.out).mono ?_; rintro e w9 ⟨rfl, hb9⟩; have XX_ := hide (XX.out.kept hb9); have KK_ := hide (KK.out.kept hb9); have TT_ := hide (TT.out.gr hb9); have RR_ := hide (RR.out.kept hb9); have T1_ := hide (T1.out.kept hb9); have V1_ := hide (V1.out.kept hb9); have V2_ := hide (V2.out.kept hb9); have TP_ := hide (TP.out.kept hb9); have TD_ := hide (TD.out.kept hb9); have V3_ := hide (V3.out.kept hb9); have V4_ := hide (V4.out.kept hb9); have LL_ : Hid (Below N w _) := (show _ from LL.out.trans (hb9.mono GG.out)); have GG_ : Hid (N ≤ _) := (show _ ≤ _ from Nat.le_trans GG.out hb9.size); clear hb9 XX KK TT RR T1 V1 V2 TP TD V3 V4 LL GG; have XX := XX_; have KK := KK_; have TT := TT_; have RR := RR_; have T1 := T1_; have V1 := V1_; have V2 := V2_; have TP := TP_; have TD := TD_; have V3 := V3_; have V4 := V4_; have LL := LL_; have GG := GG_; clear XX_ KK_ TT_ RR_ T1_ V1_ V2_ TP_ TD_ V3_ V4_ LL_ GG_)
          | fail)
        go_ret
        exact ⟨rfl, LL.out⟩
      | false =>
        have HLP : Hid (mp.length = ln + 1) := (show _ = _ by rw [HLP0.out, HH2.out, if_neg (by decide), HLN.out])
        have HMDm : Hid (md = m) := (show _ = _ by rw [← HMD.out]; exact dropP_none (fun y hy e => by have := hasP_iff.2 ⟨y, hy, e⟩; rw [HH2.out] at this; cases this))
        have HLD : Hid (md.length = ln) := (show _ = _ by rw [HMDm.out]; exact HLN.out)
        have HRD : Hid (rootP md = rt) := (show _ = _ by rw [HMDm.out]; exact HRT.out)
        have hqr := eqAA rt
        go_wp2_with (first
          | (refine wpList_load_w9 rfl 24 _ rfl (E3) 0 rfl (By (x.2.1).1) _ (V3.out.range0) Tryd.underlying24 rfl (Tryd.sizeH (x.2.1)) ?_)
          | (refine wpList_load_w9 rfl 24 _ rfl (N) 32 rfl (By (x.2.1).1) _ (AEval XX.out) Tryd.underlying24 rfl (Tryd.sizeH (x.2.1)) ?_)
          | (refine wpList_load_mid rfl 24 _ rfl (N + 1) 0 rfl (By (k).1) _ (KK.out.range0) Tryd.underlying24 rfl (Tryd.sizeH (k)) ?_)
          | (refine wpList_load_mid rfl 24 _ rfl (N) 0 rfl (By (x.1).1) _ (AEkey XX.out) Tryd.underlying24 rfl (Tryd.sizeH (x.1)) ?_)
          | (go_at_call 17; with_reducible (show Calls _ _ #[PT pp] _ _); refine (tLen_m HLP.out TP.out).mono ?_; rintro e w9 ⟨rfl, hw9⟩; subst w9)
          | (go_at_call 17; with_reducible (show Calls _ _ #[PT pd] _ _); refine (tLen_m HLD.out TD.out).mono ?_; rintro e w9 ⟨rfl, hw9⟩; subst w9)
          | (go_at_call 17; with_reducible (show Calls _ _ #[PT p] _ _); refine (tLen_m HLN.out T1.out).mono ?_; rintro e w9 ⟨rfl, hw9⟩; subst w9)
          | fail)
        refine (tRoot_m HRD.out h2 TD.out TT.out GG.out).mono ?_
        rintro e w9 ⟨rfl, ht9⟩
        have XX_ := hide (ht9.blk XX.out (by decide))
        have KK_ := hide (ht9.blk KK.out (by decide))
        have TT_ := hide (TT.out.tch ht9 h2 GG.out)
        have RR_ := hide (RR.out.tchLow ht9 GG.out HLOW.out)
        have T1_ := hide (T1.out.tch ht9)
        have V1_ := hide (ht9.blk V1.out (by decide))
        have V2_ := hide (ht9.blk V2.out (by decide))
        have TP_ := hide (TP.out.tch ht9)
        have TD_ := hide (TD.out.tch ht9)
        have V3_ := hide (ht9.blk V3.out (by decide))
        have V4_ := hide (ht9.blk V4.out (by decide))
        have LL_ : Hid (Below N w _) := (show _ from LL.out.trans (ht9.below GG.out))
        have GG_ : Hid (N ≤ _) := (show _ ≤ _ from Nat.le_trans GG.out ht9.size)
        clear ht9 XX KK TT RR T1 V1 V2 TP TD V3 V4 LL GG
        have XX := XX_
        have KK := KK_
        have TT := TT_
        have RR := RR_
        have T1 := T1_
        have V1 := V1_
        have V2 := V2_
        have TP := TP_
        have TD := TD_
        have V3 := V3_
        have V4 := V4_
        have LL := LL_
        have GG := GG_
        clear XX_ KK_ TT_ RR_ T1_ V1_ V2_ TP_ TD_ V3_ V4_ LL_ GG_
        go_wp2_with fail
        refine (tRoot_m HRT.out h2 T1.out TT.out GG.out).mono ?_
        rintro e w9 ⟨rfl, ht9⟩
        have XX_ := hide (ht9.blk XX.out (by decide))
        have KK_ := hide (ht9.blk KK.out (by decide))
        have TT_ := hide (TT.out.tch ht9 h2 GG.out)
        have RR_ := hide (RR.out.tchLow ht9 GG.out HLOW.out)
        have T1_ := hide (T1.out.tch ht9)
        have V1_ := hide (ht9.blk V1.out (by decide))
        have V2_ := hide (ht9.blk V2.out (by decide))
        have TP_ := hide (TP.out.tch ht9)
        have TD_ := hide (TD.out.tch ht9)
        have V3_ := hide (ht9.blk V3.out (by decide))
        have V4_ := hide (ht9.blk V4.out (by decide))
        have LL_ : Hid (Below N w _) := (show _ from LL.out.trans (ht9.below GG.out))
        have GG_ : Hid (N ≤ _) := (show _ ≤ _ from Nat.le_trans GG.out ht9.size)
        clear ht9 XX KK TT RR T1 V1 V2 TP TD V3 V4 LL GG
        have XX := XX_
        have KK := KK_
        have TT := TT_
        have RR := RR_
        have T1 := T1_
        have V1 := V1_
        have V2 := V2_
        have TP := TP_
        have TD := TD_
        have V3 := V3_
        have V4 := V4_
        have LL := LL_
        have GG := GG_
        clear XX_ KK_ TT_ RR_ T1_ V1_ V2_ TP_ TD_ V3_ V4_ LL_ GG_
        go_wp2_with fail
        refine (ulives_any _ TT.out).mono ?_
        rintro e w9 ⟨rfl, hb9⟩
        have XX_ := hide (XX.out.kept hb9)
        have KK_ := hide (KK.out.kept hb9)
        have TT_ := hide (TT.out.gr hb9)
        have RR_ := hide (RR.out.kept hb9)
        have T1_ := hide (T1.out.kept hb9)
        have V1_ := hide (V1.out.kept hb9)
        have V2_ := hide (V2.out.kept hb9)
        have TP_ := hide (TP.out.kept hb9)
        have TD_ := hide (TD.out.kept hb9)
        have V3_ := hide (V3.out.kept hb9)
        have V4_ := hide (V4.out.kept hb9)
        have LL_ : Hid (Below N w _) := (show _ from LL.out.trans (hb9.mono GG.out))
        have GG_ : Hid (N ≤ _) := (show _ ≤ _ from Nat.le_trans GG.out hb9.size)
        clear hb9 XX KK TT RR T1 V1 V2 TP TD V3 V4 LL GG
        have XX := XX_
        have KK := KK_
        have TT := TT_
        have RR := RR_
        have T1 := T1_
        have V1 := V1_
        have V2 := V2_
        have TP := TP_
        have TD := TD_
        have V3 := V3_
        have V4 := V4_
        have LL := LL_
        have GG := GG_
        clear XX_ KK_ TT_ RR_ T1_ V1_ V2_ TP_ TD_ V3_ V4_ LL_ GG_
        go_wp2_with fail
        go_ret
        exact ⟨rfl, LL.out⟩
    · rw [decide_eq_false hkx] at heq
      obtain ⟨g5, g6⟩ := HK5.out hkx
      have HV5 : Hid (valP mp k = v1) := (show _ = _ by rw [← HV1.out]; unfold valP; rw [g5])
      have HH5 : Hid (hasP mp k = h1v) := (show _ = _ by rw [← HH1.out]; unfold hasP; rw [g5])
      have HV6 : Hid (valP md k = v1) := (show _ = _ by rw [← HV1.out]; unfold valP; rw [g6])
      have HH6 : Hid (hasP md k = h1v) := (show _ = _ by rw [← HH1.out]; unfold hasP; rw [g6])
      clear hkx g5 g6
      go_upto_region 13 with (first
        | (refine wpList_load_w9 rfl 24 _ rfl (E3) 0 rfl (By (x.2.1).1) _ (V3.out.range0) Tryd.underlying24 rfl (Tryd.sizeH (x.2.1)) ?_)
        | (refine wpList_load_w9 rfl 24 _ rfl (N) 32 rfl (By (x.2.1).1) _ (AEval XX.out) Tryd.underlying24 rfl (Tryd.sizeH (x.2.1)) ?_)
        | (refine wpList_load_mid rfl 24 _ rfl (N + 1) 0 rfl (By (k).1) _ (KK.out.range0) Tryd.underlying24 rfl (Tryd.sizeH (k)) ?_)
        | (refine wpList_load_mid rfl 24 _ rfl (N) 0 rfl (By (x.1).1) _ (AEkey XX.out) Tryd.underlying24 rfl (Tryd.sizeH (x.1)) ?_)
        | fail)
      go_upto_region 14 with (first
        | (refine wpList_load_mid rfl 24 _ rfl (N + 1) 0 rfl (By (k).1) _ (KK.out.range0) Tryd.underlying24 rfl (Tryd.sizeH (k)) ?_)
        | (refine wpList_load_mid rfl 24 _ rfl (N) 0 rfl (By (x.1).1) _ (AEkey XX.out) Tryd.underlying24 rfl (Tryd.sizeH (x.1)) ?_)
        | (go_at_call 11; refine (tGet_m HV5.out HH5.out TP.out).mono ?_; rintro e w9 ⟨rfl, hb9⟩; have XX_ := hide (XX.out.kept hb9); have KK_ := hide (KK.out.kept hb9); have TT_ := hide (TT.out.gr hb9); have RR_ := hide (RR.out.kept hb9); have T1_ := hide (T1.out.kept hb9); have V1_ := hide (V1.out.kept hb9); have V2_ := hide (V2.out.kept hb9); have TP_ := hide (TP.out.kept hb9); have TD_ := hide (TD.out.kept hb9); have V3_ := hide (V3.out.kept hb9); have V4_ := hide (V4.out.kept hb9); have LL_ : Hid (Below N w _) := (show _ from LL.out.trans (hb9.mono GG.out)); have GG_ : Hid (N ≤ _) := (show _ ≤ _ from Nat.le_trans GG.out hb9.size); clear hb9 XX KK TT RR T1 V1 V2 TP TD V3 V4 LL GG; have XX := XX_; have KK := KK_; have TT := TT_; have RR := RR_; have T1 := T1_; have V1 := V1_; have V2 := V2_; have TP := TP_; have TD := TD_; have V3 := V3_; have V4 := V4_; have LL := LL_; have GG := GG_; clear XX_ KK_ TT_ RR_ T1_ V1_ V2_ TP_ TD_ V3_ V4_ LL_ GG_; obtain ⟨E5, HM⟩ : ∃ z, Hid (w9.heap.size = z) := ⟨_, rfl⟩)
        | (rw [HM.out]; refine wpList_store_blk rfl 24 _ _ rfl E5 (By zh.1) (By (v1).1) 24 rfl rfl (by rw [← HM.out]; exact Blk.new _ 24 (By zh.1)) (by rw [By_len, By_len]) (Tryd.sizeH (v1)) (By_one _) ?_; intro w9 hbk9 hu9; have hb9 := room_below HM.out hu9; have XX_ := hide (XX.out.kept hb9); have KK_ := hide (KK.out.kept hb9); have TT_ := hide (TT.out.gr hb9); have RR_ := hide (RR.out.kept hb9); have T1_ := hide (T1.out.kept hb9); have V1_ := hide (V1.out.kept hb9); have V2_ := hide (V2.out.kept hb9); have TP_ := hide (TP.out.kept hb9); have TD_ := hide (TD.out.kept hb9); have V3_ := hide (V3.out.kept hb9); have V4_ := hide (V4.out.kept hb9); have LL_ : Hid (Below N w _) := (show _ from LL.out.trans (hb9.mono GG.out)); have GG_ : Hid (N ≤ _) := (show _ ≤ _ from Nat.le_trans GG.out hb9.size); clear hb9 XX KK TT RR T1 V1 V2 TP TD V3 V4 LL GG; have XX := XX_; have KK := KK_; have TT := TT_; have RR := RR_; have T1 := T1_; have V1 := V1_; have V2 := V2_; have TP := TP_; have TD := TD_; have V3 := V3_; have V4 := V4_; have LL := LL_; have GG := GG_; clear XX_ KK_ TT_ RR_ T1_ V1_ V2_ TP_ TD_ V3_ V4_ LL_ GG_; have V5 := hide hbk9; clear hbk9 hu9 HM)
        | fail)
      go_upto_region 15 with (first
        | (refine wpList_load_mid rfl 24 _ rfl (N + 1) 0 rfl (By (k).1) _ (KK.out.range0) Tryd.underlying24 rfl (Tryd.sizeH (k)) ?_)
        | (go_at_call 11; refine (tGet_m HV6.out HH6.out TD.out).mono ?_; rintro e w9 ⟨rfl, hb9⟩; have XX_ := hide (XX.out.kept hb9); have KK_ := hide (KK.out.kept hb9); have TT_ := hide (TT.out.gr hb9); have RR_ := hide (RR.out.kept hb9); have T1_ := hide (T1.out.kept hb9); have V1_ := hide (V1.out.kept hb9); have V2_ := hide (V2.out.kept hb9); have TP_ := hide (TP.out.kept hb9); have TD_ := hide (TD.out.kept hb9); have V3_ := hide (V3.out.kept hb9); have V4_ := hide (V4.out.kept hb9); have V5_ := hide (V5.out.kept hb9); have LL_ : Hid (Below N w _) := (show _ from LL.out.trans (hb9.mono GG.out)); have GG_ : Hid (N ≤ _) := (show _ ≤ _ from Nat.le_trans GG.out hb9.size); clear hb9 XX KK TT RR T1 V1 V2 TP TD V3 V4 V5 LL GG; have XX := XX_; have KK := KK_; have TT := TT_; have RR := RR_; have T1 := T1_; have V1 := V1_; have V2 := V2_; have TP := TP_; have TD := TD_; have V3 := V3_; have V4 := V4_; have V5 := V5_; have LL := LL_; have GG := GG_; clear XX_ KK_ TT_ RR_ T1_ V1_ V2_ TP_ TD_ V3_ V4_ V5_ LL_ GG_; obtain ⟨E6, HM⟩ : ∃ z, Hid (w9.heap.size = z) := ⟨_, rfl⟩)
        | (rw [HM.out]; refine wpList_store_blk rfl 24 _ _ rfl E6 (By zh.1) (By (v1).1) 24 rfl rfl (by rw [← HM.out]; exact Blk.new _ 24 (By zh.1)) (by rw [By_len, By_len]) (Tryd.sizeH (v1)) (By_one _) ?_; intro w9 hbk9 hu9; have hb9 := room_below HM.out hu9; have XX_ := hide (XX.out.kept hb9); have KK_ := hide (KK.out.kept hb9); have TT_ := hide (TT.out.gr hb9); have RR_ := hide (RR.out.kept hb9); have T1_ := hide (T1.out.kept hb9); have V1_ := hide (V1.out.kept hb9); have V2_ := hide (V2.out.kept hb9); have TP_ := hide (TP.out.kept hb9); have TD_ := hide (TD.out.kept hb9); have V3_ := hide (V3.out.kept hb9); have V4_ := hide (V4.out.kept hb9); have V5_ := hide (V5.out.kept hb9); have LL_ : Hid (Below N w _) := (show _ from LL.out.trans (hb9.mono GG.out)); have GG_ : Hid (N ≤ _) := (show _ ≤ _ from Nat.le_trans GG.out hb9.size); clear hb9 XX KK TT RR T1 V1 V2 TP TD V3 V4 V5 LL GG; have XX := XX_; have KK := KK_; have TT := TT_; have RR := RR_; have T1 := T1_; have V1 := V1_; have V2 := V2_; have TP := TP_; have TD := TD_; have V3 := V3_; have V4 := V4_; have V5 := V5_; have LL := LL_; have GG := GG_; clear XX_ KK_ TT_ RR_ T1_ V1_ V2_ TP_ TD_ V3_ V4_ V5_ LL_ GG_; have V6 := hide hbk9; clear hbk9 hu9 HM)
        | fail)
      have hq1 := eqAA v1
      cases h2v with
      | true =>
        have HLP : Hid (mp.length = ln) := (show _ = _ by rw [HLP0.out, HH2.out, if_pos rfl, HLN.out]; rfl)
        have hd9 := HLD0.out
        rw [HH2.out, if_pos rfl, HLN.out] at hd9
        obtain ⟨ld, hld⟩ : ∃ z, z + 1 = ln := ⟨md.length, hd9⟩
        have HLD : Hid (md.length = ld) := (show _ = _ by omega)
        have qd : (ln : Int) - 1 = (ld : Int) := by omega
        clear hd9 hld
        go_wp2_with (first
          | (refine wpList_load_mid rfl 24 _ rfl (E5) 0 rfl (By (v1).1) _ (V5.out.range0) Tryd.underlying24 rfl (Tryd.sizeH (v1)) ?_)
          | (refine wpList_load_mid rfl 24 _ rfl (E1) 0 rfl (By (v1).1) _ (V1.out.range0) Tryd.underlying24 rfl (Tryd.sizeH (v1)) ?_)
          | (refine wpList_load_w9 rfl 24 _ rfl (E6) 0 rfl (By (v1).1) _ (V6.out.range0) Tryd.underlying24 rfl (Tryd.sizeH (v1)) ?_)
          | (refine wpList_load_w9 rfl 24 _ rfl (E1) 0 rfl (By (v1).1) _ (V1.out.range0) Tryd.underlying24 rfl (Tryd.sizeH (v1)) ?_)
          | (go_at_call 17; with_reducible (show Calls _ _ #[PT pp] _ _); refine (tLen_m HLP.out TP.out).mono ?_; rintro e w9 ⟨rfl, hw9⟩; subst w9)
          | (go_at_call 17; with_reducible (show Calls _ _ #[PT pd] _ _); refine (tLen_m HLD.out TD.out).mono ?_; rintro e w9 ⟨rfl, hw9⟩; subst w9)
          | (go_at_call 17; with_reducible (show Calls _ _ #[PT p] _ _); refine (tLen_m HLN.out T1.out).mono ?_; rintro e w9 ⟨rfl, hw9⟩; subst w9)
          | (go_at_call 9; refine (ulives_any _ TT.out).mono ?_; rintro e w9 ⟨rfl, hb9⟩; have XX_ := hide (XX.out.kept hb9); have KK_ := hide (KK.out.kept hb9); have TT_ := hide (TT.out.gr hb9); have RR_ := hide (RR.out.kept hb9); have T1_ := hide (T1.out.kept hb9); have V1_ := hide (V1.out.kept hb9); have V2_ := hide (V2.out.kept hb9); have TP_ := hide (TP.out.kept hb9); have TD_ := hide (TD.out.kept hb9); have V3_ := hide (V3.out.kept hb9); have V4_ := hide (V4.out.kept hb9); have V5_ := hide (V5.out.kept hb9); have V6_ := hide (V6.out.kept hb9); have LL_ : Hid (Below N w _) := (show _ from LL.out.trans (hb9.mono GG.out)); have GG_ : Hid (N ≤ _) := (show _ ≤ _ from Nat.le_trans GG.out hb9.size); clear hb9 XX KK TT RR T1 V1 V2 TP TD V3 V4 V5 V6 LL GG; have XX := XX_; have KK := KK_; have TT := TT_; have RR := RR_; have T1 := T1_; have V1 := V1_; have V2 := V2_; have TP := TP_; have TD := TD_; have V3 := V3_; have V4 := V4_; have V5 := V5_; have V6 := V6_; have LL := LL_; have GG := GG_; clear XX_ KK_ TT_ RR_ T1_ V1_ V2_ TP_ TD_ V3_ V4_ V5_ V6_ LL_ GG_)
          | fail)
        go_ret
        exact ⟨rfl, LL.out⟩
      | false =>
        have HLP : Hid (mp.length = ln + 1) := (show _ = _ by rw [HLP0.out, HH2.out, if_neg (by decide), HLN.out])
        have HMDm : Hid (md = m) := (show _ = _ by rw [← HMD.out]; exact dropP_none (fun y hy e => by have := hasP_iff.2 ⟨y, hy, e⟩; rw [HH2.out] at this; cases this))
        have HLD : Hid (md.length = ln) := (show _ = _ by rw [HMDm.out]; exact HLN.out)
        have HRD : Hid (rootP md = rt) := (show _ = _ by rw [HMDm.out]; exact HRT.out)
        have hqr := eqAA rt
        go_wp2_with (first
          | (refine wpList_load_mid rfl 24 _ rfl (E5) 0 rfl (By (v1).1) _ (V5.out.range0) Tryd.underlying24 rfl (Tryd.sizeH (v1)) ?_)
          | (refine wpList_load_mid rfl 24 _ rfl (E1) 0 rfl (By (v1).1) _ (V1.out.range0) Tryd.underlying24 rfl (Tryd.sizeH (v1)) ?_)
          | (refine wpList_load_w9 rfl 24 _ rfl (E6) 0 rfl (By (v1).1) _ (V6.out.range0) Tryd.underlying24 rfl (Tryd.sizeH (v1)) ?_)
          | (refine wpList_load_w9 rfl 24 _ rfl (E1) 0 rfl (By (v1).1) _ (V1.out.range0) Tryd.underlying24 rfl (Tryd.sizeH (v1)) ?_)
          | (go_at_call 17; with_reducible (show Calls _ _ #[PT pp] _ _); refine (tLen_m HLP.out TP.out).mono ?_; rintro e w9 ⟨rfl, hw9⟩; subst w9)
          | (go_at_call 17; with_reducible (show Calls _ _ #[PT pd] _ _); refine (tLen_m HLD.out TD.out).mono ?_; rintro e w9 ⟨rfl, hw9⟩; subst w9)
          | (go_at_call 17; with_reducible (show Calls _ _ #[PT p] _ _); refine (tLen_m HLN.out T1.out).mono ?_; rintro e w9 ⟨rfl, hw9⟩; subst w9)
          | fail)
        refine (tRoot_m HRD.out h2 TD.out TT.out GG.out).mono ?_
        rintro e w9 ⟨rfl, ht9⟩
        have XX_ := hide (ht9.blk XX.out (by decide))
        have KK_ := hide (ht9.blk KK.out (by decide))
        have TT_ := hide (TT.out.tch ht9 h2 GG.out)
        have RR_ := hide (RR.out.tchLow ht9 GG.out HLOW.out)
        have T1_ := hide (T1.out.tch ht9)
        have V1_ := hide (ht9.blk V1.out (by decide))
        have V2_ := hide (ht9.blk V2.out (by decide))
        have TP_ := hide (TP.out.tch ht9)
        have TD_ := hide (TD.out.tch ht9)
        have V3_ := hide (ht9.blk V3.out (by decide))
        have V4_ := hide (ht9.blk V4.out (by decide))
        have V5_ := hide (ht9.blk V5.out (by decide))
        have V6_ := hide (ht9.blk V6.out (by decide))
        have LL_ : Hid (Below N w _) := (show _ from LL.out.trans (ht9.below GG.out))
        have GG_ : Hid (N ≤ _) := (show _ ≤ _ from Nat.le_trans GG.out ht9.size)
        clear ht9 XX KK TT RR T1 V1 V2 TP TD V3 V4 V5 V6 LL GG
        have XX := XX_
        have KK := KK_
        have TT := TT_
        have RR := RR_
        have T1 := T1_
        have V1 := V1_
        have V2 := V2_
        have TP := TP_
        have TD := TD_
        have V3 := V3_
        have V4 := V4_
        have V5 := V5_
        have V6 := V6_
        have LL := LL_
        have GG := GG_
        clear XX_ KK_ TT_ RR_ T1_ V1_ V2_ TP_ TD_ V3_ V4_ V5_ V6_ LL_ GG_
        go_wp2_with fail
        refine (tRoot_m HRT.out h2 T1.out TT.out GG.out).mono ?_
        rintro e w9 ⟨rfl, ht9⟩
        have XX_ := hide (ht9.blk XX.out (by decide))
        have KK_ := hide (ht9.blk KK.out (by decide))
        have TT_ := hide (TT.out.tch ht9 h2 GG.out)
        have RR_ := hide (RR.out.tchLow ht9 GG.out HLOW.out)
        have T1_ := hide (T1.out.tch ht9)
        have V1_ := hide (ht9.blk V1.out (by decide))
        have V2_ := hide (ht9.blk V2.out (by decide))
        have TP_ := hide (TP.out.tch ht9)
        have TD_ := hide (TD.out.tch ht9)
        have V3_ := hide (ht9.blk V3.out (by decide))
        have V4_ := hide (ht9.blk V4.out (by decide))
        have V5_ := hide (ht9.blk V5.out (by decide))
        have V6_ := hide (ht9.blk V6.out (by decide))
        have LL_ : Hid (Below N w _) := (show _ from LL.out.trans (ht9.below GG.out))
        have GG_ : Hid (N ≤ _) := (show _ ≤ _ from Nat.le_trans GG.out ht9.size)
        clear ht9 XX KK TT RR T1 V1 V2 TP TD V3 V4 V5 V6 LL GG
        have XX := XX_
        have KK := KK_
        have TT := TT_
        have RR := RR_
        have T1 := T1_
        have V1 := V1_
        have V2 := V2_
        have TP := TP_
        have TD := TD_
        have V3 := V3_
        have V4 := V4_
        have V5 := V5_
        have V6 := V6_
        have LL := LL_
        have GG := GG_
        clear XX_ KK_ TT_ RR_ T1_ V1_ V2_ TP_ TD_ V3_ V4_ V5_ V6_ LL_ GG_
        go_wp2_with fail
        refine (ulives_any _ TT.out).mono ?_
        rintro e w9 ⟨rfl, hb9⟩
        have XX_ := hide (XX.out.kept hb9)
        have KK_ := hide (KK.out.kept hb9)
        have TT_ := hide (TT.out.gr hb9)
        have RR_ := hide (RR.out.kept hb9)
        have T1_ := hide (T1.out.kept hb9)
        have V1_ := hide (V1.out.kept hb9)
        have V2_ := hide (V2.out.kept hb9)
        have TP_ := hide (TP.out.kept hb9)
        have TD_ := hide (TD.out.kept hb9)
        have V3_ := hide (V3.out.kept hb9)
        have V4_ := hide (V4.out.kept hb9)
        have V5_ := hide (V5.out.kept hb9)
        have V6_ := hide (V6.out.kept hb9)
        have LL_ : Hid (Below N w _) := (show _ from LL.out.trans (hb9.mono GG.out))
        have GG_ : Hid (N ≤ _) := (show _ ≤ _ from Nat.le_trans GG.out hb9.size)
        clear hb9 XX KK TT RR T1 V1 V2 TP TD V3 V4 V5 V6 LL GG
        have XX := XX_
        have KK := KK_
        have TT := TT_
        have RR := RR_
        have T1 := T1_
        have V1 := V1_
        have V2 := V2_
        have TP := TP_
        have TD := TD_
        have V3 := V3_
        have V4 := V4_
        have V5 := V5_
        have V6 := V6_
        have LL := LL_
        have GG := GG_
        clear XX_ KK_ TT_ RR_ T1_ V1_ V2_ TP_ TD_ V3_ V4_ V5_ V6_ LL_ GG_
        go_wp2_with fail
        go_ret
        exact ⟨rfl, LL.out⟩
#print axioms trieGets_any
end Go.Proofs.YtnomlnedincfjaaDoor
