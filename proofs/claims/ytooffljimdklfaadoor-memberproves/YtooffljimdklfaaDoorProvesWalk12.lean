/-
  The law MemberProves: the call returns true.
-/
import Derived.Test.YtooffljimdklfaaDoorLawX12
import Derived.Test.YtooffljimdklfaaDoorG12e
namespace Go.Proofs.YtooffljimdklfaaDoor
open Go.RowKit
theorem eProve_m {B : Nat} {w : World} {v : Value} {m : List It} {pr : Pr} {ln : Nat} {k : Hs} (hpr : prP m k = pr) (hln : pr.1.length = ln) (hr : RdG IE w v m) (hs : Srt m) (hL : m.length ≤ 1000000) (hB : B ≤ w.heap.size) : Calls Tryd.prog 14 #[v, HV k] w fun e w' => ∃ a c, e = .returned (.agg (PrC (.slice a ln c) pr).toArray) ∧ OwnG SE w' B 69 (.slice a ln c) pr.1 ∧ Below w.heap.size w w' := by
  subst hpr
  subst hln
  refine (eProve_any k hr hs hL).mono ?_
  rintro e w' ⟨a, c, rfl, o, hb⟩
  exact ⟨a, c, rfl, o.mono hB, hb⟩
theorem bMany_m {N : Nat} {w : World} {p : Nat} {lv : Value} {m : List It} {l : List Hs} {n : Nat} (hA : TrieAt N w p m) (hL : m.length ≤ 1000000) (hs : Srt m) (hl : RdG HE w lv l) (hn : l.length = n) (hn2 : n ≤ 1000) (hT : Tabs w) (hB : N ≤ w.heap.size) : Calls Tryd.prog 15 #[PT p, lv] w fun e w' => ∃ g Q, e = .returned (.slice (some ⟨g, 0, none⟩) n n) ∧ N ≤ g ∧ Q.map (·.2) = l.map (prP m) ∧ Blk w' g 39 (PE.cs Q) ∧ Own12 w' N Q ∧ Below w.heap.size w w' := by
  subst hn
  refine (bMany_any hA.map hL hs hl hn2 hT).mono ?_
  rintro e w' ⟨g, Q, rfl, h1, h2, h3, h4, h5⟩
  exact ⟨g, Q, rfl, Nat.le_trans hB h1, h2, h3, fun x hx => (h4 x hx).mono hB, h5⟩
set_option maxHeartbeats 8000000 in
set_option maxRecDepth 100000 in
theorem memberProves_any (L : List It) (v : Value) (k : Hs) (L2 : List Hs) (v2 : Value) (w : World) (hT : Tabs w) (hr : RdG IE w v L) (hr2 : RdG HE w v2 L2) : Calls Tryd.prog 3 #[v, HV k, v2] w fun e w' => e = .returned (.bool true) ∧ Below w.heap.size w w' := by
  have HR2 := hide hr2
  obtain ⟨a2, cp2, rfl⟩ := hr2.slice
  have hcap2 := hr2.cap'
  clear hr2
  obtain ⟨n2, HN2L⟩ : ∃ n, Hid (L2.length = n) := ⟨_, rfl⟩
  rw [HN2L.out] at HR2 hcap2 ⊢
  obtain ⟨N, HN⟩ : ∃ N, Hid (w.heap.size = N) := ⟨_, rfl⟩
  have h2 : 2 ≤ N := by rw [← HN.out]; exact hT.size
  have HT := hide hT
  have HR := hide hr
  obtain ⟨a, cp, rfl⟩ := hr.slice
  have HLOW : Hid (∀ b, InB (.slice a L.length cp) b → b < N) := (show _ from fun b hb => by rw [← HN.out]; exact hr.inB_lt hb)
  have hcap := hr.cap'
  clear hT hr
  obtain ⟨n, HNL⟩ : ∃ n, Hid (L.length = n) := ⟨_, rfl⟩
  rw [HNL.out] at HR HLOW hcap ⊢
  rw [HN.out]
  go_enter Tryd.func3, Tryd.ntmps3
  unfold HV
  go_upto_region 1 with fail
  obtain ⟨w1, hw1⟩ : ∃ z, z = w.alloc (.cells (By k.1).toArray 24 (0, 0)) := ⟨_, rfl⟩
  change Code.wp _ _ _ _ (w.alloc (.cells (By k.1).toArray 24 (0, 0)))
  rw [← hw1, HN.out]
  obtain ⟨b0, lb, -⟩ := box1 HN hw1
  have KK := hide b0
  have LL := hide lb
  clear hw1 b0 lb
  have GG : Hid (N ≤ w1.heap.size) := (show _ ≤ _ from Nat.le_of_lt KK.out.lt)
  have TT := hide (HT.out.kept (LL.out.mono h2))
  have RR := hide (HR.out.kept (LL.out.mono (Nat.le_of_eq HN.out)))
  have R2 := hide (HR2.out.kept (LL.out.mono (Nat.le_of_eq HN.out)))
  by_cases hn : 30 < n
  · have q1 : (30 : Int) < (n : Int) := by omega
    go_wp2_with (first
      | (go_at_call 9; refine (ilives_any _ TT.out).mono ?_; rintro e w9 ⟨rfl, hb9⟩; have TT_ := hide (TT.out.gr hb9); have LL_ : Hid (Below N w _) := (show _ from LL.out.trans (hb9.mono GG.out)); have GG_ : Hid (N ≤ _) := (show _ ≤ _ from Nat.le_trans GG.out hb9.size); clear hb9 TT LL GG; have TT := TT_; have LL := LL_; have GG := GG_; clear TT_ LL_ GG_)
      | fail)
    go_ret
    exact ⟨rfl, LL.out⟩
  have q1 : ¬ (30 : Int) < (n : Int) := by omega
  by_cases hn2 : 20 < n2
  · have q2 : (20 : Int) < (n2 : Int) := by omega
    go_wp2_with (first
      | (go_at_call 9; refine (ilives_any _ TT.out).mono ?_; rintro e w9 ⟨rfl, hb9⟩; have TT_ := hide (TT.out.gr hb9); have LL_ : Hid (Below N w _) := (show _ from LL.out.trans (hb9.mono GG.out)); have GG_ : Hid (N ≤ _) := (show _ ≤ _ from Nat.le_trans GG.out hb9.size); clear hb9 TT LL GG; have TT := TT_; have LL := LL_; have GG := GG_; clear TT_ LL_ GG_)
      | fail)
    go_ret
    exact ⟨rfl, LL.out⟩
  have q2 : ¬ (20 : Int) < (n2 : Int) := by omega
  have HN20 : Hid (n2 ≤ 1000) := (show _ ≤ _ by omega)
  have HN40 : Hid (L.length ≤ 1000) := (show _ ≤ _ by rw [HNL.out]; omega)
  have hm1 := putsP_length L
  have hm2 := putsP_srt L
  obtain ⟨m, HMm⟩ : ∃ m, Hid (putsP L = m) := ⟨_, rfl⟩
  rw [HMm.out] at hm1 hm2
  rw [HNL.out] at hm1
  have HML : Hid (m.length ≤ 1000000) := (show _ ≤ _ by omega)
  have HSR := hide hm2
  obtain ⟨ln, HLN⟩ : ∃ z, Hid (m.length = z) := ⟨_, rfl⟩
  have hlb : ln ≤ 30 := by rw [← HLN.out]; omega
  obtain ⟨pr, HPR⟩ : ∃ z, Hid (prP m k = z) := ⟨_, rfl⟩
  obtain ⟨pl, HPLE⟩ : ∃ z, Hid (pr.1.length = z) := ⟨_, rfl⟩
  have HPLB : Hid (pl ≤ 1000000) := (show _ ≤ _ by rw [← HPLE.out]; exact Nat.le_trans (pr_short hm2 HPR.out) HML.out)
  clear hm1 hm2
  go_upto_region 4 with (first
    | (go_at_call 10; refine (imade_m (B0 := N) HMm.out HLN.out RR.out HN40.out GG.out).mono ?_; rintro e w9 ⟨p, pa, lc, rfl, t9, o9, hb9⟩; have KK_ := hide (KK.out.kept hb9); have TT_ := hide (TT.out.gr hb9); have RR_ := hide (RR.out.kept hb9); have R2_ := hide (R2.out.kept hb9); have LL_ : Hid (Below N w _) := (show _ from LL.out.trans (hb9.mono GG.out)); have GG_ : Hid (N ≤ _) := (show _ ≤ _ from Nat.le_trans GG.out hb9.size); clear hb9 KK TT RR R2 LL GG; have KK := KK_; have TT := TT_; have RR := RR_; have R2 := R2_; have LL := LL_; have GG := GG_; clear KK_ TT_ RR_ R2_ LL_ GG_; have T1 := hide t9; have OM := hide o9; clear t9 o9)
    | fail)
  refine wp_region_inv Tryd.mixed (KS (fun i_ => match i_ with | 0 => .val (PT p) | 1 | 5 => .val (HV k) | 2 => .of (fun w v_ => ∃ a_ c_, v_ = .agg (PrC (.slice a_ pl c_) pr).toArray ∧ OwnG SE w N 70 (.slice a_ pl c_) pr.1) (fun _ _ _ hg ⟨a_, c_, e, h⟩ => ⟨a_, c_, e, h.kept hg⟩) | 3 | 6 => .of (fun w v_ => ∃ a_ c_, v_ = .agg (PrC (.slice a_ pl c_) pr).toArray ∧ OwnG SE w N 69 (.slice a_ pl c_) pr.1) (fun _ _ _ hg ⟨a_, c_, e, h⟩ => ⟨a_, c_, e, h.kept hg⟩) | 4 => .val (.slice pa ln lc) | 7 => .val (.bool true) | 8 => .val (.bool false) | _ => .free)) 62 rfl (by decide +kernel) (KS_mono _) ?_ ?_
  · refine AllFrom.cons (fun a' w' hg hk hd => ?_) (AllFrom.cons (fun a' w' hg hk hd => ?_) (AllFrom.cons (fun a' w' hg hk hd => ?_) (AllFrom.cons (fun a' w' hg hk hd => ?_) (AllFrom.cons (fun a' w' hg hk hd => ?_) (AllFrom.cons (fun a' w' hg hk hd => ?_) (AllFrom.cons (fun a' w' hg hk hd => ?_) (AllFrom.cons (fun a' w' hg hk hd => ?_) (AllFrom.cons (fun a' w' hg hk hd => ?_) AllFrom.nil))))))))
    · skip
      intro Q
      have e7 : a'.eval (.tmp 7) = PT p := hk.at 7 (by decide +kernel)
      exact wp_value _ (by simp only [execOp, e7]; rfl) (KS_mkv rfl rfl)
    · skip
      intro Q
      have e4 : a'.eval (.tmp 4) = .pointer (some ⟨N, 0, none⟩) := hk.at 4 (by decide +kernel)
      exact wp_load_row 24 _ rfl _ _ e4 (By (k).1) _ ((KK.out.kept hg).range0) Tryd.underlying24 rfl (Tryd.sizeH _) (KS_mkv rfl rfl)
    · skip
      intro Q
      have e26 : a'.eval (.tmp 26) = PT p := KS_val (hd.val 0 26 (by decide +kernel)) rfl
      have e27 : a'.eval (.tmp 27) = HV k := KS_val (hd.val 1 27 (by decide +kernel)) rfl
      refine wp_call 13 _ (run_enter 13 _ _ rfl (by kernel_rfl)) ?_
      simp only [List.map_toArray, List.map_nil, List.map_cons, e26, e27]
      refine (bProve_m (B := N) HPR.out HPLE.out (T1.out.kept hg) HML.out (TT.out.gr hg) (Nat.le_trans GG.out hg.size)).mono ?_
      rintro e w5 ⟨a5, c5, rfl, o5, hb5⟩
      exact ⟨_, rfl, KS_mko rfl ⟨a5, c5, rfl, o5⟩, hb5⟩
    · skip
      intro Q
      have r28 := KS_of (hd.val 2 28 (by decide +kernel)) rfl
      refine wp_call 12 _ (run_enter 12 _ _ rfl (by kernel_rfl)) ?_
      simp only [List.map_toArray, List.map_nil, List.map_cons]
      obtain ⟨x1, y1, f1, g1⟩ := r28
      rw [f1]
      refine (plain_m (B := N) HPLE.out g1.rd HPLB.out (Nat.le_trans GG.out hg.size)).mono ?_
      rintro e w5 ⟨a5, c5, rfl, o5, hb5⟩
      exact ⟨_, rfl, KS_mko rfl ⟨a5, c5, rfl, o5⟩, hb5⟩
    · skip
      intro Q
      have e8 : a'.eval (.tmp 8) = .slice pa ln lc := hk.at 8 (by decide +kernel)
      exact wp_value _ (by simp only [execOp, e8]; rfl) (KS_mkv rfl rfl)
    · skip
      intro Q
      have e4 : a'.eval (.tmp 4) = .pointer (some ⟨N, 0, none⟩) := hk.at 4 (by decide +kernel)
      exact wp_load_row 24 _ rfl _ _ e4 (By (k).1) _ ((KK.out.kept hg).range0) Tryd.underlying24 rfl (Tryd.sizeH _) (KS_mkv rfl rfl)
    · skip
      intro Q
      have e30 : a'.eval (.tmp 30) = .slice pa ln lc := KS_val (hd.val 4 30 (by decide +kernel)) rfl
      have e31 : a'.eval (.tmp 31) = HV k := KS_val (hd.val 5 31 (by decide +kernel)) rfl
      refine wp_call 14 _ (run_enter 14 _ _ rfl (by kernel_rfl)) ?_
      simp only [List.map_toArray, List.map_nil, List.map_cons, e30, e31]
      refine (eProve_m (B := N) HPR.out HPLE.out (OM.out.kept hg).rd HSR.out HML.out (Nat.le_trans GG.out hg.size)).mono ?_
      rintro e w5 ⟨a5, c5, rfl, o5, hb5⟩
      exact ⟨_, rfl, KS_mko rfl ⟨a5, c5, rfl, o5⟩, hb5⟩
    · skip
      intro Q
      have r29 := KS_of (hd.val 3 29 (by decide +kernel)) rfl
      have r32 := KS_of (hd.val 6 32 (by decide +kernel)) rfl
      refine wp_call 11 _ (run_enter 11 _ _ rfl (by kernel_rfl)) ?_
      simp only [List.map_toArray, List.map_nil, List.map_cons]
      obtain ⟨x1, y1, f1, g1⟩ := r29
      obtain ⟨x2, y2, f2, g2⟩ := r32
      rw [f1, f2]
      refine (esame_any g1.rd g2.rd).mono ?_
      rintro e w5 ⟨rfl, hb5⟩
      exact ⟨_, rfl, KS_mkv rfl rfl, hb5⟩
    · skip
      intro Q
      have e33 : a'.eval (.tmp 33) = .bool true := KS_val (hd.val 7 33 (by decide +kernel)) rfl
      clear hd hk
      exact wp_value (.bool false) (by simp only [execOp, e33]; go_simp) (KS_mkv rfl rfl)
  · intro a' w6 hsz hdf hk hall hg
    have e26 : a'.eval (.tmp 26) = PT p := KS_val (hall 0 _ 26 rfl rfl) rfl
    have e27 : a'.eval (.tmp 27) = HV k := KS_val (hall 1 _ 27 rfl rfl) rfl
    have r28 : (fun w v_ => ∃ a_ c_, v_ = .agg (PrC (.slice a_ pl c_) pr).toArray ∧ OwnG SE w N 70 (.slice a_ pl c_) pr.1) w6 (a'.eval (.tmp 28)) := KS_of (hall 2 _ 28 rfl rfl) rfl
    obtain ⟨x28, hx28⟩ : ∃ v, a'.eval (.tmp 28) = v := ⟨_, rfl⟩
    rw [hx28] at r28
    have r29 : (fun w v_ => ∃ a_ c_, v_ = .agg (PrC (.slice a_ pl c_) pr).toArray ∧ OwnG SE w N 69 (.slice a_ pl c_) pr.1) w6 (a'.eval (.tmp 29)) := KS_of (hall 3 _ 29 rfl rfl) rfl
    obtain ⟨x29, hx29⟩ : ∃ v, a'.eval (.tmp 29) = v := ⟨_, rfl⟩
    rw [hx29] at r29
    have e30 : a'.eval (.tmp 30) = .slice pa ln lc := KS_val (hall 4 _ 30 rfl rfl) rfl
    have e31 : a'.eval (.tmp 31) = HV k := KS_val (hall 5 _ 31 rfl rfl) rfl
    have r32 : (fun w v_ => ∃ a_ c_, v_ = .agg (PrC (.slice a_ pl c_) pr).toArray ∧ OwnG SE w N 69 (.slice a_ pl c_) pr.1) w6 (a'.eval (.tmp 32)) := KS_of (hall 6 _ 32 rfl rfl) rfl
    obtain ⟨x32, hx32⟩ : ∃ v, a'.eval (.tmp 32) = v := ⟨_, rfl⟩
    rw [hx32] at r32
    have e33 : a'.eval (.tmp 33) = .bool true := KS_val (hall 7 _ 33 rfl rfl) rfl
    have e34 : a'.eval (.tmp 34) = .bool false := KS_val (hall 8 _ 34 rfl rfl) rfl
    have ha := act_puts 62 rfl hsz hdf hk [26, 27, 28, 29, 30, 31, 32, 33, 34] (by decide +kernel)
    simp only [puts, List.foldl_cons, List.foldl_nil, e26, e27, hx28, hx29, e30, e31, hx32, e33, e34] at ha
    simp only [Act.put, List.setIfInBounds_toArray, List.set_cons_succ, List.set_cons_zero] at ha
    clear hall hk hsz hdf e26 e27 hx28 hx29 e30 e31 hx32 e33 e34
    subst ha
    clear r28 r29 r32
    have KK_ := hide (KK.out.kept hg)
    have TT_ := hide (TT.out.gr hg)
    have RR_ := hide (RR.out.kept hg)
    have R2_ := hide (R2.out.kept hg)
    have T1_ := hide (T1.out.kept hg)
    have OM_ := hide (OM.out.kept hg)
    have LL_ : Hid (Below N w _) := (show _ from LL.out.trans (hg.mono GG.out))
    have GG_ : Hid (N ≤ _) := (show _ ≤ _ from Nat.le_trans GG.out hg.size)
    clear hg KK TT RR R2 T1 OM LL GG
    have KK := KK_
    have TT := TT_
    have RR := RR_
    have R2 := R2_
    have T1 := T1_
    have OM := OM_
    have LL := LL_
    have GG := GG_
    clear KK_ TT_ RR_ R2_ T1_ OM_ LL_ GG_
    go_wp2_with (first
      | (go_at_call 15; refine (bMany_m (N := N) T1.out HML.out HSR.out R2.out HN2L.out HN20.out TT.out GG.out).mono ?_; rintro e w9 ⟨g, Q, rfl, hg9, mq9, bq9, oq9, hb9⟩; have KK_ := hide (KK.out.kept hb9); have TT_ := hide (TT.out.gr hb9); have R2_ := hide (R2.out.kept hb9); have T1_ := hide (T1.out.kept hb9); have OM_ := hide (OM.out.kept hb9); have LL_ : Hid (Below N w _) := (show _ from LL.out.trans (hb9.mono GG.out)); have GG_ : Hid (N ≤ _) := (show _ ≤ _ from Nat.le_trans GG.out hb9.size); clear hb9 KK TT R2 T1 OM LL GG; have KK := KK_; have TT := TT_; have R2 := R2_; have T1 := T1_; have OM := OM_; have LL := LL_; have GG := GG_; clear KK_ TT_ R2_ T1_ OM_ LL_ GG_; have MQ := hide mq9; have BQ := hide bq9; have OQ := hide oq9; clear mq9 bq9 oq9 hg9)
      | fail)
    go_loopg [45] (n2 + 1) (fun g_ z wr => ∃ (i : Nat), i ≤ n2 ∧ g_ + i = n2 + 1 ∧ z = .int .i64 (i : Int) ∧ Hid (Blk wr N 24 (By k.1)) ∧ Hid (Tabs wr) ∧ Hid (RdG HE wr (.slice a2 n2 cp2) L2) ∧ Hid (TrieAt N wr p m) ∧ Hid (OwnG IE wr N 77 (.slice pa ln lc) m) ∧ Hid (Blk wr g 39 (PE.cs Q)) ∧ Hid (Own12 wr N Q) ∧ Hid (Below N w wr) ∧ Hid (N ≤ wr.heap.size))
    case atStart => exact ⟨0, by omega, by omega, rfl, KK, TT, R2, T1, OM, BQ, OQ, LL, GG⟩
    case round =>
      clear KK TT R2 T1 OM BQ OQ LL GG
      obtain ⟨i, hi, hgi, rfl, KK, TT, R2, T1, OM, BQ, OQ, LL, GG⟩ := hrel
      by_cases hlt : i < n2
      · have hlt2 : i < L2.length := by rw [HN2L.out]; exact hlt
        obtain ⟨ba, oa, hsl, hba, hxa⟩ := R2.out.nth (by omega)
        have hxy0 : wr.rangeAt ba (oa + i * 32) (By L2[i].1) := hxa i hlt2
        have hQl : Q.length = n2 := by
          have := congrArg List.length MQ.out
          rwa [List.length_map, List.length_map, HN2L.out] at this
        have hlq : i < Q.length := by rw [hQl]; exact hlt
        have hqi : Q[i].2 = prP m L2[i] := by
          have h9 : (Q.map (·.2))[i]? = (L2.map (prP m))[i]? := by rw [MQ.out]
          rw [List.getElem?_map, List.getElem?_map, List.getElem?_eq_getElem hlq, List.getElem?_eq_getElem hlt2] at h9
          simpa using h9
        have hxr0 : wr.rangeAt g (i * 66) (PE.c Q[i]) := BQ.out.range (i * 66) _ fun j u hj => Enc.cs_get (E := PE) hlq hj
        have hox := OQ.out Q[i] (List.getElem_mem hlq)
        generalize L2[i] = y at hxy0 hqi
        generalize Q[i] = x at hqi hxr0 hox
        obtain ⟨⟨ax, cx⟩, br⟩ := x
        simp only at hqi
        have HBR : Hid (prP m y = br) := hqi.symm
        obtain ⟨bl, HBL⟩ : ∃ z, Hid (br.1.length = z) := ⟨_, rfl⟩
        have HBLB : Hid (bl ≤ 1000000) := (show _ ≤ _ by rw [← HBL.out]; exact Nat.le_trans (pr_short HSR.out HBR.out) HML.out)
        have hxr : wr.rangeAt g (i * 66) (PrC (.slice ax bl cx) br) := by rw [← HBL.out]; exact hxr0
        have OX : Hid (OwnG SE wr N 70 (.slice ax bl cx) br.1) := (show OwnG _ _ _ _ _ _ by rw [← HBL.out]; exact hox)
        subst hsl
        clear hxa hlt2 hqi hxr0 hox hlq hQl
        have q3 : (i : Int) < (n2 : Int) := by omega
        have q4 : ¬ n2 ≤ i := by omega
        have hsw := hba
        obtain ⟨M, HM⟩ : ∃ M, Hid (wr.heap.size = M) := ⟨_, rfl⟩
        have HXY : Hid (∀ W, Below wr.heap.size wr W → W.rangeAt ba (oa + i * 32) (By y.1) ∧ ba < W.heap.size) := (show _ from fun W hW => ⟨rangeAt_kept11 hxy0 hba hW, Nat.lt_of_lt_of_le hba hW.size⟩)
        clear hxy0 hsw hba
        go_upto_region 12 with (first
          | (refine wpList_load_mid rfl 39 _ rfl g (i * 66) rfl (PrC (.slice ax bl cx) br) _ hxr Tryd.underlying39 rfl (Tryd.sizePr _ _) ?_)
          | (rw [HM.out]; refine wpList_store_blk rfl 39 _ _ rfl M (PrC (.slice none 0 0) zp) (PrC (.slice ax bl cx) br) 39 rfl rfl (by rw [← HM.out]; exact Blk.new wr 39 (PrC (.slice none 0 0) zp)) (by rw [PrC_len, PrC_len]) (Tryd.sizePr _ _) (PrC_one _) ?_; intro w9 hbk9 hu9; have hb9 := roomP_below HM.out hu9; obtain ⟨hxy, hba9⟩ := HXY.out _ hb9; have OX_ := hide (OX.out.kept hb9); have KK_ := hide (KK.out.kept hb9); have TT_ := hide (TT.out.gr hb9); have R2_ := hide (R2.out.kept hb9); have T1_ := hide (T1.out.kept hb9); have OM_ := hide (OM.out.kept hb9); have BQ_ := hide (BQ.out.kept hb9); have OQ_ := hide (OQ.out.kept hb9); have LL_ : Hid (Below N w _) := (show _ from LL.out.trans (hb9.mono GG.out)); have GG_ : Hid (N ≤ _) := (show _ ≤ _ from Nat.le_trans GG.out hb9.size); clear hb9 KK TT R2 T1 OM BQ OQ LL GG; have KK := KK_; have TT := TT_; have R2 := R2_; have T1 := T1_; have OM := OM_; have BQ := BQ_; have OQ := OQ_; have LL := LL_; have GG := GG_; clear KK_ TT_ R2_ T1_ OM_ BQ_ OQ_ LL_ GG_; have MX := hide hbk9; clear hbk9 hu9 HM OX; have OX := OX_; clear OX_)
          | fail)
        refine wp_region_inv Tryd.mixed (KS (fun i_ => match i_ with | 0 => .val (.agg (PrC (.slice ax bl cx) br).toArray) | 1 | 7 => .of (fun w v_ => ∃ a_ c_, v_ = .agg (PrC (.slice a_ bl c_) br).toArray ∧ OwnG SE w N 69 (.slice a_ bl c_) br.1) (fun _ _ _ hg ⟨a_, c_, e, h⟩ => ⟨a_, c_, e, h.kept hg⟩) | 2 => .val (.slice pa ln lc) | 3 => .val (.slice (some ⟨ba, oa, none⟩) n2 cp2) | 4 => .val (.int .i64 (i : Int)) | 5 => .val (.pointer (some ⟨ba, oa + i * 32, none⟩)) | 6 => .val (HV y) | 8 => .val (.bool true) | 9 => .val (.bool false) | _ => .free)) 62 rfl (by decide +kernel) (KS_mono _) ?_ ?_
        · refine AllFrom.cons (fun a' w' hg hk hd => ?_) (AllFrom.cons (fun a' w' hg hk hd => ?_) (AllFrom.cons (fun a' w' hg hk hd => ?_) (AllFrom.cons (fun a' w' hg hk hd => ?_) (AllFrom.cons (fun a' w' hg hk hd => ?_) (AllFrom.cons (fun a' w' hg hk hd => ?_) (AllFrom.cons (fun a' w' hg hk hd => ?_) (AllFrom.cons (fun a' w' hg hk hd => ?_) (AllFrom.cons (fun a' w' hg hk hd => ?_) (AllFrom.cons (fun a' w' hg hk hd => ?_) AllFrom.nil)))))))))
          · skip
            intro Q
            have e11 : a'.eval (.tmp 11) = .pointer (some ⟨M, 0, none⟩) := hk.at 11 (by decide +kernel)
            exact wp_load_row 39 _ rfl _ _ e11 (PrC (.slice ax bl cx) br) _ ((MX.out.kept hg).range0) Tryd.underlying39 rfl (Tryd.sizePr _ _) (KS_mkv rfl rfl)
          · skip
            intro Q
            have e50 : a'.eval (.tmp 50) = .agg (PrC (.slice ax bl cx) br).toArray := KS_val (hd.val 0 50 (by decide +kernel)) rfl
            refine wp_call 12 _ (run_enter 12 _ _ rfl (by kernel_rfl)) ?_
            simp only [List.map_toArray, List.map_nil, List.map_cons, e50]
            refine (plain_m (B := N) HBL.out (OX.out.kept hg).rd HBLB.out (Nat.le_trans GG.out hg.size)).mono ?_
            rintro e w5 ⟨a5, c5, rfl, o5, hb5⟩
            exact ⟨_, rfl, KS_mko rfl ⟨a5, c5, rfl, o5⟩, hb5⟩
          · skip
            intro Q
            have e8 : a'.eval (.tmp 8) = .slice pa ln lc := hk.at 8 (by decide +kernel)
            exact wp_value _ (by simp only [execOp, e8]; rfl) (KS_mkv rfl rfl)
          · skip
            intro Q
            have e2 : a'.eval (.tmp 2) = .slice (some ⟨ba, oa, none⟩) n2 cp2 := hk.at 2 (by decide +kernel)
            exact wp_value _ (by simp only [execOp, e2]; rfl) (KS_mkv rfl rfl)
          · skip
            intro Q
            have e10 : a'.eval (.tmp 10) = .int .i64 (i : Int) := hk.at 10 (by decide +kernel)
            exact wp_value _ (by simp only [execOp, e10]; rfl) (KS_mkv rfl rfl)
          · skip
            intro Q
            have e53 : a'.eval (.tmp 53) = .slice (some ⟨ba, oa, none⟩) n2 cp2 := KS_val (hd.val 3 53 (by decide +kernel)) rfl
            have e54 : a'.eval (.tmp 54) = .int .i64 (i : Int) := KS_val (hd.val 4 54 (by decide +kernel)) rfl
            clear hd hk
            exact wp_value (.pointer (some ⟨ba, oa + i * 32, none⟩)) (by simp only [execOp, e53, e54]; go_simp) (KS_mkv rfl rfl)
          · skip
            intro Q
            have e55 : a'.eval (.tmp 55) = .pointer (some ⟨ba, oa + i * 32, none⟩) := KS_val (hd.val 5 55 (by decide +kernel)) rfl
            exact wp_load_row 24 _ rfl _ _ e55 (By (y).1) _ (rangeAt_kept11 hxy hba9 hg) Tryd.underlying24 rfl (Tryd.sizeH _) (KS_mkv rfl rfl)
          · skip
            intro Q
            have e52 : a'.eval (.tmp 52) = .slice pa ln lc := KS_val (hd.val 2 52 (by decide +kernel)) rfl
            have e56 : a'.eval (.tmp 56) = HV y := KS_val (hd.val 6 56 (by decide +kernel)) rfl
            refine wp_call 14 _ (run_enter 14 _ _ rfl (by kernel_rfl)) ?_
            simp only [List.map_toArray, List.map_nil, List.map_cons, e52, e56]
            refine (eProve_m (B := N) HBR.out HBL.out (OM.out.kept hg).rd HSR.out HML.out (Nat.le_trans GG.out hg.size)).mono ?_
            rintro e w5 ⟨a5, c5, rfl, o5, hb5⟩
            exact ⟨_, rfl, KS_mko rfl ⟨a5, c5, rfl, o5⟩, hb5⟩
          · skip
            intro Q
            have r51 := KS_of (hd.val 1 51 (by decide +kernel)) rfl
            have r57 := KS_of (hd.val 7 57 (by decide +kernel)) rfl
            refine wp_call 11 _ (run_enter 11 _ _ rfl (by kernel_rfl)) ?_
            simp only [List.map_toArray, List.map_nil, List.map_cons]
            obtain ⟨x1, y1, f1, g1⟩ := r51
            obtain ⟨x2, y2, f2, g2⟩ := r57
            rw [f1, f2]
            refine (esame_any g1.rd g2.rd).mono ?_
            rintro e w5 ⟨rfl, hb5⟩
            exact ⟨_, rfl, KS_mkv rfl rfl, hb5⟩
          · skip
            intro Q
            have e58 : a'.eval (.tmp 58) = .bool true := KS_val (hd.val 8 58 (by decide +kernel)) rfl
            clear hd hk
            exact wp_value (.bool false) (by simp only [execOp, e58]; go_simp) (KS_mkv rfl rfl)
        · intro a' w6 hsz hdf hk hall hg
          have e50 : a'.eval (.tmp 50) = .agg (PrC (.slice ax bl cx) br).toArray := KS_val (hall 0 _ 50 rfl rfl) rfl
          have r51 : (fun w v_ => ∃ a_ c_, v_ = .agg (PrC (.slice a_ bl c_) br).toArray ∧ OwnG SE w N 69 (.slice a_ bl c_) br.1) w6 (a'.eval (.tmp 51)) := KS_of (hall 1 _ 51 rfl rfl) rfl
          obtain ⟨x51, hx51⟩ : ∃ v, a'.eval (.tmp 51) = v := ⟨_, rfl⟩
          rw [hx51] at r51
          have e52 : a'.eval (.tmp 52) = .slice pa ln lc := KS_val (hall 2 _ 52 rfl rfl) rfl
          have e53 : a'.eval (.tmp 53) = .slice (some ⟨ba, oa, none⟩) n2 cp2 := KS_val (hall 3 _ 53 rfl rfl) rfl
          have e54 : a'.eval (.tmp 54) = .int .i64 (i : Int) := KS_val (hall 4 _ 54 rfl rfl) rfl
          have e55 : a'.eval (.tmp 55) = .pointer (some ⟨ba, oa + i * 32, none⟩) := KS_val (hall 5 _ 55 rfl rfl) rfl
          have e56 : a'.eval (.tmp 56) = HV y := KS_val (hall 6 _ 56 rfl rfl) rfl
          have r57 : (fun w v_ => ∃ a_ c_, v_ = .agg (PrC (.slice a_ bl c_) br).toArray ∧ OwnG SE w N 69 (.slice a_ bl c_) br.1) w6 (a'.eval (.tmp 57)) := KS_of (hall 7 _ 57 rfl rfl) rfl
          obtain ⟨x57, hx57⟩ : ∃ v, a'.eval (.tmp 57) = v := ⟨_, rfl⟩
          rw [hx57] at r57
          have e58 : a'.eval (.tmp 58) = .bool true := KS_val (hall 8 _ 58 rfl rfl) rfl
          have e59 : a'.eval (.tmp 59) = .bool false := KS_val (hall 9 _ 59 rfl rfl) rfl
          have ha := act_puts 62 rfl hsz hdf hk [50, 51, 52, 53, 54, 55, 56, 57, 58, 59] (by decide +kernel)
          simp only [puts, List.foldl_cons, List.foldl_nil, e50, hx51, e52, e53, e54, e55, e56, hx57, e58, e59] at ha
          simp only [Act.put, List.setIfInBounds_toArray, List.set_cons_succ, List.set_cons_zero] at ha
          clear hall hk hsz hdf e50 hx51 e52 e53 e54 e55 e56 hx57 e58 e59
          subst ha
          clear r51 r57
          have KK_ := hide (KK.out.kept hg)
          have TT_ := hide (TT.out.gr hg)
          have R2_ := hide (R2.out.kept hg)
          have T1_ := hide (T1.out.kept hg)
          have OM_ := hide (OM.out.kept hg)
          have BQ_ := hide (BQ.out.kept hg)
          have OQ_ := hide (OQ.out.kept hg)
          have MX_ := hide (MX.out.kept hg)
          have OX_ := hide (OX.out.kept hg)
          have LL_ : Hid (Below N w _) := (show _ from LL.out.trans (hg.mono GG.out))
          have GG_ : Hid (N ≤ _) := (show _ ≤ _ from Nat.le_trans GG.out hg.size)
          clear hg KK TT R2 T1 OM BQ OQ MX OX LL GG
          have KK := KK_
          have TT := TT_
          have R2 := R2_
          have T1 := T1_
          have OM := OM_
          have BQ := BQ_
          have OQ := OQ_
          have MX := MX_
          have OX := OX_
          have LL := LL_
          have GG := GG_
          clear KK_ TT_ R2_ T1_ OM_ BQ_ OQ_ MX_ OX_ LL_ GG_
          go_wp2_with fail
          go_roundg (n2 + 1 - (i + 1))
          case measure => omega
          case rel => exact ⟨i + 1, by omega, by omega, by go_num, KK, TT, R2, T1, OM, BQ, OQ, LL, GG⟩
      · obtain rfl : i = n2 := by omega
        have q3 : ¬ (i : Int) < (i : Int) := by omega
        go_wp2_with (first
          | (go_at_call 9; refine (ilives_any _ TT.out).mono ?_; rintro e w9 ⟨rfl, hb9⟩; have TT_ := hide (TT.out.gr hb9); have LL_ : Hid (Below N w _) := (show _ from LL.out.trans (hb9.mono GG.out)); have GG_ : Hid (N ≤ _) := (show _ ≤ _ from Nat.le_trans GG.out hb9.size); clear hb9 TT LL GG; have TT := TT_; have LL := LL_; have GG := GG_; clear TT_ LL_ GG_)
          | fail)
        go_ret
        exact ⟨rfl, LL.out⟩
#print axioms memberProves_any
end Go.Proofs.YtooffljimdklfaaDoor
