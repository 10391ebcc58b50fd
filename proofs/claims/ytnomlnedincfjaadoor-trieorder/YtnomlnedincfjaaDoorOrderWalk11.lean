/-
  The law TrieOrder: the call returns true.
-/
import Derived.Test.YtnomlnedincfjaaDoorLawX11
namespace Go.Proofs.YtnomlnedincfjaaDoor
open Go.RowKit
/-- What is put between, and put right again. -/
def mixP (m : List It) (l : List (Hs × Hs × Bool)) : List It := l.foldl (fun o a => putP o a.1 a.2.1) m
def fixS (m : List It) (o : List It) (a : Hs × Hs × Bool) : List It := if hasP m a.1 then putP o a.1 (valP m a.1) else dropP o a.1
def fixP (m : List It) (o : List It) (l : List (Hs × Hs × Bool)) : List It := l.foldl (fixS m) o
theorem mixP_spec (l : List (Hs × Hs × Bool)) : ∀ {m : List It}, Srt m → Srt (mixP m l) ∧ (mixP m l).length ≤ m.length + l.length ∧ ∀ q, (∀ a ∈ l, a.1 ≠ q) → getP (mixP m l) q = getP m q := by
  induction l with
  | nil => intro m h; exact ⟨h, by simp [mixP], fun q _ => rfl⟩
  | cons a l ih =>
    intro m h
    obtain ⟨h1, h2, h3⟩ := ih (h.put a.1 a.2.1)
    refine ⟨h1, ?_, fun q hq => ?_⟩
    · have h4 := putP_length h a.1 a.2.1
      have h5 : (mixP m (a :: l)).length = (mixP (putP m a.1 a.2.1) l).length := rfl
      rw [h5, List.length_cons]
      split at h4 <;> omega
    · have h5 : mixP m (a :: l) = mixP (putP m a.1 a.2.1) l := rfl
      rw [h5, h3 q (fun b hb => hq b (by simp [hb])), getP_put, if_neg (fun e => hq a (by simp) e.symm)]
theorem fixS_get (m o : List It) (a : Hs × Hs × Bool) (q : Hs) : getP (fixS m o a) q = if q = a.1 then getP m q else getP o q := by
  unfold fixS hasP valP
  cases h : getP m a.1 with
  | some v =>
    simp only [Option.isSome_some, if_true, Option.getD_some]
    rw [getP_put]
    by_cases hq : q = a.1
    · subst hq; simp [h]
    · simp [hq]
  | none =>
    simp only [Option.isSome_none, Bool.false_eq_true, if_false]
    rw [getP_drop]
    by_cases hq : q = a.1
    · subst hq; simp [h]
    · simp [hq]
theorem fixS_srt {m o : List It} (h : Srt o) (a : Hs × Hs × Bool) : Srt (fixS m o a) ∧ (fixS m o a).length ≤ o.length + 1 := by
  unfold fixS
  split
  · exact ⟨h.put _ _, by rw [putP_length h]; split <;> omega⟩
  · exact ⟨h.drop _, by have := dropP_length h a.1; omega⟩
theorem fixP_spec (m : List It) (l : List (Hs × Hs × Bool)) : ∀ {o : List It}, Srt o → Srt (fixP m o l) ∧ (fixP m o l).length ≤ o.length + l.length ∧ ∀ q, getP (fixP m o l) q = getP m q ∨ ((∀ a ∈ l, a.1 ≠ q) ∧ getP (fixP m o l) q = getP o q) := by
  induction l with
  | nil => intro o h; exact ⟨h, by simp [fixP], fun q => .inr ⟨by simp, rfl⟩⟩
  | cons a l ih =>
    intro o h
    obtain ⟨h1, h2, h3⟩ := ih (fixS_srt (m := m) h a).1
    have h5 : fixP m o (a :: l) = fixP m (fixS m o a) l := rfl
    rw [h5]
    refine ⟨h1, ?_, fun q => ?_⟩
    · have := (fixS_srt (m := m) h a).2
      rw [List.length_cons]
      omega
    · rcases h3 q with h6 | ⟨h6, h7⟩
      · exact .inl h6
      · rw [h7, fixS_get]
        by_cases hq : q = a.1
        · rw [if_pos hq]; exact .inl rfl
        · rw [if_neg hq]
          refine .inr ⟨fun b hb => ?_, rfl⟩
          rcases List.mem_cons.1 hb with rfl | hb
          · exact fun e => hq e.symm
          · exact h6 b hb
theorem fix_mix {m : List It} (h : Srt m) (l : List (Hs × Hs × Bool)) : fixP m (mixP m l) l = m := by
  obtain ⟨a1, _, a3⟩ := mixP_spec l h
  obtain ⟨b1, _, b3⟩ := fixP_spec m l a1
  refine b1.ext h (fun q => ?_)
  rcases b3 q with h6 | ⟨h6, h7⟩
  · exact h6
  · rw [h7, a3 q h6]
theorem drop_put {m : List It} (h : Srt m) {j : Nat} (hj : j < m.length) : putP (m.drop (j + 1)) m[j].1 m[j].2 = m.drop j := by
  have e := List.drop_eq_getElem_cons hj
  have hs : Srt (m.drop j) := h.sub (List.drop_sublist _ _)
  rw [e] at hs
  rw [putP_first hs.head, e]
set_option maxHeartbeats 8000000 in
set_option maxRecDepth 100000 in
theorem trieOrder_any (L L2 : List (Hs × Hs × Bool)) (v v2 : Value) (w : World) (hT : Tabs w) (hr : RdG AE w v L) (hr2 : RdG AE w v2 L2) : Calls Tryd.prog 5 #[v, v2] w fun e w' => e = .returned (.bool true) ∧ Below w.heap.size w w' := by
  obtain ⟨N, HN⟩ : ∃ N, Hid (w.heap.size = N) := ⟨_, rfl⟩
  have h2 : 2 ≤ N := by rw [← HN.out]; exact hT.size
  have HT := hide hT
  have HR := hide hr
  obtain ⟨a, cp, rfl⟩ := hr.slice
  have HLOW : Hid (∀ b, InB (.slice a L.length cp) b → b < N) := (show _ from fun b hb => by rw [← HN.out]; exact hr.inB_lt hb)
  have hcap := hr.cap'
  clear hT hr
  obtain ⟨n, HNL⟩ : ∃ n, Hid (L.length = n) := ⟨_, rfl⟩
  rw [HNL.out] at HR HLOW hcap ⊢
  rw [HN.out]
  obtain ⟨a2, cp2, rfl⟩ := hr2.slice
  have HR2 := hide hr2
  have HLOW2 : Hid (∀ b, InB (.slice a2 L2.length cp2) b → b < N) := (show _ from fun b hb => by rw [← HN.out]; exact hr2.inB_lt hb)
  have hcap2 := hr2.cap'
  clear hr2
  obtain ⟨n2, HNL2⟩ : ∃ n, Hid (L2.length = n) := ⟨_, rfl⟩
  rw [HNL2.out] at HR2 HLOW2 hcap2 ⊢
  have TT := HT
  have RR := HR
  have R2 := HR2
  have LL : Hid (Below N w w) := Below.refl _ _
  have GG : Hid (N ≤ w.heap.size) := (show _ ≤ _ from Nat.le_of_eq HN.out.symm)
  clear HT HR HR2
  go_enter Tryd.func5, Tryd.ntmps5
  by_cases hn : 30 < n
  · have q1 : (30 : Int) < (n : Int) := by omega
    go_wp2_with (first
      | (go_at_call 9; refine (ulives_any _ TT.out).mono ?_; rintro e w9 ⟨rfl, hb9⟩; have TT_ := hide (TT.out.gr hb9); have LL_ : Hid (Below N w _) := (show _ from LL.out.trans (hb9.mono GG.out)); have GG_ : Hid (N ≤ _) := (show _ ≤ _ from Nat.le_trans GG.out hb9.size); clear hb9 TT LL GG; have TT := TT_; have LL := LL_; have GG := GG_; clear TT_ LL_ GG_)
      | fail)
    go_ret
    exact ⟨rfl, LL.out⟩
  have q1 : ¬ (30 : Int) < (n : Int) := by omega
  by_cases hn2 : 20 < n2
  · have q1' : (20 : Int) < (n2 : Int) := by omega
    go_wp2_with (first
      | (go_at_call 9; refine (ulives_any _ TT.out).mono ?_; rintro e w9 ⟨rfl, hb9⟩; have TT_ := hide (TT.out.gr hb9); have LL_ : Hid (Below N w _) := (show _ from LL.out.trans (hb9.mono GG.out)); have GG_ : Hid (N ≤ _) := (show _ ≤ _ from Nat.le_trans GG.out hb9.size); clear hb9 TT LL GG; have TT := TT_; have LL := LL_; have GG := GG_; clear TT_ LL_ GG_)
      | fail)
    go_ret
    exact ⟨rfl, LL.out⟩
  have q1' : ¬ (20 : Int) < (n2 : Int) := by omega
  have HN40 : Hid (L.length ≤ 1000) := (show _ ≤ _ by rw [HNL.out]; omega)
  have hm1 := madeP_length L
  have hm2 := madeP_srt L
  obtain ⟨m, HMm⟩ : ∃ m, Hid (madeP L = m) := ⟨_, rfl⟩
  rw [HMm.out] at hm1 hm2
  rw [HNL.out] at hm1
  have HSR := hide hm2
  have HML : Hid (m.length ≤ 1000000) := (show _ ≤ _ by omega)
  have HM30 : Hid (m.length ≤ 30) := (show _ ≤ _ by omega)
  obtain ⟨ln, HLN⟩ : ∃ z, Hid (m.length = z) := ⟨_, rfl⟩
  obtain ⟨rt, HRT⟩ : ∃ z, Hid (rootP m = z) := ⟨_, rfl⟩
  have hln : ln ≤ 30 := by rw [← HLN.out]; exact HM30.out
  clear hm1 hm2
  go_upto_region 4 with (first
    | (go_at_call 10; refine (umade_m (B0 := N) HMm.out HLN.out RR.out HN40.out GG.out).mono ?_; rintro e w9 ⟨p, pa, lc, rfl, t9, o9, hb9⟩; have R2_ := hide (R2.out.kept hb9); have TT_ := hide (TT.out.gr hb9); have RR_ := hide (RR.out.kept hb9); have LL_ : Hid (Below N w _) := (show _ from LL.out.trans (hb9.mono GG.out)); have GG_ : Hid (N ≤ _) := (show _ ≤ _ from Nat.le_trans GG.out hb9.size); clear hb9 TT RR R2 LL GG; have TT := TT_; have RR := RR_; have R2 := R2_; have LL := LL_; have GG := GG_; clear TT_ RR_ R2_ LL_ GG_; have T1 := hide t9; clear t9 o9)
    | fail)
  go_upto_region 5 with (first
    | (go_at_call 15; refine (tRoot_m HRT.out h2 T1.out TT.out GG.out).mono ?_; rintro e w9 ⟨rfl, ht9⟩; have R2_ := hide (R2.out.tchLow ht9 GG.out HLOW2.out); have TT_ := hide (TT.out.tch ht9 h2 GG.out); have RR_ := hide (RR.out.tchLow ht9 GG.out HLOW.out); have T1_ := hide (T1.out.tch ht9); have LL_ : Hid (Below N w _) := (show _ from LL.out.trans (ht9.below GG.out)); have GG_ : Hid (N ≤ _) := (show _ ≤ _ from Nat.le_trans GG.out ht9.size); clear ht9 TT RR R2 T1 LL GG; have TT := TT_; have RR := RR_; have R2 := R2_; have T1 := T1_; have LL := LL_; have GG := GG_; clear TT_ RR_ R2_ T1_ LL_ GG_; obtain ⟨E1, HM⟩ : ∃ z, Hid (w9.heap.size = z) := ⟨_, rfl⟩)
    | (go_at_call 17; refine (tLen_m HLN.out T1.out).mono ?_; rintro e w9 ⟨rfl, hw9⟩; subst w9)
    | (rw [HM.out]; refine wpList_store_blk rfl 24 _ _ rfl E1 (By zh.1) (By (rt).1) 24 rfl rfl (by rw [← HM.out]; exact Blk.new _ 24 (By zh.1)) (by rw [By_len, By_len]) (Tryd.sizeH (rt)) (By_one _) ?_; intro w9 hbk9 hu9; have hb9 := room_below HM.out hu9; have R2_ := hide (R2.out.kept hb9); have TT_ := hide (TT.out.gr hb9); have RR_ := hide (RR.out.kept hb9); have T1_ := hide (T1.out.kept hb9); have LL_ : Hid (Below N w _) := (show _ from LL.out.trans (hb9.mono GG.out)); have GG_ : Hid (N ≤ _) := (show _ ≤ _ from Nat.le_trans GG.out hb9.size); clear hb9 TT RR R2 T1 LL GG; have TT := TT_; have RR := RR_; have R2 := R2_; have T1 := T1_; have LL := LL_; have GG := GG_; clear TT_ RR_ R2_ T1_ LL_ GG_; have V1 := hide hbk9; clear hbk9 hu9 HM)
    | fail)
  go_upto_region 8 with (first
    | (go_at_call 13; refine (uitems_m (B := N) (takeM_all m) HLN.out T1.out.all HML.out GG.out).mono ?_; rintro e w9 ⟨pa3, lc3, rfl, o9, hb9⟩; have R2_ := hide (R2.out.kept hb9); have TT_ := hide (TT.out.gr hb9); have RR_ := hide (RR.out.kept hb9); have T1_ := hide (T1.out.kept hb9); have V1_ := hide (V1.out.kept hb9); have LL_ : Hid (Below N w _) := (show _ from LL.out.trans (hb9.mono GG.out)); have GG_ : Hid (N ≤ _) := (show _ ≤ _ from Nat.le_trans GG.out hb9.size); clear hb9 TT RR R2 T1 V1 LL GG; have TT := TT_; have RR := RR_; have R2 := R2_; have T1 := T1_; have V1 := V1_; have LL := LL_; have GG := GG_; clear TT_ RR_ R2_ T1_ V1_ LL_ GG_; have O3 := hide o9; clear o9)
    | fail)
  clear RR
  go_wp2_with (first
    | (go_at_call 22; refine (kNew_any N _).mono ?_; rintro e w9 ⟨pu, rfl, hpu, t9, hb9⟩; have R2_ := hide (R2.out.kept hb9); have TT_ := hide (TT.out.gr hb9); have T1_ := hide (T1.out.kept hb9); have V1_ := hide (V1.out.kept hb9); have O3_ := hide (O3.out.kept hb9); have LL_ : Hid (Below N w _) := (show _ from LL.out.trans (hb9.mono GG.out)); have GG_ : Hid (N ≤ _) := (show _ ≤ _ from Nat.le_trans GG.out hb9.size); clear hb9 TT R2 T1 V1 O3 LL GG; have TT := TT_; have R2 := R2_; have T1 := T1_; have V1 := V1_; have O3 := O3_; have LL := LL_; have GG := GG_; clear TT_ R2_ T1_ V1_ O3_ LL_ GG_; have TU := hide t9; clear t9 hpu)
    | fail)
  go_loopg [11, 12] (ln + 1) (fun g y z wr => ∃ (i pu : Nat), i ≤ ln ∧ g = i + 1 ∧ z = .int .i64 ((i : Int) - 1) ∧ y = PT pu ∧ Hid (TrieAt N wr pu (m.drop i)) ∧ Hid (Tabs wr) ∧ Hid (RdG AE wr (.slice a2 n2 cp2) L2) ∧ Hid (TrieAt N wr p m) ∧ Hid (Blk wr E1 24 (By rt.1)) ∧ Hid (OwnG IE wr N 46 (.slice pa3 ln lc3) m) ∧ Hid (Below N w wr) ∧ Hid (N ≤ wr.heap.size))
  case atStart => exact ⟨ln, pu, Nat.le_refl _, rfl, rfl, rfl, (show TrieAt _ _ _ _ by rw [List.drop_eq_nil_of_le (by rw [HLN.out]; exact Nat.le_refl _)]; exact TU.out), TT, R2, T1, V1, O3, LL, GG⟩
  case round =>
    clear TT R2 T1 V1 O3 LL GG TU
    obtain ⟨i, pu, hi, hgi, rfl, rfl, TU, TT, R2, T1, V1, O3, LL, GG⟩ := hrel
    cases i with
    | succ j =>
      have er : (((j + 1 : Nat) : Int)) - 1 = (j : Int) := by omega
      rw [er]
      have q2 : (0 : Int) ≤ (j : Int) := by omega
      have hj : j < m.length := by rw [HLN.out]; omega
      obtain ⟨ba, oa, hsl, hba, hxa⟩ := O3.out.rd.nth (by omega)
      have hxj := hxa j hj
      have hk0 : wr.rangeAt ba (oa + j * 64) (By m[j].1.1) := IEk hxj
      have hv0 : wr.rangeAt ba (oa + j * 64 + 32) (By m[j].2.1) := IEv hxj
      have HDP : Hid (putP (m.drop (j + 1)) m[j].1 m[j].2 = m.drop j) := (show _ = _ from drop_put HSR.out hj)
      have HDL : Hid ((m.drop (j + 1)).length ≤ 1000000) := (show _ ≤ _ by rw [List.length_drop]; have := HML.out; omega)
      obtain ⟨x, hx⟩ : ∃ z, m[j] = z := ⟨_, rfl⟩
      rw [hx] at hk0 hv0 HDP
      subst hsl
      have q4 : (j : Int) < (ln : Int) := by omega
      clear hx hxa hxj
      go_upto_region 12 with fail
      refine wp_region_tailsK Tryd.mixed (KS (fun i_ => match i_ with | 0 => .val (PT pu) | 1 | 6 => .val (.slice (some ⟨ba, oa, none⟩) ln lc3) | 2 | 7 => .val (.int .i64 (j : Int)) | 3 | 4 | 8 => .val (.pointer (some ⟨ba, oa + j * 64, none⟩)) | 5 => .val (HV x.1) | 9 => .val (.pointer (some ⟨ba, oa + j * 64 + 32, none⟩)) | 10 => .val (HV x.2) | 11 => .of (fun w v_ => ∃ p_, v_ = PT p_ ∧ TrieAt N w p_ (m.drop j)) (fun _ _ _ hg ⟨p_, e, h2⟩ => ⟨p_, e, h2.kept hg⟩) | _ => .free)) 134 rfl (by decide +kernel) 12 (by decide) (by decide +kernel) (KS_mono _) ?_ ?_
      · refine AllFrom.cons ⟨rfl, fun a' w' hg hk hd => ?_⟩ (AllFrom.cons ⟨rfl, fun a' w' hg hk hd => ?_⟩ (AllFrom.cons ⟨rfl, fun a' w' hg hk hd => ?_⟩ (AllFrom.cons ⟨rfl, fun a' w' hg hk hd => ?_⟩ (AllFrom.cons ⟨rfl, fun a' w' hg hk hd => ?_⟩ (AllFrom.cons ⟨rfl, fun a' w' hg hk hd => ?_⟩ (AllFrom.cons ⟨rfl, fun a' w' hg hk hd => ?_⟩ (AllFrom.cons ⟨rfl, fun a' w' hg hk hd => ?_⟩ (AllFrom.cons ⟨rfl, fun a' w' hg hk hd => ?_⟩ (AllFrom.cons ⟨rfl, fun a' w' hg hk hd => ?_⟩ (AllFrom.cons ⟨rfl, fun a' w' hg hk hd => ?_⟩ (AllFrom.cons ⟨rfl, fun a' w' hg hk hd => ?_⟩ AllFrom.nil)))))))))))
        · skip
          intro Q
          have e11 : a'.eval (.tmp 11) = PT pu := hk.at 11 (by decide +kernel)
          exact wp_value _ (by simp only [execOp, e11]; rfl) (KS_mkv rfl rfl)
        · skip
          intro Q
          have e9 : a'.eval (.tmp 9) = .slice (some ⟨ba, oa, none⟩) ln lc3 := hk.at 9 (by decide +kernel)
          exact wp_value _ (by simp only [execOp, e9]; rfl) (KS_mkv rfl rfl)
        · skip
          intro Q
          have e12 : a'.eval (.tmp 12) = .int .i64 (j : Int) := hk.at 12 (by decide +kernel)
          exact wp_value _ (by simp only [execOp, e12]; rfl) (KS_mkv rfl rfl)
        · skip
          intro Q
          have e60 : a'.eval (.tmp 60) = .slice (some ⟨ba, oa, none⟩) ln lc3 := KS_val (hd.val 1 60 (by decide +kernel)) rfl
          have e61 : a'.eval (.tmp 61) = .int .i64 (j : Int) := KS_val (hd.val 2 61 (by decide +kernel)) rfl
          clear hd hk
          exact wp_value (.pointer (some ⟨ba, oa + j * 64, none⟩)) (by simp only [execOp, e60, e61]; go_simp) (KS_mkv rfl rfl)
        · skip
          intro Q
          have e62 : a'.eval (.tmp 62) = .pointer (some ⟨ba, oa + j * 64, none⟩) := KS_val (hd.val 3 62 (by decide +kernel)) rfl
          clear hd hk
          exact wp_value (.pointer (some ⟨ba, oa + j * 64, none⟩)) (by simp only [execOp, e62]; go_simp) (KS_mkv rfl rfl)
        · skip
          intro Q
          have e63 : a'.eval (.tmp 63) = .pointer (some ⟨ba, oa + j * 64, none⟩) := KS_val (hd.val 4 63 (by decide +kernel)) rfl
          exact wp_load_row 24 _ rfl _ _ e63 (By (x.1).1) _ (rangeAt_kept11 hk0 hba hg) Tryd.underlying24 rfl (Tryd.sizeH _) (KS_mkv rfl rfl)
        · skip
          intro Q
          have e9 : a'.eval (.tmp 9) = .slice (some ⟨ba, oa, none⟩) ln lc3 := hk.at 9 (by decide +kernel)
          exact wp_value _ (by simp only [execOp, e9]; rfl) (KS_mkv rfl rfl)
        · skip
          intro Q
          have e12 : a'.eval (.tmp 12) = .int .i64 (j : Int) := hk.at 12 (by decide +kernel)
          exact wp_value _ (by simp only [execOp, e12]; rfl) (KS_mkv rfl rfl)
        · skip
          intro Q
          have e65 : a'.eval (.tmp 65) = .slice (some ⟨ba, oa, none⟩) ln lc3 := KS_val (hd.val 6 65 (by decide +kernel)) rfl
          have e66 : a'.eval (.tmp 66) = .int .i64 (j : Int) := KS_val (hd.val 7 66 (by decide +kernel)) rfl
          clear hd hk
          exact wp_value (.pointer (some ⟨ba, oa + j * 64, none⟩)) (by simp only [execOp, e65, e66]; go_simp) (KS_mkv rfl rfl)
        · skip
          intro Q
          have e67 : a'.eval (.tmp 67) = .pointer (some ⟨ba, oa + j * 64, none⟩) := KS_val (hd.val 8 67 (by decide +kernel)) rfl
          clear hd hk
          exact wp_value (.pointer (some ⟨ba, oa + j * 64 + 32, none⟩)) (by simp only [execOp, e67]; go_simp) (KS_mkv rfl rfl)
        · skip
          intro Q
          have e68 : a'.eval (.tmp 68) = .pointer (some ⟨ba, oa + j * 64 + 32, none⟩) := KS_val (hd.val 9 68 (by decide +kernel)) rfl
          exact wp_load_row 24 _ rfl _ _ e68 (By (x.2).1) _ (rangeAt_kept11 hv0 hba hg) Tryd.underlying24 rfl (Tryd.sizeH _) (KS_mkv rfl rfl)
        · skip
          intro Q
          have e59 : a'.eval (.tmp 59) = PT pu := KS_val (hd.val 0 59 (by decide +kernel)) rfl
          have e64 : a'.eval (.tmp 64) = HV x.1 := KS_val (hd.val 5 64 (by decide +kernel)) rfl
          have e69 : a'.eval (.tmp 69) = HV x.2 := KS_val (hd.val 10 69 (by decide +kernel)) rfl
          refine wp_call 23 _ (run_enter 23 _ _ rfl (by kernel_rfl)) ?_
          simp only [List.map_toArray, List.map_nil, List.map_cons, e59, e64, e69]
          refine (tPut_m HDP.out (TU.out.kept hg) (Nat.le_trans GG.out hg.size) HDL.out).mono ?_
          rintro e w5 ⟨p5, rfl, t5, hb5⟩
          exact ⟨_, rfl, KS_mko rfl ⟨p5, rfl, t5⟩, hb5⟩
      · intro a' w4 hsz hdf hk hall hg
        obtain ⟨pu2, q70, t4⟩ := KS_of (hall 11 _ 70 (by decide) rfl rfl) rfl
        have TU2 := hide t4
        clear t4
        have e59 : a'.eval (.tmp 59) = PT pu := KS_val (hall 0 _ 59 (by decide) rfl rfl) rfl
        have e60 : a'.eval (.tmp 60) = .slice (some ⟨ba, oa, none⟩) ln lc3 := KS_val (hall 1 _ 60 (by decide) rfl rfl) rfl
        have e61 : a'.eval (.tmp 61) = .int .i64 (j : Int) := KS_val (hall 2 _ 61 (by decide) rfl rfl) rfl
        have e62 : a'.eval (.tmp 62) = .pointer (some ⟨ba, oa + j * 64, none⟩) := KS_val (hall 3 _ 62 (by decide) rfl rfl) rfl
        have e63 : a'.eval (.tmp 63) = .pointer (some ⟨ba, oa + j * 64, none⟩) := KS_val (hall 4 _ 63 (by decide) rfl rfl) rfl
        have e64 : a'.eval (.tmp 64) = HV x.1 := KS_val (hall 5 _ 64 (by decide) rfl rfl) rfl
        have e65 : a'.eval (.tmp 65) = .slice (some ⟨ba, oa, none⟩) ln lc3 := KS_val (hall 6 _ 65 (by decide) rfl rfl) rfl
        have e66 : a'.eval (.tmp 66) = .int .i64 (j : Int) := KS_val (hall 7 _ 66 (by decide) rfl rfl) rfl
        have e67 : a'.eval (.tmp 67) = .pointer (some ⟨ba, oa + j * 64, none⟩) := KS_val (hall 8 _ 67 (by decide) rfl rfl) rfl
        have e68 : a'.eval (.tmp 68) = .pointer (some ⟨ba, oa + j * 64 + 32, none⟩) := KS_val (hall 9 _ 68 (by decide) rfl rfl) rfl
        have e69 : a'.eval (.tmp 69) = HV x.2 := KS_val (hall 10 _ 69 (by decide) rfl rfl) rfl
        have e70 : a'.eval (.tmp 70) = PT pu2 := q70
        obtain ⟨z11, e11⟩ : ∃ v, a'.eval (.tmp 11) = v := ⟨_, rfl⟩
        refine ⟨rfl, ?_⟩
        refine Oper.wp_mono ?_ (wp_same (C := fun x => x = w4) (PT pu2) (by simp only [execOp, e70]; rfl) rfl)
        rintro a2 w2 ⟨rfl, hw2⟩
        rw [hw2]
        clear hw2
        clear w2
        refine ⟨_, rfl, ?_⟩
        have ha := act_puts 134 rfl hsz hdf hk.all [59, 60, 61, 62, 63, 64, 65, 66, 67, 68, 69, 70, 11] (by decide +kernel)
        simp only [puts, List.foldl_cons, List.foldl_nil, e59, e60, e61, e62, e63, e64, e65, e66, e67, e68, e69, e70, e11] at ha
        simp only [Act.put, List.setIfInBounds_toArray, List.set_cons_succ, List.set_cons_zero] at ha
        have hput : (a').put (some 11) (PT pu2) = { tmps := (a'.tmps).setIfInBounds 11 (PT pu2), defers := a'.defers } := rfl
        simp only [hput, wpSeq]
        subst ha
        clear hput hall hk hsz hdf e59 e60 e61 e62 e63 e64 e65 e66 e67 e68 e69 e70 e11
        have TT4 := hide (TT.out.gr hg)
        have R24 := hide (R2.out.kept hg)
        have T14 := hide (T1.out.kept hg)
        have V14 := hide (V1.out.kept hg)
        have O34 := hide (O3.out.kept hg)
        have LL4 : Hid (Below N w w4) := (show _ from LL.out.trans (hg.mono GG.out))
        have GG4 : Hid (N ≤ w4.heap.size) := (show _ ≤ _ from Nat.le_trans GG.out hg.size)
        clear hg
        go_wp2_with fail
        go_roundg (j + 1)
        case measure => omega
        case rel => exact ⟨j, pu2, by omega, rfl, by go_num, rfl, TU2, TT4, R24, T14, V14, O34, LL4, GG4⟩
    | zero =>
      have q2 : ¬ (0 : Int) ≤ ((0 : Nat) : Int) - 1 := by omega
      replace TU : Hid (TrieAt N wr pu m) := (show TrieAt _ _ _ _ by have := TU.out; rwa [List.drop_zero] at this)
      have TX := T1
      go_wp2_with fail
      go_loopg [13, 74] (n2 + 1) (fun g y z wr => ∃ (i px : Nat) (o : List It), i ≤ n2 ∧ g + i = n2 + 1 ∧ z = .int .i64 (i : Int) ∧ y = PT px ∧ Hid (mixP m (L2.take i) = o) ∧ Hid (TrieAt N wr px o) ∧ Hid (Tabs wr) ∧ Hid (RdG AE wr (.slice a2 n2 cp2) L2) ∧ Hid (TrieAt N wr p m) ∧ Hid (Blk wr E1 24 (By rt.1)) ∧ Hid (OwnG IE wr N 46 (.slice pa3 ln lc3) m) ∧ Hid (Below N w wr) ∧ Hid (N ≤ wr.heap.size) ∧ Hid (TrieAt N wr pu m))
      case atStart => exact ⟨0, p, m, by omega, by omega, rfl, rfl, (show _ = _ from rfl), TX, TT, R2, T1, V1, O3, LL, GG, TU⟩
      case round =>
        clear TT R2 T1 V1 O3 LL GG TU TX
        obtain ⟨i, px, o, hi, hgi, rfl, rfl, HO, TX, TT, R2, T1, V1, O3, LL, GG, TU⟩ := hrel
        have hms := mixP_spec (L2.take i) HSR.out
        rw [HO.out] at hms
        have HOL : Hid (o.length ≤ 1000000) := (show _ ≤ _ by have h1 := hms.2.1; rw [List.length_take] at h1; have := HM30.out; omega)
        have HOS := hide hms.1
        clear hms
        by_cases hlt : i < n2
        · have hlt2 : i < L2.length := by rw [HNL2.out]; exact hlt
          obtain ⟨ba, oa, hsl, hba, hxa⟩ := R2.out.nth (by omega)
          have hx : wr.rangeAt ba (oa + i * 65) (AE.c L2[i]) := hxa i hlt2
          obtain ⟨x, HX⟩ : ∃ x, Hid (L2[i] = x) := ⟨L2[i], (show L2[i] = L2[i] from rfl)⟩
          rw [HX.out] at hx
          subst hsl
          clear hxa
          have q2 : (i : Int) < (n2 : Int) := by omega
          have q3 : ¬ n2 ≤ i := by omega
          obtain ⟨EA, HM⟩ : ∃ M, Hid (wr.heap.size = M) := ⟨_, rfl⟩
          have HTK : Hid (L2.take (i + 1) = L2.take i ++ [x]) := (show _ = _ by rw [List.take_succ_eq_append_getElem hlt2, HX.out])
          obtain ⟨o2, HP2⟩ : ∃ z, Hid (putP o x.1 x.2.1 = z) := ⟨_, rfl⟩
          have HO2 : Hid (mixP m (L2.take (i + 1)) = o2) := (show _ = _ by rw [HTK.out]; unfold mixP at HO ⊢; rw [List.foldl_append, HO.out]; exact HP2.out)
          go_wp2_with (first
            | (refine wpList_load_mid rfl 48 _ rfl ba (oa + i * 65) rfl (AE.c x) _ hx Tryd.underlying48 rfl (Tryd.sizeAc x) ?_)
            | (rw [HM.out]; refine wpList_store_blk rfl 48 _ _ rfl EA (AE.c za) (AE.c x) 48 rfl rfl (by rw [← HM.out]; exact Blk.new wr 48 (AE.c za)) (by rw [AE_len, AE_len]) (Tryd.sizeAc x) (AE.one x) ?_; intro w9 hbk9 hu9; have hb9 : Below wr.heap.size wr w9 := (((Below.refl _ _).alloc (Nat.le_refl _) _).trans (hu9.below (Nat.le_of_eq HM.out) (by simp))); have R2_ := hide (R2.out.kept hb9); have TT_ := hide (TT.out.gr hb9); have T1_ := hide (T1.out.kept hb9); have V1_ := hide (V1.out.kept hb9); have O3_ := hide (O3.out.kept hb9); have TU_ := hide (TU.out.kept hb9); have TX_ := hide (TX.out.kept hb9); have LL_ : Hid (Below N w _) := (show _ from LL.out.trans (hb9.mono GG.out)); have GG_ : Hid (N ≤ _) := (show _ ≤ _ from Nat.le_trans GG.out hb9.size); clear hb9 TT R2 T1 V1 O3 TU TX LL GG; have TT := TT_; have R2 := R2_; have T1 := T1_; have V1 := V1_; have O3 := O3_; have TU := TU_; have TX := TX_; have LL := LL_; have GG := GG_; clear TT_ R2_ T1_ V1_ O3_ TU_ TX_ LL_ GG_; have XA := hide hbk9; clear hbk9 hu9 HM)
            | (refine wpList_load_mid rfl 24 _ rfl (EA) 0 rfl (By (x.1).1) _ (AEkey XA.out) Tryd.underlying24 rfl (Tryd.sizeH (x.1)) ?_)
            | (refine wpList_load_mid rfl 24 _ rfl (EA) 32 rfl (By (x.2.1).1) _ (AEval XA.out) Tryd.underlying24 rfl (Tryd.sizeH (x.2.1)) ?_)
            | fail)
          refine (tPut_m HP2.out TX.out GG.out HOL.out).mono ?_
          rintro e w9 ⟨px2, rfl, t9, hb9⟩
          have R2_ := hide (R2.out.kept hb9)
          have TT_ := hide (TT.out.gr hb9)
          have T1_ := hide (T1.out.kept hb9)
          have V1_ := hide (V1.out.kept hb9)
          have O3_ := hide (O3.out.kept hb9)
          have TU_ := hide (TU.out.kept hb9)
          have TX_ := hide (TX.out.kept hb9)
          have XA_ := hide (XA.out.kept hb9)
          have LL_ : Hid (Below N w _) := (show _ from LL.out.trans (hb9.mono GG.out))
          have GG_ : Hid (N ≤ _) := (show _ ≤ _ from Nat.le_trans GG.out hb9.size)
          clear hb9 TT R2 T1 V1 O3 TU TX XA LL GG
          have TT := TT_
          have R2 := R2_
          have T1 := T1_
          have V1 := V1_
          have O3 := O3_
          have TU := TU_
          have TX := TX_
          have XA := XA_
          have LL := LL_
          have GG := GG_
          clear TT_ R2_ T1_ V1_ O3_ TU_ TX_ XA_ LL_ GG_
          have TX2 := hide t9
          clear t9 TX
          go_wp2_with fail
          go_roundg (n2 + 1 - (i + 1))
          case measure => omega
          case rel => exact ⟨i + 1, px2, o2, by omega, by omega, by go_num, rfl, HO2, TX2, TT, R2, T1, V1, O3, LL, GG, TU⟩
        · obtain rfl : i = n2 := by omega
          have q2 : ¬ (i : Int) < (i : Int) := by omega
          have HOE : Hid (mixP m L2 = o) := (show _ = _ by have := HO.out; rwa [List.take_of_length_le (by rw [HNL2.out]; exact Nat.le_refl _)] at this)
          have HFM := hide (fix_mix HSR.out L2)
          rw [HOE.out] at HFM
          have HO20 : Hid (o.length ≤ 50) := (show _ ≤ _ by
            have h1 := (mixP_spec L2 HSR.out).2.1
            rw [HOE.out, HNL2.out] at h1
            have := HM30.out
            omega)
          obtain ⟨n2, hin⟩ : ∃ z, z = i := ⟨_, rfl⟩
          rw [← hin] at HNL2 hn2 q1' HLOW2 hcap2 R2 hi ⊢
          clear hin q2 HO HOE hgi
          go_wp2_with fail
          go_loopg [13, 87] (n2 + 1) (fun g y z wr => ∃ (i px : Nat) (u : List It), i ≤ n2 ∧ g + i = n2 + 1 ∧ z = .int .i64 (i : Int) ∧ y = PT px ∧ Hid (fixP m o (L2.take i) = u) ∧ Hid (TrieAt N wr px u) ∧ Hid (Tabs wr) ∧ Hid (RdG AE wr (.slice a2 n2 cp2) L2) ∧ Hid (TrieAt N wr p m) ∧ Hid (Blk wr E1 24 (By rt.1)) ∧ Hid (OwnG IE wr N 46 (.slice pa3 ln lc3) m) ∧ Hid (Below N w wr) ∧ Hid (N ≤ wr.heap.size) ∧ Hid (TrieAt N wr pu m))
          case atStart => exact ⟨0, px, o, by omega, by omega, rfl, rfl, (show _ = _ from rfl), TX, TT, R2, T1, V1, O3, LL, GG, TU⟩
          case round =>
            clear TT R2 T1 V1 O3 LL GG TU TX
            obtain ⟨i, px, u, hi, hgi, rfl, rfl, HO, TX, TT, R2, T1, V1, O3, LL, GG, TU⟩ := hrel
            have hms := fixP_spec m (L2.take i) HOS.out
            rw [HO.out] at hms
            have HOL : Hid (u.length ≤ 1000000) := (show _ ≤ _ by have h1 := hms.2.1; rw [List.length_take] at h1; have := HO20.out; omega)
            clear hms
            by_cases hlt : i < n2
            · have hlt2 : i < L2.length := by rw [HNL2.out]; exact hlt
              obtain ⟨ba, oa, hsl, hba, hxa⟩ := R2.out.nth (by omega)
              have hx : wr.rangeAt ba (oa + i * 65) (AE.c L2[i]) := hxa i hlt2
              obtain ⟨x, HX⟩ : ∃ x, Hid (L2[i] = x) := ⟨L2[i], (show L2[i] = L2[i] from rfl)⟩
              rw [HX.out] at hx
              subst hsl
              clear hxa
              have q2 : (i : Int) < (n2 : Int) := by omega
              have q3 : ¬ n2 ≤ i := by omega
              obtain ⟨EA, HM⟩ : ∃ M, Hid (wr.heap.size = M) := ⟨_, rfl⟩
              have HTK : Hid (L2.take (i + 1) = L2.take i ++ [x]) := (show _ = _ by rw [List.take_succ_eq_append_getElem hlt2, HX.out])
              have HO2 : Hid (fixP m o (L2.take (i + 1)) = fixS m u x) := (show _ = _ by rw [HTK.out]; unfold fixP at HO ⊢; rw [List.foldl_append, HO.out]; rfl)
              obtain ⟨vx, HVX⟩ : ∃ z, Hid (valP m x.1 = z) := ⟨_, rfl⟩
              obtain ⟨hx1, HHX⟩ : ∃ z, Hid (hasP m x.1 = z) := ⟨_, rfl⟩
              go_upto_region 23 with (first
                | (refine wpList_load_mid rfl 48 _ rfl ba (oa + i * 65) rfl (AE.c x) _ hx Tryd.underlying48 rfl (Tryd.sizeAc x) ?_)
                | (rw [HM.out]; refine wpList_store_blk rfl 48 _ _ rfl EA (AE.c za) (AE.c x) 48 rfl rfl (by rw [← HM.out]; exact Blk.new wr 48 (AE.c za)) (by rw [AE_len, AE_len]) (Tryd.sizeAc x) (AE.one x) ?_; intro w9 hbk9 hu9; have hb9 : Below wr.heap.size wr w9 := (((Below.refl _ _).alloc (Nat.le_refl _) _).trans (hu9.below (Nat.le_of_eq HM.out) (by simp))); have R2_ := hide (R2.out.kept hb9); have TT_ := hide (TT.out.gr hb9); have T1_ := hide (T1.out.kept hb9); have V1_ := hide (V1.out.kept hb9); have O3_ := hide (O3.out.kept hb9); have TU_ := hide (TU.out.kept hb9); have TX_ := hide (TX.out.kept hb9); have LL_ : Hid (Below N w _) := (show _ from LL.out.trans (hb9.mono GG.out)); have GG_ : Hid (N ≤ _) := (show _ ≤ _ from Nat.le_trans GG.out hb9.size); clear hb9 TT R2 T1 V1 O3 TU TX LL GG; have TT := TT_; have R2 := R2_; have T1 := T1_; have V1 := V1_; have O3 := O3_; have TU := TU_; have TX := TX_; have LL := LL_; have GG := GG_; clear TT_ R2_ T1_ V1_ O3_ TU_ TX_ LL_ GG_; have XA := hide hbk9; clear hbk9 hu9 HM)
                | (refine wpList_load_mid rfl 24 _ rfl (EA) 0 rfl (By (x.1).1) _ (AEkey XA.out) Tryd.underlying24 rfl (Tryd.sizeH (x.1)) ?_)
                | (go_at_call 11; refine (tGet_m HVX.out HHX.out T1.out).mono ?_; rintro e w9 ⟨rfl, hb9⟩; have R2_ := hide (R2.out.kept hb9); have TT_ := hide (TT.out.gr hb9); have T1_ := hide (T1.out.kept hb9); have V1_ := hide (V1.out.kept hb9); have O3_ := hide (O3.out.kept hb9); have TU_ := hide (TU.out.kept hb9); have TX_ := hide (TX.out.kept hb9); have XA_ := hide (XA.out.kept hb9); have LL_ : Hid (Below N w _) := (show _ from LL.out.trans (hb9.mono GG.out)); have GG_ : Hid (N ≤ _) := (show _ ≤ _ from Nat.le_trans GG.out hb9.size); clear hb9 TT R2 T1 V1 O3 TU TX XA LL GG; have TT := TT_; have R2 := R2_; have T1 := T1_; have V1 := V1_; have O3 := O3_; have TU := TU_; have TX := TX_; have XA := XA_; have LL := LL_; have GG := GG_; clear TT_ R2_ T1_ V1_ O3_ TU_ TX_ XA_ LL_ GG_; obtain ⟨E5, HM⟩ : ∃ z, Hid (w9.heap.size = z) := ⟨_, rfl⟩)
                | (rw [HM.out]; refine wpList_store_blk rfl 24 _ _ rfl E5 (By zh.1) (By (vx).1) 24 rfl rfl (by rw [← HM.out]; exact Blk.new _ 24 (By zh.1)) (by rw [By_len, By_len]) (Tryd.sizeH (vx)) (By_one _) ?_; intro w9 hbk9 hu9; have hb9 := room_below HM.out hu9; have R2_ := hide (R2.out.kept hb9); have TT_ := hide (TT.out.gr hb9); have T1_ := hide (T1.out.kept hb9); have V1_ := hide (V1.out.kept hb9); have O3_ := hide (O3.out.kept hb9); have TU_ := hide (TU.out.kept hb9); have TX_ := hide (TX.out.kept hb9); have XA_ := hide (XA.out.kept hb9); have LL_ : Hid (Below N w _) := (show _ from LL.out.trans (hb9.mono GG.out)); have GG_ : Hid (N ≤ _) := (show _ ≤ _ from Nat.le_trans GG.out hb9.size); clear hb9 TT R2 T1 V1 O3 TU TX XA LL GG; have TT := TT_; have R2 := R2_; have T1 := T1_; have V1 := V1_; have O3 := O3_; have TU := TU_; have TX := TX_; have XA := XA_; have LL := LL_; have GG := GG_; clear TT_ R2_ T1_ V1_ O3_ TU_ TX_ XA_ LL_ GG_; have VX := hide hbk9; clear hbk9 hu9 HM)
                | fail)
              cases hx1 with
              | true =>
                obtain ⟨u2, HP3⟩ : ∃ z, Hid (putP u x.1 vx = z) := ⟨_, rfl⟩
                replace HO2 : Hid (fixP m o (L2.take (i + 1)) = u2) := (show _ = _ by rw [HO2.out]; unfold fixS; rw [HHX.out, if_pos rfl, HVX.out]; exact HP3.out)
                go_wp2_with (first
                  | (refine wpList_load_mid rfl 24 _ rfl (EA) 0 rfl (By (x.1).1) _ (AEkey XA.out) Tryd.underlying24 rfl (Tryd.sizeH (x.1)) ?_)
                  | (refine wpList_load_mid rfl 24 _ rfl (E5) 0 rfl (By (vx).1) _ (VX.out.range0) Tryd.underlying24 rfl (Tryd.sizeH (vx)) ?_)
                  | fail)
                refine (tPut_m HP3.out TX.out GG.out HOL.out).mono ?_
                rintro e w9 ⟨px2, rfl, t9, hb9⟩
                have R2_ := hide (R2.out.kept hb9)
                have TT_ := hide (TT.out.gr hb9)
                have T1_ := hide (T1.out.kept hb9)
                have V1_ := hide (V1.out.kept hb9)
                have O3_ := hide (O3.out.kept hb9)
                have TU_ := hide (TU.out.kept hb9)
                have TX_ := hide (TX.out.kept hb9)
                have XA_ := hide (XA.out.kept hb9)
                have VX_ := hide (VX.out.kept hb9)
                have LL_ : Hid (Below N w _) := (show _ from LL.out.trans (hb9.mono GG.out))
                have GG_ : Hid (N ≤ _) := (show _ ≤ _ from Nat.le_trans GG.out hb9.size)
                clear hb9 TT R2 T1 V1 O3 TU TX XA VX LL GG
                have TT := TT_
                have R2 := R2_
                have T1 := T1_
                have V1 := V1_
                have O3 := O3_
                have TU := TU_
                have TX := TX_
                have XA := XA_
                have VX := VX_
                have LL := LL_
                have GG := GG_
                clear TT_ R2_ T1_ V1_ O3_ TU_ TX_ XA_ VX_ LL_ GG_
                have TX2 := hide t9
                clear t9 TX
                go_wp2_with fail
                go_roundg (n2 + 1 - (i + 1))
                case measure => omega
                case rel => exact ⟨i + 1, px2, u2, by omega, by omega, by go_num, rfl, HO2, TX2, TT, R2, T1, V1, O3, LL, GG, TU⟩
              | false =>
                obtain ⟨u2, HP3⟩ : ∃ z, Hid (dropP u x.1 = z) := ⟨_, rfl⟩
                replace HO2 : Hid (fixP m o (L2.take (i + 1)) = u2) := (show _ = _ by rw [HO2.out]; unfold fixS; rw [HHX.out, if_neg (by decide)]; exact HP3.out)
                go_wp2_with (first
                  | (refine wpList_load_mid rfl 24 _ rfl (EA) 0 rfl (By (x.1).1) _ (AEkey XA.out) Tryd.underlying24 rfl (Tryd.sizeH (x.1)) ?_)
                  | fail)
                refine (tDrop_m HP3.out TX.out GG.out HOL.out).mono ?_
                rintro e w9 ⟨px2, rfl, t9, hb9⟩
                have R2_ := hide (R2.out.kept hb9)
                have TT_ := hide (TT.out.gr hb9)
                have T1_ := hide (T1.out.kept hb9)
                have V1_ := hide (V1.out.kept hb9)
                have O3_ := hide (O3.out.kept hb9)
                have TU_ := hide (TU.out.kept hb9)
                have TX_ := hide (TX.out.kept hb9)
                have XA_ := hide (XA.out.kept hb9)
                have VX_ := hide (VX.out.kept hb9)
                have LL_ : Hid (Below N w _) := (show _ from LL.out.trans (hb9.mono GG.out))
                have GG_ : Hid (N ≤ _) := (show _ ≤ _ from Nat.le_trans GG.out hb9.size)
                clear hb9 TT R2 T1 V1 O3 TU TX XA VX LL GG
                have TT := TT_
                have R2 := R2_
                have T1 := T1_
                have V1 := V1_
                have O3 := O3_
                have TU := TU_
                have TX := TX_
                have XA := XA_
                have VX := VX_
                have LL := LL_
                have GG := GG_
                clear TT_ R2_ T1_ V1_ O3_ TU_ TX_ XA_ VX_ LL_ GG_
                have TX2 := hide t9
                clear t9 TX
                go_wp2_with fail
                go_roundg (n2 + 1 - (i + 1))
                case measure => omega
                case rel => exact ⟨i + 1, px2, u2, by omega, by omega, by go_num, rfl, HO2, TX2, TT, R2, T1, V1, O3, LL, GG, TU⟩
            · obtain rfl : i = n2 := by omega
              have q2 : ¬ (i : Int) < (i : Int) := by omega
              have HUE : Hid (u = m) := (show _ = _ by have h1 := HO.out; rw [List.take_of_length_le (by rw [HNL2.out]; exact Nat.le_refl _)] at h1; rw [← h1]; exact HFM.out)
              rw [HUE.out] at TX
              go_upto_region 27 with fail
              refine wp_region_invR (Tch.ok N) Tryd.mixed (KR (R := Tch N) (fun i_ => match i_ with | 0 => .val (PT pu) | 1 | 2 | 6 | 7 | 18 | 19 => .val (HV rt) | 3 | 4 | 8 | 9 | 10 | 14 | 15 | 16 | 20 | 21 | 22 | 23 | 24 | 25 => .val (.bool true) | 5 | 11 => .val (PT px) | 12 | 13 => .val (.int .i64 (ln : Int)) | 17 => .val (PT p) | _ => .free)) 134 rfl (by decide +kernel) (KR_mono _) ?_ ?_
              · refine AllFrom.cons (fun a' w' hg hk hd => ?_) (AllFrom.cons (fun a' w' hg hk hd => ?_) (AllFrom.cons (fun a' w' hg hk hd => ?_) (AllFrom.cons (fun a' w' hg hk hd => ?_) (AllFrom.cons (fun a' w' hg hk hd => ?_) (AllFrom.cons (fun a' w' hg hk hd => ?_) (AllFrom.cons (fun a' w' hg hk hd => ?_) (AllFrom.cons (fun a' w' hg hk hd => ?_) (AllFrom.cons (fun a' w' hg hk hd => ?_) (AllFrom.cons (fun a' w' hg hk hd => ?_) (AllFrom.cons (fun a' w' hg hk hd => ?_) (AllFrom.cons (fun a' w' hg hk hd => ?_) (AllFrom.cons (fun a' w' hg hk hd => ?_) (AllFrom.cons (fun a' w' hg hk hd => ?_) (AllFrom.cons (fun a' w' hg hk hd => ?_) (AllFrom.cons (fun a' w' hg hk hd => ?_) (AllFrom.cons (fun a' w' hg hk hd => ?_) (AllFrom.cons (fun a' w' hg hk hd => ?_) (AllFrom.cons (fun a' w' hg hk hd => ?_) (AllFrom.cons (fun a' w' hg hk hd => ?_) (AllFrom.cons (fun a' w' hg hk hd => ?_) (AllFrom.cons (fun a' w' hg hk hd => ?_) (AllFrom.cons (fun a' w' hg hk hd => ?_) (AllFrom.cons (fun a' w' hg hk hd => ?_) (AllFrom.cons (fun a' w' hg hk hd => ?_) (AllFrom.cons (fun a' w' hg hk hd => ?_) AllFrom.nil)))))))))))))))))))))))))
                · skip
                  intro Q
                  have e11 : a'.eval (.tmp 11) = PT pu := hk.at 11 (by decide +kernel)
                  exact wp_valueR (Tch.ok N) _ (by simp only [execOp, e11]; rfl) (KR_mkv rfl rfl)
                · skip
                  intro Q
                  have e109 : a'.eval (.tmp 109) = PT pu := KR_val (hd.val 0 109 (by decide +kernel)) rfl
                  refine wp_callR 15 _ (run_enter 15 _ _ rfl (by kernel_rfl)) ?_
                  simp only [List.map_toArray, List.map_nil, List.map_cons, e109]
                  refine (tRoot_m HRT.out h2 (TU.out.tch hg) (TT.out.tch hg h2 GG.out) (Nat.le_trans GG.out hg.size)).mono ?_
                  rintro e w5 ⟨rfl, hb5⟩
                  exact ⟨_, rfl, KR_mkv rfl rfl, hb5⟩
                · skip
                  intro Q
                  have e7 : a'.eval (.tmp 7) = .pointer (some ⟨E1, 0, none⟩) := hk.at 7 (by decide +kernel)
                  exact wp_load_rowR (Tch.ok N) 24 _ rfl _ _ e7 (By (rt).1) _ ((hg.blk V1.out (by decide)).range0) Tryd.underlying24 rfl (Tryd.sizeH _) (KR_mkv rfl rfl)
                · skip
                  intro Q
                  have e110 : a'.eval (.tmp 110) = HV rt := KR_val (hd.val 1 110 (by decide +kernel)) rfl
                  have e111 : a'.eval (.tmp 111) = HV rt := KR_val (hd.val 2 111 (by decide +kernel)) rfl
                  have hq := eqAA rt
                  clear hd hk
                  exact wp_valueR (Tch.ok N) _ (by simp only [execOp, e110, e111, HV]; go_simp) (KR_mkv rfl rfl)
                · skip
                  intro Q
                  have e112 : a'.eval (.tmp 112) = .bool true := KR_val (hd.val 3 112 (by decide +kernel)) rfl
                  exact wp_valueR (Tch.ok N) _ (by simp only [execOp, e112]; rfl) (KR_mkv rfl rfl)
                · skip
                  have eg : a'.eval (.tmp 113) = .bool true := KR_val (hd.val 4 113 (by decide +kernel)) rfl
                  refine ⟨113, true, rfl, eg, fun _ Q => ?_, fun h => absurd rfl h⟩
                  have e13 : a'.eval (.tmp 13) = PT px := hk.at 13 (by decide +kernel)
                  exact wp_valueR (Tch.ok N) _ (by simp only [execOp, e13]; rfl) (KR_mkv rfl rfl)
                · skip
                  have eg : a'.eval (.tmp 113) = .bool true := KR_val (hd.val 4 113 (by decide +kernel)) rfl
                  refine ⟨113, true, rfl, eg, fun _ Q => ?_, fun h => absurd rfl h⟩
                  have e114 : a'.eval (.tmp 114) = PT px := KR_val (hd.val 5 114 (by decide +kernel)) rfl
                  refine wp_callR 15 _ (run_enter 15 _ _ rfl (by kernel_rfl)) ?_
                  simp only [List.map_toArray, List.map_nil, List.map_cons, e114]
                  refine (tRoot_m HRT.out h2 (TX.out.tch hg) (TT.out.tch hg h2 GG.out) (Nat.le_trans GG.out hg.size)).mono ?_
                  rintro e w5 ⟨rfl, hb5⟩
                  exact ⟨_, rfl, KR_mkv rfl rfl, hb5⟩
                · skip
                  have eg : a'.eval (.tmp 113) = .bool true := KR_val (hd.val 4 113 (by decide +kernel)) rfl
                  refine ⟨113, true, rfl, eg, fun _ Q => ?_, fun h => absurd rfl h⟩
                  have e7 : a'.eval (.tmp 7) = .pointer (some ⟨E1, 0, none⟩) := hk.at 7 (by decide +kernel)
                  exact wp_load_rowR (Tch.ok N) 24 _ rfl _ _ e7 (By (rt).1) _ ((hg.blk V1.out (by decide)).range0) Tryd.underlying24 rfl (Tryd.sizeH _) (KR_mkv rfl rfl)
                · skip
                  have eg : a'.eval (.tmp 113) = .bool true := KR_val (hd.val 4 113 (by decide +kernel)) rfl
                  refine ⟨113, true, rfl, eg, fun _ Q => ?_, fun h => absurd rfl h⟩
                  have e115 : a'.eval (.tmp 115) = HV rt := KR_val (hd.val 6 115 (by decide +kernel)) rfl
                  have e116 : a'.eval (.tmp 116) = HV rt := KR_val (hd.val 7 116 (by decide +kernel)) rfl
                  have hq := eqAA rt
                  clear hd hk
                  exact wp_valueR (Tch.ok N) _ (by simp only [execOp, e115, e116, HV]; go_simp) (KR_mkv rfl rfl)
                · skip
                  intro Q
                  have e113 : a'.eval (.tmp 113) = .bool true := KR_val (hd.val 4 113 (by decide +kernel)) rfl
                  have e117 : a'.eval (.tmp 117) = .bool true := KR_val (hd.val 8 117 (by decide +kernel)) rfl
                  clear hd hk
                  exact wp_valueR (Tch.ok N) (.bool true) (by simp only [execOp, e113, e117]; go_simp) (KR_mkv rfl rfl)
                · skip
                  intro Q
                  have e118 : a'.eval (.tmp 118) = .bool true := KR_val (hd.val 9 118 (by decide +kernel)) rfl
                  exact wp_valueR (Tch.ok N) _ (by simp only [execOp, e118]; rfl) (KR_mkv rfl rfl)
                · skip
                  have eg : a'.eval (.tmp 119) = .bool true := KR_val (hd.val 10 119 (by decide +kernel)) rfl
                  refine ⟨119, true, rfl, eg, fun _ Q => ?_, fun h => absurd rfl h⟩
                  have e13 : a'.eval (.tmp 13) = PT px := hk.at 13 (by decide +kernel)
                  exact wp_valueR (Tch.ok N) _ (by simp only [execOp, e13]; rfl) (KR_mkv rfl rfl)
                · skip
                  have eg : a'.eval (.tmp 119) = .bool true := KR_val (hd.val 10 119 (by decide +kernel)) rfl
                  refine ⟨119, true, rfl, eg, fun _ Q => ?_, fun h => absurd rfl h⟩
                  have e120 : a'.eval (.tmp 120) = PT px := KR_val (hd.val 11 120 (by decide +kernel)) rfl
                  refine wp_callR 17 _ (run_enter 17 _ _ rfl (by kernel_rfl)) ?_
                  simp only [List.map_toArray, List.map_nil, List.map_cons, e120]
                  refine (tLen_m HLN.out (TX.out.tch hg)).mono ?_
                  rintro e w5 ⟨rfl, hw5⟩
                  exact ⟨_, rfl, KR_mkv rfl rfl, by rw [hw5]; exact .refl _ _⟩
                · skip
                  have eg : a'.eval (.tmp 119) = .bool true := KR_val (hd.val 10 119 (by decide +kernel)) rfl
                  refine ⟨119, true, rfl, eg, fun _ Q => ?_, fun h => absurd rfl h⟩
                  have e8 : a'.eval (.tmp 8) = .int .i64 (ln : Int) := hk.at 8 (by decide +kernel)
                  exact wp_valueR (Tch.ok N) _ (by simp only [execOp, e8]; rfl) (KR_mkv rfl rfl)
                · skip
                  have eg : a'.eval (.tmp 119) = .bool true := KR_val (hd.val 10 119 (by decide +kernel)) rfl
                  refine ⟨119, true, rfl, eg, fun _ Q => ?_, fun h => absurd rfl h⟩
                  have e121 : a'.eval (.tmp 121) = .int .i64 (ln : Int) := KR_val (hd.val 12 121 (by decide +kernel)) rfl
                  have e122 : a'.eval (.tmp 122) = .int .i64 (ln : Int) := KR_val (hd.val 13 122 (by decide +kernel)) rfl
                  clear hd hk
                  exact wp_valueR (Tch.ok N) (.bool true) (by simp only [execOp, e121, e122]; go_simp) (KR_mkv rfl rfl)
                · skip
                  intro Q
                  have e119 : a'.eval (.tmp 119) = .bool true := KR_val (hd.val 10 119 (by decide +kernel)) rfl
                  have e123 : a'.eval (.tmp 123) = .bool true := KR_val (hd.val 14 123 (by decide +kernel)) rfl
                  clear hd hk
                  exact wp_valueR (Tch.ok N) (.bool true) (by simp only [execOp, e119, e123]; go_simp) (KR_mkv rfl rfl)
                · skip
                  intro Q
                  have e124 : a'.eval (.tmp 124) = .bool true := KR_val (hd.val 15 124 (by decide +kernel)) rfl
                  exact wp_valueR (Tch.ok N) _ (by simp only [execOp, e124]; rfl) (KR_mkv rfl rfl)
                · skip
                  have eg : a'.eval (.tmp 125) = .bool true := KR_val (hd.val 16 125 (by decide +kernel)) rfl
                  refine ⟨125, true, rfl, eg, fun _ Q => ?_, fun h => absurd rfl h⟩
                  have e5 : a'.eval (.tmp 5) = PT p := hk.at 5 (by decide +kernel)
                  exact wp_valueR (Tch.ok N) _ (by simp only [execOp, e5]; rfl) (KR_mkv rfl rfl)
                · skip
                  have eg : a'.eval (.tmp 125) = .bool true := KR_val (hd.val 16 125 (by decide +kernel)) rfl
                  refine ⟨125, true, rfl, eg, fun _ Q => ?_, fun h => absurd rfl h⟩
                  have e126 : a'.eval (.tmp 126) = PT p := KR_val (hd.val 17 126 (by decide +kernel)) rfl
                  refine wp_callR 15 _ (run_enter 15 _ _ rfl (by kernel_rfl)) ?_
                  simp only [List.map_toArray, List.map_nil, List.map_cons, e126]
                  refine (tRoot_m HRT.out h2 (T1.out.tch hg) (TT.out.tch hg h2 GG.out) (Nat.le_trans GG.out hg.size)).mono ?_
                  rintro e w5 ⟨rfl, hb5⟩
                  exact ⟨_, rfl, KR_mkv rfl rfl, hb5⟩
                · skip
                  have eg : a'.eval (.tmp 125) = .bool true := KR_val (hd.val 16 125 (by decide +kernel)) rfl
                  refine ⟨125, true, rfl, eg, fun _ Q => ?_, fun h => absurd rfl h⟩
                  have e7 : a'.eval (.tmp 7) = .pointer (some ⟨E1, 0, none⟩) := hk.at 7 (by decide +kernel)
                  exact wp_load_rowR (Tch.ok N) 24 _ rfl _ _ e7 (By (rt).1) _ ((hg.blk V1.out (by decide)).range0) Tryd.underlying24 rfl (Tryd.sizeH _) (KR_mkv rfl rfl)
                · skip
                  have eg : a'.eval (.tmp 125) = .bool true := KR_val (hd.val 16 125 (by decide +kernel)) rfl
                  refine ⟨125, true, rfl, eg, fun _ Q => ?_, fun h => absurd rfl h⟩
                  have e127 : a'.eval (.tmp 127) = HV rt := KR_val (hd.val 18 127 (by decide +kernel)) rfl
                  have e128 : a'.eval (.tmp 128) = HV rt := KR_val (hd.val 19 128 (by decide +kernel)) rfl
                  have hq := eqAA rt
                  clear hd hk
                  exact wp_valueR (Tch.ok N) _ (by simp only [execOp, e127, e128, HV]; go_simp) (KR_mkv rfl rfl)
                · skip
                  intro Q
                  have e125 : a'.eval (.tmp 125) = .bool true := KR_val (hd.val 16 125 (by decide +kernel)) rfl
                  have e129 : a'.eval (.tmp 129) = .bool true := KR_val (hd.val 20 129 (by decide +kernel)) rfl
                  clear hd hk
                  exact wp_valueR (Tch.ok N) (.bool true) (by simp only [execOp, e125, e129]; go_simp) (KR_mkv rfl rfl)
                · skip
                  intro Q
                  have e130 : a'.eval (.tmp 130) = .bool true := KR_val (hd.val 21 130 (by decide +kernel)) rfl
                  exact wp_valueR (Tch.ok N) _ (by simp only [execOp, e130]; rfl) (KR_mkv rfl rfl)
                · skip
                  have eg : a'.eval (.tmp 131) = .bool true := KR_val (hd.val 22 131 (by decide +kernel)) rfl
                  refine ⟨131, true, rfl, eg, fun _ Q => ?_, fun h => absurd rfl h⟩
                  refine wp_callR 9 _ (run_enter 9 _ _ rfl (by kernel_rfl)) ?_
                  simp only [List.map_toArray, List.map_nil]
                  refine (ulives_any _ (TT.out.tch hg h2 GG.out)).mono ?_
                  rintro e w5 ⟨rfl, hb5⟩
                  exact ⟨_, rfl, KR_mkv rfl rfl, .of_below hb5⟩
                · skip
                  intro Q
                  have e131 : a'.eval (.tmp 131) = .bool true := KR_val (hd.val 22 131 (by decide +kernel)) rfl
                  have e132 : a'.eval (.tmp 132) = .bool true := KR_val (hd.val 23 132 (by decide +kernel)) rfl
                  clear hd hk
                  exact wp_valueR (Tch.ok N) (.bool true) (by simp only [execOp, e131, e132]; go_simp) (KR_mkv rfl rfl)
                · skip
                  intro Q
                  have e133 : a'.eval (.tmp 133) = .bool true := KR_val (hd.val 24 133 (by decide +kernel)) rfl
                  exact wp_valueR (Tch.ok N) _ (by simp only [execOp, e133]; rfl) (KR_mkv rfl rfl)
              · intro a' w6 hsz hdf hk hall hg
                have e109 : a'.eval (.tmp 109) = PT pu := KR_val (hall 0 _ 109 rfl rfl) rfl
                have e110 : a'.eval (.tmp 110) = HV rt := KR_val (hall 1 _ 110 rfl rfl) rfl
                have e111 : a'.eval (.tmp 111) = HV rt := KR_val (hall 2 _ 111 rfl rfl) rfl
                have e112 : a'.eval (.tmp 112) = .bool true := KR_val (hall 3 _ 112 rfl rfl) rfl
                have e113 : a'.eval (.tmp 113) = .bool true := KR_val (hall 4 _ 113 rfl rfl) rfl
                have e114 : a'.eval (.tmp 114) = PT px := KR_val (hall 5 _ 114 rfl rfl) rfl
                have e115 : a'.eval (.tmp 115) = HV rt := KR_val (hall 6 _ 115 rfl rfl) rfl
                have e116 : a'.eval (.tmp 116) = HV rt := KR_val (hall 7 _ 116 rfl rfl) rfl
                have e117 : a'.eval (.tmp 117) = .bool true := KR_val (hall 8 _ 117 rfl rfl) rfl
                have e118 : a'.eval (.tmp 118) = .bool true := KR_val (hall 9 _ 118 rfl rfl) rfl
                have e119 : a'.eval (.tmp 119) = .bool true := KR_val (hall 10 _ 119 rfl rfl) rfl
                have e120 : a'.eval (.tmp 120) = PT px := KR_val (hall 11 _ 120 rfl rfl) rfl
                have e121 : a'.eval (.tmp 121) = .int .i64 (ln : Int) := KR_val (hall 12 _ 121 rfl rfl) rfl
                have e122 : a'.eval (.tmp 122) = .int .i64 (ln : Int) := KR_val (hall 13 _ 122 rfl rfl) rfl
                have e123 : a'.eval (.tmp 123) = .bool true := KR_val (hall 14 _ 123 rfl rfl) rfl
                have e124 : a'.eval (.tmp 124) = .bool true := KR_val (hall 15 _ 124 rfl rfl) rfl
                have e125 : a'.eval (.tmp 125) = .bool true := KR_val (hall 16 _ 125 rfl rfl) rfl
                have e126 : a'.eval (.tmp 126) = PT p := KR_val (hall 17 _ 126 rfl rfl) rfl
                have e127 : a'.eval (.tmp 127) = HV rt := KR_val (hall 18 _ 127 rfl rfl) rfl
                have e128 : a'.eval (.tmp 128) = HV rt := KR_val (hall 19 _ 128 rfl rfl) rfl
                have e129 : a'.eval (.tmp 129) = .bool true := KR_val (hall 20 _ 129 rfl rfl) rfl
                have e130 : a'.eval (.tmp 130) = .bool true := KR_val (hall 21 _ 130 rfl rfl) rfl
                have e131 : a'.eval (.tmp 131) = .bool true := KR_val (hall 22 _ 131 rfl rfl) rfl
                have e132 : a'.eval (.tmp 132) = .bool true := KR_val (hall 23 _ 132 rfl rfl) rfl
                have e133 : a'.eval (.tmp 133) = .bool true := KR_val (hall 24 _ 133 rfl rfl) rfl
                have e4 : a'.eval (.tmp 4) = .bool true := KR_val (hall 25 _ 4 rfl rfl) rfl
                have ha := act_puts 134 rfl hsz hdf hk [109, 110, 111, 112, 113, 114, 115, 116, 117, 118, 119, 120, 121, 122, 123, 124, 125, 126, 127, 128, 129, 130, 131, 132, 133, 4] (by decide +kernel)
                simp only [puts, List.foldl_cons, List.foldl_nil, e109, e110, e111, e112, e113, e114, e115, e116, e117, e118, e119, e120, e121, e122, e123, e124, e125, e126, e127, e128, e129, e130, e131, e132, e133, e4] at ha
                simp only [Act.put, List.setIfInBounds_toArray, List.set_cons_succ, List.set_cons_zero] at ha
                clear hall hk hsz hdf e109 e110 e111 e112 e113 e114 e115 e116 e117 e118 e119 e120 e121 e122 e123 e124 e125 e126 e127 e128 e129 e130 e131 e132 e133 e4
                subst ha
                have L6 : Hid (Below N w w6) := (show _ from LL.out.trans (hg.below GG.out))
                clear hg
                go_wp2_with fail
                go_ret
                exact ⟨rfl, L6.out⟩
#print axioms trieOrder_any
end Go.Proofs.YtnomlnedincfjaaDoor
