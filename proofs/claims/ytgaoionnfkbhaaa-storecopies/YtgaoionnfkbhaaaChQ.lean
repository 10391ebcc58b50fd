/-
  What follows, plain: trimmed versions tell the same; what is put is there; cut versions tell what they told.
-/
import Derived.Test.YtgaoionnfkbhaaaChJ
namespace Go.Proofs.Ytgaoionnfkbhaaa
theorem gd_mono : ∀ {L : List Ver} {a b : Int}, b ≤ a → gd a L = true → gd b L = true
  | [], _, _, _, _ => rfl
  | v :: L, a, b, hab, h => by
    rw [gd, Bool.and_eq_true] at h ⊢
    refine ⟨?_, h.2⟩
    have h1 := h.1
    unfold fol at h1 ⊢
    simp only [Bool.and_eq_true, decide_eq_true_eq] at h1 ⊢
    exact ⟨by omega, h1.2⟩
theorem gd_drop : ∀ {L : List Ver} {a : Int} (k : Nat), gd a L = true → gd a (L.drop k) = true
  | [], _, _, _ => by simp [gd]
  | v :: L, a, 0, h => h
  | v :: L, a, k + 1, h => by
    have hr := (gd_rise h).2 v (by simp)
    rw [gd, Bool.and_eq_true] at h
    rw [List.drop_succ_cons]
    exact gd_mono (Int.le_of_lt hr) (gd_drop k h.2)
theorem gd_take : ∀ {L : List Ver} {a : Int} (k : Nat), gd a L = true → gd a (L.take k) = true
  | [], _, _, _ => by simp [gd]
  | v :: L, a, 0, h => rfl
  | v :: L, a, k + 1, h => by
    rw [gd, Bool.and_eq_true] at h
    rw [List.take_succ_cons, gd, Bool.and_eq_true]
    exact ⟨h.1, gd_take k h.2⟩
theorem gd_snoc (v : Ver) : ∀ (L : List Ver) (a : Int), gd a (L ++ [v]) = (gd a L && fol v ((L.getLast?.map (·.1)).getD a))
  | [], a => by simp [gd]
  | [u], a => by simp [gd]
  | u :: t :: L, a => by
    have ih := gd_snoc v (t :: L) u.1
    have e1 : gd a (u :: (t :: L)) = (fol u a && gd u.1 (t :: L)) := rfl
    have e2 : gd a (u :: (t :: L) ++ [v]) = (fol u a && gd u.1 (t :: L ++ [v])) := rfl
    rw [e1, e2, ih, Bool.and_assoc, List.getLast?_cons_cons]
    cases e : (t :: L).getLast? with
    | none => simp at e
    | some y => rfl
theorem upto_append (n : Int) (A B : List Ver) : upto n (A ++ B) = upto n A ++ upto n B := List.filter_append _ _
theorem past_append (n : Int) (A B : List Ver) : past n (A ++ B) = past n A ++ past n B := List.filter_append _ _
theorem upto_all {n : Int} {A : List Ver} (h : ∀ v ∈ A, v.1 ≤ n) : upto n A = A := by
  unfold upto
  rw [List.filter_eq_self]
  intro v hv
  simpa using h v hv
theorem upto_no {n : Int} {A : List Ver} (h : ∀ v ∈ A, n < v.1) : upto n A = [] := by
  unfold upto
  rw [List.filter_eq_nil_iff]
  intro v hv
  have := h v hv
  simp
  omega
theorem past_all {n : Int} {A : List Ver} (h : ∀ v ∈ A, n < v.1) : past n A = A := by
  unfold past
  rw [List.filter_eq_self]
  intro v hv
  simpa using h v hv
theorem past_no {n : Int} {A : List Ver} (h : ∀ v ∈ A, v.1 ≤ n) : past n A = [] := by
  unfold past
  rw [List.filter_eq_nil_iff]
  intro v hv
  have := h v hv
  simp
  omega
theorem mem_upto {n : Int} {A : List Ver} {v : Ver} (h : v ∈ upto n A) : v.1 ≤ n := by
  unfold upto at h
  rw [List.mem_filter] at h
  simpa using h.2
theorem mem_past {n : Int} {A : List Ver} {v : Ver} (h : v ∈ past n A) : n < v.1 := by
  unfold past at h
  rw [List.mem_filter] at h
  simpa using h.2
theorem mem_live {M : List Ver} {v : Ver} (h : v ∈ liveL M) : v ∈ M := by
  unfold liveL at h
  cases e : M.getLast? with
  | none => rw [e] at h; simp at h
  | some u =>
    rw [e] at h
    simp only at h
    split at h
    · simp at h
    · rw [List.mem_singleton] at h
      subst h
      exact List.mem_of_getLast? e
theorem live_live (M : List Ver) : liveL (liveL M) = liveL M := by
  unfold liveL
  cases e : M.getLast? with
  | none => rfl
  | some u =>
    cases hd : u.2.2 <;> simp [hd]
theorem trimP_eq {L : List Ver} (h : gd 0 L = true) (n : Int) : trimP L n = liveL (upto n L) ++ past n L := by unfold trimP; rw [if_pos h]
theorem cutP_eq {L : List Ver} (h : gd 0 L = true) (n : Int) : cutP L n = upto n L := by unfold cutP; rw [if_pos h]
theorem trim_good {L : List Ver} (h : gd 0 L = true) (n : Int) : gd 0 (trimP L n) = true := by rw [trimP_drop h]; exact gd_drop _ h
theorem trim_upto {L : List Ver} (h : gd 0 L = true) {n m : Int} (hm : n ≤ m) : upto m (trimP L n) = liveL (upto n L) ++ upto m (past n L) ∧ upto m L = upto n L ++ upto m (past n L) := by
  have hr := (gd_rise h).1
  constructor
  · unfold trimP
    rw [if_pos h, upto_append, upto_all (A := liveL (upto n L)) (fun v hv => Int.le_trans (mem_upto (mem_live hv)) hm)]
  · conv => lhs; rw [split_rise n hr]
    rw [upto_append, upto_all (A := upto n L) (fun v hv => Int.le_trans (mem_upto hv) hm)]
theorem trim_get {L : List Ver} (h : gd 0 L = true) {n m : Int} (hm : n ≤ m) : getP (trimP L n) m = getP L m := by
  obtain ⟨e1, e2⟩ := trim_upto h hm
  unfold getP
  rw [if_pos h, if_pos (trim_good h n), e1, e2]
  cases e : (upto m (past n L)).getLast? with
  | some v => rw [List.getLast?_append, List.getLast?_append, e]; rfl
  | none =>
    rw [List.getLast?_append, List.getLast?_append, e]
    simp only [Option.none_or]
    unfold liveL
    cases e4 : (upto n L).getLast? with
    | none => rfl
    | some v => cases hd : v.2.2 <;> simp [hd]
theorem trim_past {L : List Ver} (h : gd 0 L = true) {n m : Int} (hm : n ≤ m) : past m (trimP L n) = past m L := by
  have hr := (gd_rise h).1
  conv => rhs; rw [split_rise n hr]
  unfold trimP
  rw [if_pos h, past_append, past_append, past_no (A := liveL (upto n L)) (fun v hv => Int.le_trans (mem_upto (mem_live hv)) hm), past_no (A := upto n L) (fun v hv => Int.le_trans (mem_upto hv) hm)]
theorem trim_since {L : List Ver} (h : gd 0 L = true) {n m : Int} (hm : n ≤ m) : sinceP (trimP L n) m = sinceP L m := by
  unfold sinceP
  rw [if_pos h, if_pos (trim_good h n), trim_past h hm]
theorem trim_trim {L : List Ver} (h : gd 0 L = true) (n : Int) : trimP (trimP L n) n = trimP L n := by
  have e1 : upto n (trimP L n) = liveL (upto n L) := by
    rw [(trim_upto h (Int.le_refl n)).1, upto_no (A := past n L) (fun v hv => mem_past hv), List.append_nil]
  have e2 := trim_past h (Int.le_refl n)
  rw [trimP_eq (trim_good h n), e1, e2, live_live, trimP_eq h]
theorem cut_good {L : List Ver} (h : gd 0 L = true) (n : Int) : gd 0 (cutP L n) = true := by
  have e : cutP L n = L.take (upto n L).length := by unfold cutP; rw [if_pos h, take_upto (gd_rise h).1]
  rw [e]
  exact gd_take _ h
theorem cut_get {L : List Ver} (h : gd 0 L = true) {n m : Int} (hm : m ≤ n) : getP (cutP L n) m = getP L m := by
  have hg := cut_good h n
  have e : upto m (cutP L n) = upto m L := by
    unfold cutP
    rw [if_pos h]
    conv => rhs; rw [split_rise n (gd_rise h).1]
    rw [upto_append, upto_no (A := past n L) (fun v hv => Int.lt_of_le_of_lt hm (mem_past hv)), List.append_nil]
  unfold getP
  rw [if_pos h, if_pos hg, e]
theorem cut_last {L : List Ver} (h : gd 0 L = true) {n : Int} (hp : 0 < (cutP L n).length) : lst (cutP L n) ≤ n := by
  rw [lst_good (cut_good h n) hp]
  have hm : ∀ v ∈ cutP L n, v.1 ≤ n := fun v hv => by rw [cutP_eq h] at hv; exact mem_upto hv
  exact hm _ (List.getElem_mem _)
theorem cut_since {L : List Ver} (h : gd 0 L = true) (n : Int) : sinceP (cutP L n) n = 0 := by
  unfold sinceP
  rw [if_pos (cut_good h n)]
  unfold cutP
  rw [if_pos h, past_no (fun v hv => mem_upto hv)]
  rfl
theorem cut_len {L : List Ver} (h : gd 0 L = true) (n : Int) : (cutP L n).length + sinceP L n = L.length := by
  have := congrArg List.length (split_rise n (gd_rise h).1)
  rw [List.length_append] at this
  unfold sinceP cutP
  rw [if_pos h, if_pos h]
  omega
theorem put_facts {L : List Ver} {v : Ver} (h : putOk L v = true) : gd 0 L = true ∧ gd 0 (L ++ [v]) = true ∧ (∀ u ∈ L, u.1 ≤ lst L) ∧ lst L < v.1 := by
  unfold putOk at h
  rw [Bool.and_eq_true] at h
  obtain ⟨hg, hf⟩ := h
  have hl : lst L = (L.getLast?.map (·.1)).getD 0 := by unfold lst; rw [if_pos hg]
  have h2 : gd 0 (L ++ [v]) = true := by rw [gd_snoc, hg, ← hl, hf]; rfl
  have hlt : lst L < v.1 := by
    unfold fol at hf
    simp only [Bool.and_eq_true, decide_eq_true_eq] at hf
    exact hf.1
  refine ⟨hg, h2, fun u hu => ?_, hlt⟩
  have hp : 0 < L.length := List.length_pos_of_mem hu
  rw [lst_good hg hp]
  obtain ⟨i, hi, rfl⟩ := List.getElem_of_mem hu
  have hr : L.Pairwise fun a b => a.1 < b.1 := (gd_rise hg).1
  rcases Nat.lt_or_ge i (L.length - 1) with h | h
  · exact Int.le_of_lt ((List.pairwise_iff_getElem.1 hr) i (L.length - 1) hi (by omega) h)
  · have : i = L.length - 1 := by omega
    subst this
    exact Int.le_refl _
theorem put_get {L : List Ver} {v : Ver} (h : putOk L v = true) : getP (L ++ [v]) v.1 = if v.2.2 = true then (zv, false) else (v, true) := by
  obtain ⟨hg, h2, h3, h4⟩ := put_facts h
  refine getP_some h2 ?_
  rw [upto_all (fun u hu => ?_)]
  · simp
  · rcases List.mem_append.1 hu with hu | hu
    · have := h3 u hu
      omega
    · rw [List.mem_singleton] at hu
      subst hu
      exact Int.le_refl _
theorem put_old {L : List Ver} {v : Ver} (h : putOk L v = true) {n : Int} (hn : n < v.1) : getP (L ++ [v]) n = getP L n := by
  obtain ⟨hg, h2, h3, h4⟩ := put_facts h
  unfold getP
  rw [if_pos h2, if_pos hg, upto_append, upto_no (A := [v]) (fun u hu => by rw [List.mem_singleton] at hu; subst hu; exact hn), List.append_nil]
theorem put_last {L : List Ver} {v : Ver} (h : putOk L v = true) : lst (L ++ [v]) = v.1 := by
  obtain ⟨hg, h2, h3, h4⟩ := put_facts h
  unfold lst
  rw [if_pos h2]
  simp
theorem put_cut {L : List Ver} {v : Ver} (h : putOk L v = true) : cutP (L ++ [v]) (lst L) = L := by
  obtain ⟨hg, h2, h3, h4⟩ := put_facts h
  unfold cutP
  rw [if_pos h2, upto_append, upto_all h3, upto_no (A := [v]) (fun u hu => by rw [List.mem_singleton] at hu; subst hu; exact h4), List.append_nil]
end Go.Proofs.Ytgaoionnfkbhaaa
