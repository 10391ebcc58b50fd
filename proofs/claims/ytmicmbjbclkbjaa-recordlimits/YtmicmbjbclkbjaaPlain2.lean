/-
  Plain mathematics: a number's bytes are those that were read just if the first is not 0 and it is no short one.
-/
import Derived.Test.YtmicmbjbclkbjaaPlain
namespace Go.Proofs.Ytmicmbjbclkbjaa

theorem val_pos_of {l : List UInt8} (f : Nat) (h : dg f (val l) = l) (hl : l ≠ []) : 0 < val l := by
  rcases Nat.eq_zero_or_pos (val l) with h0 | h0
  · rw [h0, dg_zero] at h
    exact absurd h.symm hl
  · exact h0

theorem ofNat_add (m : Nat) (y : UInt8) : UInt8.ofNat (m * 256 + y.toNat) = y := by
  apply UInt8.toNat_inj.1
  simp

theorem dg_val_rev : ∀ (l : List UInt8) (f : Nat), l.length ≤ f → l.getLast? ≠ some 0 → dg f (val l.reverse) = l.reverse
  | [], f, _, _ => by simp [val, dg_zero]
  | y :: t, 0, h, _ => by simp at h
  | y :: t, f + 1, h, hh => by
    have hy := y.toNat_lt
    rw [List.reverse_cons, val_snoc]
    by_cases ht : t = []
    · subst ht
      have hy0 : 0 < y.toNat := by
        rcases Nat.eq_zero_or_pos y.toNat with h0 | h0
        · refine absurd ?_ hh
          have : y = 0 := UInt8.toNat_inj.1 (by simpa using h0)
          simp [this]
        · exact h0
      have e : val ([] : List UInt8).reverse = 0 := rfl
      rw [e, dg_step f _ (by omega), ofNat_add]
      rw [show (0 * 256 + y.toNat) / 256 = 0 from by omega, dg_zero]
      rfl
    · have ih := dg_val_rev t f (by simpa using h) (by rw [List.getLast?_cons] at hh; cases hg : t.getLast? with
        | none => simp
        | some z => rw [hg] at hh; simpa using hh)
      have hp := val_pos_of f ih (by simpa using ht)
      rw [dg_step f _ (by omega), ofNat_add, show (val t.reverse * 256 + y.toNat) / 256 = val t.reverse from by omega, ih]

theorem dg_val (l : List UInt8) (f : Nat) (h : l.length ≤ f) (hh : l.head? ≠ some 0) : dg f (val l) = l := by
  have := dg_val_rev l.reverse f (by simpa using h) (by simpa using hh)
  simpa using this

theorem dg_ne_nil (f n : Nat) (h : n < 256 ^ f) (hn : 0 < n) : dg f n ≠ [] := by
  cases f with
  | zero => simp at h; omega
  | succ f => rw [dg_step f n hn]; simp

theorem dg_head : ∀ (f n : Nat), n < 256 ^ f → (dg f n).head? ≠ some 0
  | 0, n, _ => by simp [dg]
  | f + 1, n, h => by
    rcases Nat.eq_zero_or_pos n with h0 | h0
    · subst h0; simp [dg]
    · rw [dg_step f n h0]
      have hs := pow_step f n h
      rcases Nat.eq_zero_or_pos (n / 256) with h1 | h1
      · rw [h1, dg_zero]
        simp
        intro e
        have := congrArg UInt8.toNat e
        simp at this
        omega
      · have ih := dg_head f (n / 256) hs
        have hne := dg_ne_nil f (n / 256) hs h1
        rw [List.head?_append]
        cases hd : (dg f (n / 256)).head? with
        | none => simp at hd; exact absurd hd hne
        | some z => rw [hd] at ih; simpa using ih

theorem val_dg : ∀ (f n : Nat), n < 256 ^ f → val (dg f n) = n
  | 0, n, h => by simp at h; subst h; rfl
  | f + 1, n, h => by
    rcases Nat.eq_zero_or_pos n with h0 | h0
    · subst h0; rw [dg_zero]; rfl
    · rw [dg_step f n h0, val_snoc, val_dg f (n / 256) (pow_step f n h)]
      simp
      omega

theorem enc_iff {x : UInt8} {d : List UInt8} {k n : Nat} (hx : x.toNat = 247 + k) (hk1 : 1 ≤ k) (hk8 : k ≤ 8) (hdl : d.length = k) (hn : val d = n) :
    enc n = x :: d ↔ d.head? ≠ some 0 ∧ 248 ≤ n := by
  have hlt : n < 256 ^ 8 := by
    subst hn
    refine Nat.lt_of_lt_of_le (val_lt d) ?_
    rw [hdl]
    exact Nat.pow_le_pow_right (by decide) hk8
  constructor
  · intro h
    have h248 : 248 ≤ n := by
      rcases Nat.lt_or_ge n 248 with h1 | h1
      · rw [enc_short h1] at h
        simp at h
        have := h.2
        subst this
        simp at hdl
        omega
      · exact h1
    rw [enc_long h248] at h
    simp only [List.cons.injEq] at h
    rw [← h.2]
    exact ⟨dg_head 8 n hlt, h248⟩
  · rintro ⟨h1, h2⟩
    have e := dg_val d 8 (by omega) h1
    rw [hn] at e
    rw [enc_long h2, e, hdl]
    congr 1
    apply UInt8.toNat_inj.1
    simp
    omega

theorem gn_ok {l : List UInt8} {n k : Nat} (h : gn l = (n, k, true)) : 1 ≤ k ∧ k ≤ 9 ∧ k ≤ l.length ∧ n < 256 ^ 8 ∧ enc n = l.take k := by
  have hp : (256 : Nat) ^ 8 = 18446744073709551616 := by decide
  cases l with
  | nil => simp [gn] at h
  | cons x r =>
    have hx := x.toNat_lt
    by_cases h1 : x.toNat < 248
    · simp only [gn] at h
      rw [if_pos h1] at h
      simp only [Prod.mk.injEq, and_true] at h
      obtain ⟨rfl, rfl⟩ := h
      refine ⟨by omega, by omega, by simp, by omega, ?_⟩
      rw [enc_short h1]
      simp
    · simp only [gn] at h
      rw [if_neg h1] at h
      by_cases h2 : r.length < x.toNat - 247
      · rw [if_pos h2] at h; simp at h
      · rw [if_neg h2] at h
        by_cases h3 : enc (val (r.take (x.toNat - 247))) = x :: r.take (x.toNat - 247)
        · rw [if_pos h3] at h
          simp only [Prod.mk.injEq, and_true] at h
          obtain ⟨rfl, rfl⟩ := h
          refine ⟨by omega, by omega, by simp; omega, ?_, ?_⟩
          · refine Nat.lt_of_lt_of_le (val_lt _) (Nat.pow_le_pow_right (by decide) ?_)
            simp
            omega
          · rw [h3, show x.toNat - 246 = (x.toNat - 247) + 1 from by omega]
            rfl
        · rw [if_neg h3] at h; simp at h

theorem gn_no {l : List UInt8} (h : (gn l).2.2 = false) : gn l = (0, 0, false) := by
  cases l with
  | nil => rfl
  | cons x r =>
    simp only [gn] at h ⊢
    by_cases h1 : x.toNat < 248
    · rw [if_pos h1] at h; simp at h
    · rw [if_neg h1] at h ⊢
      by_cases h2 : r.length < x.toNat - 247
      · rw [if_pos h2]
      · rw [if_neg h2] at h ⊢
        by_cases h3 : enc (val (r.take (x.toNat - 247))) = x :: r.take (x.toNat - 247)
        · rw [if_pos h3] at h; simp at h
        · rw [if_neg h3]

theorem gn_cases (l : List UInt8) : gn l = (0, 0, false) ∨ ∃ n k, gn l = (n, k, true) := by
  rcases hg : gn l with ⟨n, k, ok⟩
  cases ok with
  | false => left; rw [← hg]; exact gn_no (by rw [hg])
  | true => right; exact ⟨n, k, rfl⟩

/-- What the text at the begin of bytes is, of at most m bytes: the text, how many bytes it has, whether there is one. -/
def gs (l : List UInt8) (m : Nat) : List UInt8 × Nat × Bool :=
  if (gn l).2.2 = true ∧ (gn l).1 ≤ m ∧ (gn l).1 + (gn l).2.1 ≤ l.length then ((l.drop (gn l).2.1).take (gn l).1, (gn l).2.1 + (gn l).1, true) else ([], 0, false)
theorem gs_yes {l : List UInt8} {m n k : Nat} (h : gn l = (n, k, true)) (h1 : n ≤ m) (h2 : n + k ≤ l.length) : gs l m = ((l.drop k).take n, k + n, true) := by
  unfold gs; rw [h]; exact if_pos ⟨rfl, h1, h2⟩
theorem gs_no {l : List UInt8} {m n k : Nat} {ok : Bool} (h : gn l = (n, k, ok)) (h1 : ¬ (ok = true ∧ n ≤ m ∧ n + k ≤ l.length)) : gs l m = ([], 0, false) := by
  unfold gs; rw [h]; exact if_neg h1

/-- What the truth at the begin of bytes is. -/
def gf : List UInt8 → Bool × Nat × Bool
  | [] => (false, 0, false)
  | x :: _ => if 1 < x.toNat then (false, 0, false) else (decide (x.toNat = 1), 1, true)

theorem encT_take (l : List (List UInt8)) (i : Nat) (h : i < l.length) : encT (l.take (i + 1)) = encT (l.take i) ++ encS l[i] := by
  rw [List.take_succ_eq_append_getElem h, encT_append]
  simp [encT]
theorem encT_take_le (l : List (List UInt8)) (i : Nat) : (encT (l.take i)).length ≤ (encT l).length := by
  have h := congrArg (fun x => (encT x).length) (List.take_append_drop i l)
  simp only [encT_append, List.length_append] at h
  omega

theorem gs_cases (l : List UInt8) (m : Nat) : gs l m = ([], 0, false) ∨ ∃ t k, gs l m = (t, k, true) ∧ k ≤ l.length ∧ 1 ≤ k ∧ l.take k = encS t ∧ t.length ≤ m := by
  by_cases h : (gn l).2.2 = true ∧ (gn l).1 ≤ m ∧ (gn l).1 + (gn l).2.1 ≤ l.length
  · right
    rcases hg : gn l with ⟨n, k, ok⟩
    rw [hg] at h
    obtain ⟨h0, h1, h2⟩ := h
    simp only at h0 h1 h2
    subst h0
    obtain ⟨hk1, hk9, hkl, hn8, he⟩ := gn_ok hg
    refine ⟨_, _, gs_yes hg h1 h2, by omega, by omega, ?_, by simp; omega⟩
    unfold encS
    rw [show ((l.drop k).take n).length = n from by simp; omega, he, List.take_add]
  · left
    unfold gs
    exact if_neg h

/-- The texts that stand from place k on, i of them, and where they end. -/
def gl (l : List UInt8) (m k : Nat) : Nat → Option (List (List UInt8) × Nat)
  | 0 => some ([], k)
  | i + 1 => match gl l m k i with
    | some (ts, x) => if (gs (l.drop x) m).2.2 = true then some (ts ++ [(gs (l.drop x) m).1], x + (gs (l.drop x) m).2.1) else none
    | none => none
theorem gl_yes {l : List UInt8} {m k i x y : Nat} {ts : List (List UInt8)} {t : List UInt8} (h : gl l m k i = some (ts, x)) (hg : gs (l.drop x) m = (t, y, true)) : gl l m k (i + 1) = some (ts ++ [t], x + y) := by
  simp only [gl, h, hg, if_true]
theorem gl_no {l : List UInt8} {m k i x : Nat} {ts : List (List UInt8)} (h : gl l m k i = some (ts, x)) (hg : gs (l.drop x) m = ([], 0, false)) : gl l m k (i + 1) = none := by
  simp [gl, h, hg]
theorem gl_none {l : List UInt8} {m k i : Nat} (h : gl l m k i = none) : ∀ j, i ≤ j → gl l m k j = none
  | 0, hj => by have : i = 0 := by omega
                subst this; exact h
  | j + 1, hj => by
    rcases Nat.lt_or_ge i (j + 1) with h1 | h1
    · simp only [gl, gl_none h j (by omega)]
    · have : i = j + 1 := by omega
      subst this; exact h
theorem gl_ok {l : List UInt8} {m k : Nat} (hk : k ≤ l.length) (hk1 : 1 ≤ k) : ∀ {i x : Nat} {ts : List (List UInt8)}, gl l m k i = some (ts, x) → x ≤ l.length ∧ 1 ≤ x ∧ ts.length = i ∧ i + k ≤ x ∧ l.take x = l.take k ++ encT ts ∧ (∀ t ∈ ts, t.length ≤ m)
  | 0, x, ts, h => by
    simp only [gl, Option.some.injEq, Prod.mk.injEq] at h
    obtain ⟨rfl, rfl⟩ := h
    exact ⟨hk, hk1, rfl, by omega, by simp [encT], by simp⟩
  | i + 1, x, ts, h => by
    cases hp : gl l m k i with
    | none => simp [gl, hp] at h
    | some q =>
      obtain ⟨us, y⟩ := q
      obtain ⟨h1, h2, h3, h4, h5, h6⟩ := gl_ok hk hk1 hp
      rcases gs_cases (l.drop y) m with hg | ⟨t, z, hg, hz, hz1, hz2, hz3⟩
      · rw [gl_no hp hg] at h; cases h
      · rw [gl_yes hp hg] at h
        simp only [Option.some.injEq, Prod.mk.injEq] at h
        obtain ⟨rfl, rfl⟩ := h
        simp only [List.length_drop] at hz
        refine ⟨by omega, by omega, by simp [h3], by omega, ?_, ?_⟩
        · rw [List.take_add, h5, hz2, encT_append]
          simp [encT]
        · intro u hu
          rcases List.mem_append.1 hu with hu | hu
          · exact h6 u hu
          · simp at hu; subst hu; exact hz3

/-- What the list at the begin of bytes is, of at most c texts of at most m bytes. -/
def gL (l : List UInt8) (c m : Nat) : List (List UInt8) × Nat × Bool :=
  if (gn l).2.2 = true ∧ (gn l).1 ≤ c then match gl l m (gn l).2.1 (gn l).1 with
    | some (ts, x) => (ts, x, true)
    | none => ([], 0, false)
  else ([], 0, false)
theorem gL_no {l : List UInt8} {c m n k : Nat} {ok : Bool} (h : gn l = (n, k, ok)) (h1 : ¬ (ok = true ∧ n ≤ c)) : gL l c m = ([], 0, false) := by
  unfold gL; rw [h]; exact if_neg h1
theorem gL_none {l : List UInt8} {c m n k : Nat} (h : gn l = (n, k, true)) (hg : gl l m k n = none) : gL l c m = ([], 0, false) := by
  unfold gL; rw [h]; simp only [hg]; split <;> rfl
theorem gL_yes {l : List UInt8} {c m n k x : Nat} {ts : List (List UInt8)} (h : gn l = (n, k, true)) (hn : n ≤ c) (hg : gl l m k n = some (ts, x)) : gL l c m = (ts, x, true) := by
  unfold gL; rw [h, if_pos ⟨rfl, hn⟩]; simp only [hg]
end Go.Proofs.Ytmicmbjbclkbjaa
