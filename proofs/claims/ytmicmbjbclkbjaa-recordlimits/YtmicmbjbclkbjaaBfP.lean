/-
  A buffer, plain: pairs by keys, one more, one list laid over another.
-/
import Derived.Test.YtmicmbjbclkbjaaGen9
namespace Go.Proofs.Ytmicmbjbclkbjaa
open Go.RowKit
theorem ba_inj {s t : ByteArray} : s.toList = t.toList ↔ s = t := by
  rw [ByteArray.toList_eq, ByteArray.toList_eq]
  obtain ⟨⟨x⟩⟩ := s
  obtain ⟨⟨y⟩⟩ := t
  simp
/-- A pair: its key, its value, whether it is dead. -/
abbrev Pr : Type := ByteArray × ByteArray × Bool
def em : ByteArray := ⟨#[]⟩
def lt (a b : ByteArray) : Bool := Op.bytesLess a.toList b.toList
theorem less_irrefl : ∀ (x : List UInt8), Op.bytesLess x x = false
  | [] => rfl
  | a :: x => by simp [Op.bytesLess, less_irrefl x]
theorem less_trans : ∀ {x y z : List UInt8}, Op.bytesLess x y = true → Op.bytesLess y z = true → Op.bytesLess x z = true
  | x, [], z, h, _ => by cases x <;> simp [Op.bytesLess] at h
  | x, b :: y, [], _, h => by simp [Op.bytesLess] at h
  | [], b :: y, c :: z, _, _ => rfl
  | a :: x, b :: y, c :: z, h, k => by
    simp only [Op.bytesLess, Bool.or_eq_true, decide_eq_true_eq, Bool.and_eq_true, beq_iff_eq] at h k ⊢
    rcases h with h | ⟨rfl, h⟩
    · rcases k with k | ⟨rfl, k⟩
      · exact .inl (UInt8.lt_trans h k)
      · exact .inl h
    · rcases k with k | ⟨rfl, k⟩
      · exact .inl k
      · exact .inr ⟨rfl, less_trans h k⟩
theorem less_total : ∀ {x y : List UInt8}, Op.bytesLess x y = false → Op.bytesLess y x = false → x = y
  | [], [], _, _ => rfl
  | [], b :: y, h, _ => by simp [Op.bytesLess] at h
  | a :: x, [], _, h => by simp [Op.bytesLess] at h
  | a :: x, b :: y, h, k => by
    simp only [Op.bytesLess, Bool.or_eq_false_iff, decide_eq_false_iff_not, Bool.and_eq_false_imp, beq_iff_eq] at h k
    have e : a = b := by
      have h1 := h.1
      have h2 := k.1
      rw [UInt8.lt_iff_toNat_lt] at h1 h2
      exact UInt8.toNat_inj.1 (by omega)
    subst e
    rw [less_total (h.2 rfl) (k.2 rfl)]
theorem lt_irrefl (a : ByteArray) : lt a a = false := less_irrefl _
theorem lt_trans {a b c : ByteArray} (h : lt a b = true) (k : lt b c = true) : lt a c = true := less_trans h k
theorem lt_total {a b : ByteArray} (h : lt a b = false) (k : lt b a = false) : a = b := ba_inj.1 (less_total h k)
theorem lt_asymm {a b : ByteArray} (h : lt a b = true) : lt b a = false := by
  cases hq : lt b a with
  | false => rfl
  | true => have := lt_trans h hq; rw [lt_irrefl] at this; cases this
theorem lt_ne {a b : ByteArray} (h : lt a b = true) : a ≠ b := fun e => by rw [e, lt_irrefl] at h; cases h
/-- Not below, not above a smaller one: chains of order. -/
theorem lt_of_not {a b c : ByteArray} (h : lt a b = true) (k : lt c b = false) : lt a c = true := by
  cases hq : lt b c with
  | true => exact lt_trans h hq
  | false => rwa [lt_total k hq]
theorem em_list : em.toList = [] := by rw [ByteArray.toList_eq]; rfl
theorem lt_em (a : ByteArray) : lt em a = !a.toList.isEmpty := by
  unfold lt
  rw [em_list]
  cases a.toList <;> rfl
theorem not_lt_em (a : ByteArray) : lt a em = false := by
  unfold lt
  rw [em_list]
  cases a.toList <;> rfl
/-- Keys rise. -/
def Bs (L : List Pr) : Prop := L.Pairwise fun a b => lt a.1 b.1 = true
/-- What was written of a key. -/
def getB : List Pr → ByteArray → Option Pr
  | [], _ => none
  | p :: L, k => if p.1 = k then some p else getB L k
/-- With one pair more. -/
def insB (p : Pr) : List Pr → List Pr
  | [] => [p]
  | q :: L => if lt q.1 p.1 = true then q :: insB p L else if q.1 = p.1 then p :: L else p :: q :: L
theorem getB_key : ∀ {L : List Pr} {k : ByteArray} {p : Pr}, getB L k = some p → p.1 = k ∧ p ∈ L
  | [], _, _, h => by cases h
  | q :: L, k, p, h => by
    unfold getB at h
    by_cases hq : q.1 = k
    · rw [if_pos hq] at h
      cases h
      exact ⟨hq, by simp⟩
    · rw [if_neg hq] at h
      obtain ⟨h1, h2⟩ := getB_key h
      exact ⟨h1, by simp [h2]⟩
theorem getB_none : ∀ {L : List Pr} {k : ByteArray}, (∀ p ∈ L, p.1 ≠ k) → getB L k = none
  | [], _, _ => rfl
  | q :: L, k, h => by
    unfold getB
    rw [if_neg (h q (by simp))]
    exact getB_none fun p hp => h p (by simp [hp])
theorem getB_mem : ∀ {L : List Pr} {p : Pr}, Bs L → p ∈ L → getB L p.1 = some p
  | [], _, _, h => by cases h
  | q :: L, p, hs, h => by
    obtain ⟨h1, h2⟩ := List.pairwise_cons.1 hs
    unfold getB
    rcases List.mem_cons.1 h with rfl | h
    · rw [if_pos rfl]
    · rw [if_neg (lt_ne (h1 p h))]
      exact getB_mem h2 h
theorem insB_mem : ∀ {L : List Pr} {p q : Pr}, q ∈ insB p L → q = p ∨ q ∈ L
  | [], p, q, h => by simpa [insB] using h
  | r :: L, p, q, h => by
    unfold insB at h
    split at h
    · rcases List.mem_cons.1 h with rfl | h
      · exact .inr (by simp)
      · rcases insB_mem h with e | e
        · exact .inl e
        · exact .inr (by simp [e])
    · split at h
      · rcases List.mem_cons.1 h with e | h
        · exact .inl e
        · exact .inr (by simp [h])
      · rcases List.mem_cons.1 h with e | h
        · exact .inl e
        · exact .inr h
theorem insB_srt : ∀ {L : List Pr} {p : Pr}, Bs L → Bs (insB p L)
  | [], p, _ => List.pairwise_singleton _ _
  | r :: L, p, hs => by
    obtain ⟨h1, h2⟩ := List.pairwise_cons.1 hs
    unfold insB
    split
    · rename_i hr
      refine List.pairwise_cons.2 ⟨fun q hq => ?_, insB_srt h2⟩
      rcases insB_mem hq with rfl | e
      · exact hr
      · exact h1 q e
    · rename_i hr
      split
      · rename_i he
        exact List.pairwise_cons.2 ⟨fun q hq => by rw [← he]; exact h1 q hq, h2⟩
      · rename_i he
        have hlt : lt p.1 r.1 = true := by
          cases hq : lt p.1 r.1 with
          | true => rfl
          | false => exact absurd (lt_total (by simpa using hr) hq) he
        refine List.pairwise_cons.2 ⟨fun q hq => ?_, hs⟩
        rcases List.mem_cons.1 hq with rfl | e
        · exact hlt
        · exact lt_trans hlt (h1 q e)
theorem insB_get : ∀ {L : List Pr} {p : Pr} {k : ByteArray}, Bs L → getB (insB p L) k = if p.1 = k then some p else getB L k
  | [], p, k, _ => by simp [insB, getB]
  | r :: L, p, k, hs => by
    obtain ⟨h1, h2⟩ := List.pairwise_cons.1 hs
    have ih := insB_get (p := p) (k := k) h2
    unfold insB
    split
    · rename_i hr
      rw [getB, getB, ih]
      by_cases hk : r.1 = k
      · rw [if_pos hk, if_pos hk, if_neg]
        intro e
        rw [← e] at hk
        exact lt_ne hr hk
      · rw [if_neg hk, if_neg hk]
    · split
      · rename_i he
        rw [getB, getB]
        by_cases hk : p.1 = k
        · rw [if_pos hk, if_pos hk]
        · rw [if_neg hk, if_neg hk, if_neg (by rw [he]; exact hk)]
      · rw [getB]
theorem insB_len : ∀ {L : List Pr} {p : Pr}, Bs L → (insB p L).length = if (getB L p.1).isSome = true then L.length else L.length + 1
  | [], p, _ => by simp [insB, getB]
  | r :: L, p, hs => by
    obtain ⟨h1, h2⟩ := List.pairwise_cons.1 hs
    have ih := insB_len (p := p) h2
    unfold insB
    split
    · rename_i hr
      rw [getB, if_neg (lt_ne hr), List.length_cons, ih]
      split <;> simp
    · rename_i hr
      split
      · rename_i he
        rw [getB, if_pos he]
        simp
      · rename_i he
        rw [getB, if_neg he]
        have hlt : lt p.1 r.1 = true := by
          cases hq : lt p.1 r.1 with
          | true => rfl
          | false => exact absurd (lt_total (by simpa using hr) hq) he
        rw [getB_none fun q hq => fun e => by
          have := lt_trans hlt (h1 q hq)
          rw [e, lt_irrefl] at this
          cases this]
        simp
/-- How many keys are below one. -/
def lbB (L : List Pr) (k : ByteArray) : Nat := (L.takeWhile fun p => lt p.1 k).length
theorem lbB_le (L : List Pr) (k : ByteArray) : lbB L k ≤ L.length := (List.takeWhile_sublist _).length_le
theorem lbB_below : ∀ {L : List Pr} {k : ByteArray} {i : Nat} (hi : i < L.length), i < lbB L k → lt L[i].1 k = true
  | [], _, _, hi, _ => by simp at hi
  | p :: L, k, i, hi, h => by
    unfold lbB at h
    rw [List.takeWhile_cons] at h
    split at h
    · rename_i hp
      cases i with
      | zero => exact hp
      | succ i => exact lbB_below (L := L) (by simpa using hi) (by simpa [lbB] using h)
    · simp at h
theorem lbB_at : ∀ {L : List Pr} {k : ByteArray} (hi : lbB L k < L.length), lt (L[lbB L k]).1 k = false
  | [], _, hi => by simp at hi
  | p :: L, k, hi => by
    cases hp : lt p.1 k with
    | false =>
      have e : lbB (p :: L) k = 0 := by simp [lbB, hp]
      simp only [e, List.getElem_cons_zero]
      exact hp
    | true =>
      have e : lbB (p :: L) k = lbB L k + 1 := by simp [lbB, hp]
      simp only [e, List.getElem_cons_succ]
      exact lbB_at _
/-- Where the first one that is not below stands. -/
theorem lbB_eq {L : List Pr} {k : ByteArray} {i : Nat} (h1 : ∀ j (hj : j < L.length), j < i → lt L[j].1 k = true) (hi : i ≤ L.length) (h2 : ∀ h : i < L.length, lt L[i].1 k = false) : lbB L k = i := by
  rcases Nat.lt_trichotomy (lbB L k) i with h | h | h
  · have hl : lbB L k < L.length := by omega
    have := lbB_at hl
    rw [h1 _ hl h] at this
    cases this
  · exact h
  · have hl : i < L.length := Nat.lt_of_lt_of_le h (lbB_le L k)
    have := lbB_below hl h
    rw [h2 hl] at this
    cases this
theorem insB_at : ∀ {L : List Pr} {p : Pr}, insB p L = L.take (lbB L p.1) ++ p :: (if ((L[lbB L p.1]?).any fun q => decide (q.1 = p.1)) = true then L.drop (lbB L p.1 + 1) else L.drop (lbB L p.1))
  | [], p => by simp [insB]
  | r :: L, p => by
    have ih := insB_at (L := L) (p := p)
    unfold insB
    cases hr : lt r.1 p.1 with
    | true =>
      have e : lbB (r :: L) p.1 = lbB L p.1 + 1 := by simp [lbB, hr]
      rw [if_pos rfl, e, ih]
      simp
    | false =>
      have e : lbB (r :: L) p.1 = 0 := by simp [lbB, hr]
      rw [if_neg (by simp), e]
      by_cases h : r.1 = p.1 <;> simp [h]
theorem getB_lb : ∀ {L : List Pr} {k : ByteArray}, Bs L → getB L k = (L[lbB L k]?).bind fun q => if q.1 = k then some q else none
  | [], k, _ => rfl
  | r :: L, k, hs => by
    obtain ⟨h1, h2⟩ := List.pairwise_cons.1 hs
    unfold getB
    cases hr : lt r.1 k with
    | true =>
      have e : lbB (r :: L) k = lbB L k + 1 := by simp [lbB, hr]
      rw [if_neg (lt_ne hr), e, getB_lb h2]
      simp
    | false =>
      have e : lbB (r :: L) k = 0 := by simp [lbB, hr]
      rw [e]
      by_cases h : r.1 = k
      · simp [h]
      · rw [if_neg h]
        have hlt : lt k r.1 = true := by
          cases hq : lt k r.1 with
          | true => rfl
          | false => exact absurd (lt_total hr hq) h
        rw [getB_none fun q hq => fun e => by
          have := lt_trans hlt (h1 q hq)
          rw [e, lt_irrefl] at this
          cases this]
        simp [h]
/-- Two lists whose keys rise and that have the same are one. -/
theorem bs_unique : ∀ {a b : List Pr}, Bs a → Bs b → (∀ k, k ∈ a ↔ k ∈ b) → a = b
  | [], [], _, _, _ => rfl
  | [], y :: b, _, _, h => by have := (h y).2 (by simp); simp at this
  | x :: a, [], _, _, h => by have := (h x).1 (by simp); simp at this
  | x :: a, y :: b, ha, hb, h => by
    obtain ⟨ha1, ha2⟩ := List.pairwise_cons.1 ha
    obtain ⟨hb1, hb2⟩ := List.pairwise_cons.1 hb
    have e : x = y := by
      rcases List.mem_cons.1 ((h x).1 (by simp)) with e | hx
      · exact e
      · rcases List.mem_cons.1 ((h y).2 (by simp)) with e | hy
        · exact e.symm
        · have := lt_trans (hb1 x hx) (ha1 y hy)
          rw [lt_irrefl] at this
          cases this
    subst e
    rw [bs_unique ha2 hb2 fun k => ?_]
    constructor
    · intro hk
      rcases List.mem_cons.1 ((h k).1 (by simp [hk])) with e | h'
      · subst e
        have := ha1 k hk
        rw [lt_irrefl] at this
        cases this
      · exact h'
    · intro hk
      rcases List.mem_cons.1 ((h k).2 (by simp [hk])) with e | h'
      · subst e
        have := hb1 k hk
        rw [lt_irrefl] at this
        cases this
      · exact h'
theorem Bs.nodup {L : List Pr} (h : Bs L) : L.Nodup := List.Pairwise.imp (fun {a b} hab e => by subst e; rw [lt_irrefl] at hab; cases hab) h
/-- What a write answers. -/
def wrE (L : List Pr) (p : Pr) : Int := if p.1.size < 1 ∨ 64 < p.1.size then 2 else if 256 < p.2.1.size then 12 else if (getB L p.1).isNone = true ∧ 64 ≤ L.length then 13 else 0
/-- What there is behind a write. -/
def wrB (L : List Pr) (p : Pr) : List Pr := if wrE L p = 0 then insB p L else L
theorem wrB_srt {L : List Pr} {p : Pr} (h : Bs L) : Bs (wrB L p) := by
  unfold wrB
  split
  · exact insB_srt h
  · exact h
theorem wrB_len {L : List Pr} {p : Pr} (h : Bs L) (hl : L.length ≤ 64) : (wrB L p).length ≤ 64 := by
  unfold wrB
  split
  · rename_i he
    rw [insB_len h]
    split
    · exact hl
    · rename_i hn
      unfold wrE at he
      split at he
      · cases he
      · split at he
        · cases he
        · split at he
          · cases he
          · rename_i h4
            have h5 : (getB L p.1).isNone = true := by simpa using hn
            have : ¬ 64 ≤ L.length := fun h6 => h4 ⟨h5, h6⟩
            omega
  · exact hl
/-- What an act writes. -/
def actP (a : Pr) : Pr := if a.2.2 = true then (a.1, em, true) else (a.1, a.2.1, false)
def runB (acts : List Pr) : List Pr := acts.foldl (fun L a => wrB L (actP a)) []
theorem runB_snoc (acts : List Pr) (a : Pr) : runB (acts ++ [a]) = wrB (runB acts) (actP a) := by simp [runB]
theorem runB_ok (acts : List Pr) : Bs (runB acts) ∧ (runB acts).length ≤ 64 := by
  have : ∀ (acts L : List Pr), Bs L → L.length ≤ 64 → Bs (acts.foldl (fun L a => wrB L (actP a)) L) ∧ (acts.foldl (fun L a => wrB L (actP a)) L).length ≤ 64 := by
    intro acts
    induction acts with
    | nil => exact fun L h1 h2 => ⟨h1, h2⟩
    | cons a acts ih => exact fun L h1 h2 => ih _ (wrB_srt h1) (wrB_len h1 h2)
  exact this acts [] List.Pairwise.nil (by simp)
/-- The next of two lists, and what is left of them. -/
def nxt : List Pr → List Pr → Option (Pr × List Pr × List Pr)
  | [], [] => none
  | p :: l, [] => some (p, l, [])
  | [], q :: w => some (q, [], w)
  | p :: l, q :: w => if lt p.1 q.1 = true then some (p, l, q :: w) else if p.1 = q.1 then some (q, l, w) else some (q, p :: l, w)
def mrgF : Nat → List Pr → List Pr → List Pr
  | 0, _, _ => []
  | n + 1, l, w => match nxt l w with
    | none => []
    | some x => x.1 :: mrgF n x.2.1 x.2.2
theorem nxt_none {l w : List Pr} (h : nxt l w = none) : l = [] ∧ w = [] := by
  cases l <;> cases w
  · exact ⟨rfl, rfl⟩
  · cases h
  · cases h
  · simp only [nxt] at h
    split at h
    · cases h
    · split at h <;> cases h
theorem nxt_len {l w : List Pr} {x : Pr × List Pr × List Pr} (h : nxt l w = some x) : x.2.1.length + x.2.2.length < l.length + w.length := by
  cases l <;> cases w
  · cases h
  · cases h; simp
  · cases h; simp
  · simp only [nxt] at h
    split at h
    · cases h; simp
    · split at h
      · cases h; simp; omega
      · cases h; simp
theorem mrgF_enough : ∀ (n m : Nat) (l w : List Pr), l.length + w.length ≤ n → l.length + w.length ≤ m → mrgF n l w = mrgF m l w
  | 0, 0, _, _, _, _ => rfl
  | 0, m + 1, l, w, h, _ => by
    have h1 : l = [] := List.eq_nil_of_length_eq_zero (by omega)
    have h2 : w = [] := List.eq_nil_of_length_eq_zero (by omega)
    subst h1 h2
    rfl
  | n + 1, 0, l, w, _, h => by
    have h1 : l = [] := List.eq_nil_of_length_eq_zero (by omega)
    have h2 : w = [] := List.eq_nil_of_length_eq_zero (by omega)
    subst h1 h2
    rfl
  | n + 1, m + 1, l, w, h, k => by
    unfold mrgF
    cases e : nxt l w with
    | none => rfl
    | some x =>
      have := nxt_len e
      show x.1 :: mrgF n x.2.1 x.2.2 = x.1 :: mrgF m x.2.1 x.2.2
      rw [mrgF_enough n m x.2.1 x.2.2 (by omega) (by omega)]
/-- Two lists side by side, of one key the second's. -/
def mrg (l w : List Pr) : List Pr := mrgF (l.length + w.length) l w
theorem mrg_none {l w : List Pr} (h : nxt l w = none) : mrg l w = [] := by
  obtain ⟨rfl, rfl⟩ := nxt_none h
  rfl
theorem mrg_some {l w : List Pr} {x : Pr × List Pr × List Pr} (h : nxt l w = some x) : mrg l w = x.1 :: mrg x.2.1 x.2.2 := by
  have hl := nxt_len h
  unfold mrg
  rw [mrgF_enough _ (l.length + w.length + 1) l w (Nat.le_refl _) (by omega), mrgF, h]
  show x.1 :: _ = _
  rw [mrgF_enough _ _ x.2.1 x.2.2 (by omega) (Nat.le_refl _)]
/-- What lives of it. -/
def livL (L : List Pr) : List Pr := L.filter fun p => !p.2.2
def ovl (l w : List Pr) : List Pr := livL (mrg l w)
theorem ovl_none {l w : List Pr} (h : nxt l w = none) : ovl l w = [] := by unfold ovl; rw [mrg_none h]; rfl
theorem ovl_some {l w : List Pr} {x : Pr × List Pr × List Pr} (h : nxt l w = some x) : ovl l w = if x.1.2.2 = true then ovl x.2.1 x.2.2 else x.1 :: ovl x.2.1 x.2.2 := by
  unfold ovl livL
  rw [mrg_some h, List.filter_cons]
  cases x.1.2.2 <;> simp
theorem mrg_len : ∀ (n : Nat) (l w : List Pr), l.length + w.length = n → (mrg l w).length ≤ n := by
  intro n
  induction n using Nat.strongRecOn with
  | _ n ih =>
    intro l w hn
    cases h : nxt l w with
    | none => rw [mrg_none h]; simp
    | some x =>
      have hl := nxt_len h
      have := ih _ (by omega) x.2.1 x.2.2 rfl
      rw [mrg_some h, List.length_cons]
      omega
theorem ovl_len (l w : List Pr) : (ovl l w).length ≤ l.length + w.length := Nat.le_trans (List.length_filter_le _ _) (mrg_len _ l w rfl)
/-- What a range keeps. -/
def inR (a b : ByteArray) (p : Pr) : Bool := !(lt p.1 a || !lt p.1 b)
def overB (l L : List Pr) (a b : ByteArray) (most : Int) : List Pr := (ovl l (L.filter (inR a b))).take most.toNat
end Go.Proofs.Ytmicmbjbclkbjaa
