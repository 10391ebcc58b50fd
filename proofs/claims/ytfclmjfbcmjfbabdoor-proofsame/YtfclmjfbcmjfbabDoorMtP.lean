/-
  The tree that only grows, plain: powers of two, roots, peaks, and what follows.
-/
import Derived.Test.YtfclmjfbcmjfbabDoorBase
namespace Go.Proofs.YtfclmjfbcmjfbabDoor
open Go.RowKit

/-- The greatest power of two below n; 0 where there is none. -/
def spl (n : Nat) : Nat := if n < 2 then 0 else 2 ^ Nat.log2 (n - 1)
theorem spl_small {n : Nat} (h : n < 2) : spl n = 0 := by simp [spl, h]
theorem spl_lt {n : Nat} (h : 2 ≤ n) : spl n < n := by
  have : 2 ^ Nat.log2 (n - 1) ≤ n - 1 := Nat.log2_self_le (by omega)
  unfold spl
  rw [if_neg (by omega)]
  omega
theorem spl_pos {n : Nat} (h : 2 ≤ n) : 0 < spl n := by
  unfold spl
  rw [if_neg (by omega)]
  exact Nat.pow_pos (by decide)
theorem spl_ge {n : Nat} (h : 2 ≤ n) : n ≤ 2 * spl n := by
  have : n - 1 < 2 ^ (Nat.log2 (n - 1) + 1) := Nat.lt_log2_self
  unfold spl
  rw [if_neg (by omega)]
  rw [Nat.pow_succ] at this
  omega
theorem spl_pow {n k : Nat} (h1 : 2 ^ k < n) (h2 : n ≤ 2 ^ (k + 1)) : spl n = 2 ^ k := by
  have hk : 0 < 2 ^ k := Nat.pow_pos (by decide)
  unfold spl
  rw [if_neg (by omega)]
  congr 1
  exact (Nat.log2_eq_iff (by omega)).2 ⟨by omega, by omega⟩

/-- The powers of two below 2^k that n is made of, the greatest first. -/
def bitsFrom : Nat → Nat → List Nat
  | 0, _ => []
  | k + 1, n => if 2 ^ k ≤ n then 2 ^ k :: bitsFrom k (n - 2 ^ k) else bitsFrom k n
theorem bits_zero : ∀ k, bitsFrom k 0 = []
  | 0 => rfl
  | k + 1 => by
    have hk : 0 < 2 ^ k := Nat.pow_pos (by decide)
    rw [bitsFrom, if_neg (by omega), bits_zero k]
theorem bits_le : ∀ k n, (bitsFrom k n).length ≤ k
  | 0, _ => by simp [bitsFrom]
  | k + 1, n => by
    rw [bitsFrom]
    split
    · have := bits_le k (n - 2 ^ k); simp; omega
    · have := bits_le k n; omega
theorem bits_more : ∀ d k n, n < 2 ^ k → bitsFrom (k + d) n = bitsFrom k n
  | 0, _, _, _ => rfl
  | d + 1, k, n, h => by
    have : 2 ^ k ≤ 2 ^ (k + d) := Nat.pow_le_pow_right (by decide) (by omega)
    rw [← Nat.add_assoc, bitsFrom, if_neg (by omega), bits_more d k n h]
theorem bits_any {k k' n : Nat} (h : n < 2 ^ k) (h' : n < 2 ^ k') : bitsFrom k n = bitsFrom k' n := by
  rcases Nat.le_total k k' with hk | hk
  · obtain ⟨d, rfl⟩ := Nat.exists_eq_add_of_le hk
    exact (bits_more d k n h).symm
  · obtain ⟨d, rfl⟩ := Nat.exists_eq_add_of_le hk
    exact bits_more d k' n h'
/-- Twice as great, and one more if it is odd. -/
theorem bits_half : ∀ k n, n < 2 ^ (k + 1) → (bitsFrom (k + 1) n).length = n % 2 + (bitsFrom k (n / 2)).length
  | 0, n, h => by
    have h2 : n < 2 := by simpa using h
    rcases Nat.lt_or_ge n 1 with h1 | h1
    · obtain rfl : n = 0 := by omega
      simp [bitsFrom]
    · obtain rfl : n = 1 := by omega
      simp [bitsFrom]
  | k + 1, n, h => by
    have e2 : 2 ^ (k + 2) = 2 * 2 ^ (k + 1) := by rw [Nat.pow_succ]; omega
    have e1 : 2 ^ (k + 1) = 2 * 2 ^ k := by rw [Nat.pow_succ]; omega
    rw [bitsFrom, bitsFrom.eq_def (k + 1) (n / 2)]
    simp only []
    by_cases hn : 2 ^ (k + 1) ≤ n
    · rw [if_pos hn, if_pos (by omega), List.length_cons, List.length_cons, bits_half k (n - 2 ^ (k + 1)) (by omega)]
      have e3 : (n - 2 ^ (k + 1)) / 2 = n / 2 - 2 ^ k := by omega
      rw [e3]
      omega
    · rw [if_neg hn, if_neg (by omega), bits_half k n (by omega)]
theorem bits_pos {k n : Nat} (h : n < 2 ^ k) (h0 : 0 < n) : 0 < (bitsFrom k n).length := by
  induction k generalizing n with
  | zero => simp at h; omega
  | succ k ih =>
    rw [bitsFrom]
    split
    · simp
    · exact ih (by omega) h0
/-- They are powers of two, fall, and have n as their sum. -/
theorem bits_mem : ∀ k n x, x ∈ bitsFrom k n → ∃ j, j < k ∧ x = 2 ^ j
  | 0, _, _, h => by simp [bitsFrom] at h
  | k + 1, n, x, h => by
    rw [bitsFrom] at h
    split at h
    · rcases List.mem_cons.1 h with rfl | h
      · exact ⟨k, by omega, rfl⟩
      · obtain ⟨j, hj, e⟩ := bits_mem k _ x h
        exact ⟨j, by omega, e⟩
    · obtain ⟨j, hj, e⟩ := bits_mem k _ x h
      exact ⟨j, by omega, e⟩
theorem bits_lt {k n x : Nat} (h : x ∈ bitsFrom k n) : x < 2 ^ k := by
  obtain ⟨j, hj, rfl⟩ := bits_mem k n x h
  exact Nat.pow_lt_pow_right (by decide) hj
theorem bits_fall : ∀ k n, (bitsFrom k n).Pairwise (fun a b => b < a)
  | 0, _ => by simp [bitsFrom]
  | k + 1, n => by
    rw [bitsFrom]
    split
    · exact List.pairwise_cons.2 ⟨fun x hx => bits_lt hx, bits_fall k _⟩
    · exact bits_fall k n
theorem bits_sum : ∀ k n, n < 2 ^ k → (bitsFrom k n).sum = n
  | 0, n, h => by simp at h; simp [bitsFrom, h]
  | k + 1, n, h => by
    have e1 : 2 ^ (k + 1) = 2 * 2 ^ k := by rw [Nat.pow_succ]; omega
    rw [bitsFrom]
    split
    · rw [List.sum_cons, bits_sum k _ (by omega)]; omega
    · exact bits_sum k n (by omega)
/-- The bits of n, one by one. -/
theorem bits_test (k n : Nat) : bitsFrom (k + 1) (n % 2 ^ (k + 1)) = if n / 2 ^ k % 2 = 1 then 2 ^ k :: bitsFrom k (n % 2 ^ k) else bitsFrom k (n % 2 ^ k) := by
  have hk : 0 < 2 ^ k := Nat.pow_pos (by decide)
  have e : n % 2 ^ (k + 1) = n % 2 ^ k + 2 ^ k * (n / 2 ^ k % 2) := by rw [Nat.pow_succ]; exact Nat.mod_mul
  have hm : n % 2 ^ k < 2 ^ k := Nat.mod_lt _ hk
  rw [bitsFrom]
  by_cases h : n / 2 ^ k % 2 = 1
  · rw [h, Nat.mul_one] at e
    rw [if_pos h, if_pos (by omega), e, Nat.add_sub_cancel]
  · have h0 : n / 2 ^ k % 2 = 0 := by omega
    rw [h0, Nat.mul_zero] at e
    rw [if_neg h, if_neg (by omega), e, Nat.add_zero]

section
variable {α : Type} (nd : α → α → α) (em : α)
/-- The root of leaves, by at most as many halvings. -/
def rootF : Nat → List α → α
  | 0, _ => em
  | _ + 1, [] => em
  | _ + 1, [x] => x
  | f + 1, x :: y :: t => nd (rootF f ((x :: y :: t).take (spl (t.length + 2)))) (rootF f ((x :: y :: t).drop (spl (t.length + 2))))
theorem rootF_any : ∀ (f g : Nat) (l : List α), l.length ≤ f → l.length ≤ g → rootF nd em f l = rootF nd em g l
  | 0, g, l, h, _ => by
    have : l = [] := List.eq_nil_of_length_eq_zero (by omega)
    subst this
    cases g <;> rfl
  | f + 1, 0, l, _, h => by
    have : l = [] := List.eq_nil_of_length_eq_zero (by omega)
    subst this
    rfl
  | _ + 1, _ + 1, [], _, _ => rfl
  | _ + 1, _ + 1, [_], _, _ => rfl
  | f + 1, g + 1, x :: y :: t, h, h' => by
    have h1 := spl_lt (n := t.length + 2) (by omega)
    have h2 := spl_pos (n := t.length + 2) (by omega)
    simp only [List.length_cons] at h h'
    rw [rootF, rootF, rootF_any f g _ (by simp only [List.length_take, List.length_cons]; omega) (by simp only [List.length_take, List.length_cons]; omega),
      rootF_any f g _ (by simp only [List.length_drop, List.length_cons]; omega) (by simp only [List.length_drop, List.length_cons]; omega)]
/-- The root of leaves. -/
def root (l : List α) : α := rootF nd em l.length l
theorem root_nil : root nd em [] = em := rfl
theorem root_one (x : α) : root nd em [x] = x := rfl
theorem root_split {l : List α} (h : 2 ≤ l.length) : root nd em l = nd (root nd em (l.take (spl l.length))) (root nd em (l.drop (spl l.length))) := by
  match l, h with
  | x :: y :: t, _ =>
    have h1 := spl_lt (n := t.length + 2) (by omega)
    have h2 := spl_pos (n := t.length + 2) (by omega)
    show rootF nd em (t.length + 1 + 1) (x :: y :: t) = nd (rootF nd em _ ((x :: y :: t).take (spl (t.length + 2)))) (rootF nd em _ ((x :: y :: t).drop (spl (t.length + 2))))
    rw [rootF, rootF_any nd em (t.length + 1) ((x :: y :: t).take (spl (t.length + 2))).length _ (by simp only [List.length_take, List.length_cons]; omega) (Nat.le_refl _),
      rootF_any nd em (t.length + 1) ((x :: y :: t).drop (spl (t.length + 2))).length _ (by simp only [List.length_drop, List.length_cons]; omega) (Nat.le_refl _)]
    rfl
theorem root_two {k : Nat} {x y : List α} (hx : x.length = 2 ^ k) (hy : 0 < y.length) (hy' : y.length ≤ 2 ^ k) : root nd em (x ++ y) = nd (root nd em x) (root nd em y) := by
  have hk : 0 < 2 ^ k := Nat.pow_pos (by decide)
  have e : spl (x ++ y).length = x.length := by
    rw [hx]
    exact spl_pow (by rw [List.length_append]; omega) (by rw [List.length_append, Nat.pow_succ]; omega)
  rw [root_split nd em (by rw [List.length_append]; omega), e, List.take_left, List.drop_left]

/-- The roots of the whole trees of which the tree of these leaves is made. -/
def topsFrom : Nat → List α → List α
  | 0, _ => []
  | k + 1, l => if 2 ^ k ≤ l.length then root nd em (l.take (2 ^ k)) :: topsFrom k (l.drop (2 ^ k)) else topsFrom k l
theorem tops_length : ∀ k (l : List α), (topsFrom nd em k l).length = (bitsFrom k l.length).length
  | 0, _ => rfl
  | k + 1, l => by
    rw [topsFrom, bitsFrom]
    split
    · rw [List.length_cons, List.length_cons, tops_length k, List.length_drop]
    · exact tops_length k l
theorem tops_nil (k : Nat) : topsFrom nd em k [] = [] := by
  apply List.eq_nil_of_length_eq_zero
  rw [tops_length, List.length_nil, bits_zero]
  rfl
/-- The peaks, joined from the right. -/
def joined : List α → α
  | [] => em
  | [x] => x
  | x :: y :: t => nd x (joined (y :: t))
theorem joined_cons (x : α) {t : List α} (h : t ≠ []) : joined nd em (x :: t) = nd x (joined nd em t) := by
  cases t with
  | nil => exact absurd rfl h
  | cons y t => rfl
/-- What the peaks are joined to is the root. -/
theorem joined_tops : ∀ k (l : List α), l.length < 2 ^ k → joined nd em (topsFrom nd em k l) = root nd em l
  | 0, l, h => by
    have : l = [] := List.eq_nil_of_length_eq_zero (by simpa using h)
    subst this
    simp [topsFrom, joined, root_nil]
  | k + 1, l, h => by
    have e1 : 2 ^ (k + 1) = 2 * 2 ^ k := by rw [Nat.pow_succ]; omega
    have hk : 0 < 2 ^ k := Nat.pow_pos (by decide)
    rw [topsFrom]
    by_cases hl : 2 ^ k ≤ l.length
    · rw [if_pos hl]
      by_cases he : l.length = 2 ^ k
      · have e2 : l.drop (2 ^ k) = [] := List.drop_eq_nil_of_le (by omega)
        rw [e2, tops_nil, List.take_of_length_le (by omega)]
        rfl
      · have hd : (l.drop (2 ^ k)).length = l.length - 2 ^ k := List.length_drop
        have ht : (l.take (2 ^ k)).length = 2 ^ k := by rw [List.length_take]; omega
        have hne : topsFrom nd em k (l.drop (2 ^ k)) ≠ [] := by
          intro e
          have := congrArg List.length e
          rw [tops_length, List.length_nil] at this
          have h2 := bits_pos (k := k) (n := (l.drop (2 ^ k)).length) (by omega) (by omega)
          omega
        rw [joined_cons nd em _ hne, joined_tops k _ (by omega), ← root_two nd em ht (by omega) (by omega), List.take_append_drop]
    · rw [if_neg hl, joined_tops k l (by omega)]
/-- Each peak is the root of its leaves. -/
theorem tops_at : ∀ k (l : List α) i n, (bitsFrom k l.length)[i]? = some n → (topsFrom nd em k l)[i]? = some (root nd em ((l.drop ((bitsFrom k l.length).take i).sum).take n))
  | 0, _, _, _, h => by simp [bitsFrom] at h
  | k + 1, l, i, n, h => by
    rw [bitsFrom] at h ⊢
    rw [topsFrom]
    split
    · rename_i hl
      rw [if_pos hl] at h
      cases i with
      | zero =>
        simp at h
        subst h
        simp
      | succ i =>
        rw [List.getElem?_cons_succ] at h ⊢
        rw [List.take_succ_cons, List.sum_cons, ← List.drop_drop]
        have := tops_at k (l.drop (2 ^ k)) i n (by rw [List.length_drop]; exact h)
        rw [List.length_drop] at this
        exact this
    · rename_i hl
      rw [if_neg hl] at h
      exact tops_at k l i n h

/-- One tree more, as one is added to a number: T are the peaks from the right. -/
def carry : Nat → List α → α → List α
  | _, [], h => [h]
  | s, t :: T, h => if s % 2 = 1 then carry (s / 2) T (nd t h) else h :: t :: T
theorem mul_le_of_lt {a b c : Nat} (h : a < b) : c * a + c ≤ c * b := by
  have := Nat.mul_le_mul_left c (show a + 1 ≤ b from h)
  rwa [Nat.mul_add, Nat.mul_one] at this
/-- A tree of 2^j leaves behind twice as many, some times. -/
theorem tops_even (j : Nat) (x : List α) (hx : x.length = 2 ^ j) : ∀ k (l : List α) m, l.length = 2 ^ (j + 1) * m → l.length + 2 ^ j < 2 ^ k → topsFrom nd em k (l ++ x) = topsFrom nd em k l ++ [root nd em x]
  | 0, l, m, _, h => by
    have hk : 0 < 2 ^ j := Nat.pow_pos (by decide)
    rw [Nat.pow_zero] at h
    omega
  | k + 1, l, m, hm, h => by
    have e1 : 2 ^ (k + 1) = 2 * 2 ^ k := by rw [Nat.pow_succ]; omega
    have ej : 2 ^ (j + 1) = 2 * 2 ^ j := by rw [Nat.pow_succ]; omega
    have hj : 0 < 2 ^ j := Nat.pow_pos (by decide)
    rw [topsFrom, topsFrom, List.length_append, hx]
    by_cases hl : 2 ^ k ≤ l.length + 2 ^ j
    · rw [if_pos hl]
      rcases Nat.lt_trichotomy j k with hjk | rfl | hjk
      · obtain ⟨d, rfl⟩ := Nat.exists_eq_add_of_lt hjk
        have ek : 2 ^ (j + d + 1) = 2 ^ (j + 1) * 2 ^ d := by rw [← Nat.pow_add]; congr 1; omega
        have hle : 2 ^ (j + d + 1) ≤ l.length := by
          rcases Nat.lt_or_ge m (2 ^ d) with hlt | hge
          · have := mul_le_of_lt (c := 2 ^ (j + 1)) hlt
            omega
          · rw [ek, hm]
            exact Nat.mul_le_mul_left _ hge
        rw [if_pos hle, List.take_append_of_le_length hle, List.drop_append_of_le_length hle, tops_even j x hx (j + d + 1) (l.drop (2 ^ (j + d + 1))) (m - 2 ^ d) (by rw [List.length_drop, hm, ek, Nat.mul_sub]) (by rw [List.length_drop]; omega)]
        rfl
      · have hm0 : m = 0 := by
          rcases Nat.eq_zero_or_pos m with h0 | h0
          · exact h0
          · have := Nat.mul_le_mul_left (2 ^ (j + 1)) h0
            omega
        subst hm0
        have : l = [] := List.eq_nil_of_length_eq_zero (by simpa using hm)
        subst this
        rw [if_neg (by simp), tops_nil, List.nil_append, List.take_of_length_le (by omega), List.drop_eq_nil_of_le (by omega), tops_nil]
        rfl
      · have : 2 ^ (k + 1) ≤ 2 ^ j := Nat.pow_le_pow_right (by decide) (by omega)
        omega
    · rw [if_neg hl, if_neg (by omega), tops_even j x hx k l m hm (by omega)]
theorem tops_carry : ∀ m j k (l x : List α), x.length = 2 ^ j → l.length = 2 ^ j * m → l.length + 2 ^ j < 2 ^ k → topsFrom nd em k (l ++ x) = (carry nd m (topsFrom nd em k l).reverse (root nd em x)).reverse := by
  intro m
  induction m using Nat.strongRecOn with
  | _ m ih =>
    intro j k l x hx hm h
    have ej : 2 ^ (j + 1) = 2 * 2 ^ j := by rw [Nat.pow_succ]; omega
    have hj : 0 < 2 ^ j := Nat.pow_pos (by decide)
    by_cases ho : m % 2 = 1
    · obtain ⟨q, rfl⟩ : ∃ q, m = 2 * q + 1 := ⟨m / 2, by omega⟩
      have hq : 2 ^ (j + 1) * q + 2 ^ j = l.length := by rw [hm, ej, Nat.mul_add, Nat.mul_one, Nat.mul_comm 2 (2 ^ j), Nat.mul_assoc]
      have ht : (l.take (2 ^ (j + 1) * q)).length = 2 ^ (j + 1) * q := by rw [List.length_take]; omega
      have hd : (l.drop (2 ^ (j + 1) * q)).length = 2 ^ j := by rw [List.length_drop]; omega
      have el := List.take_append_drop (2 ^ (j + 1) * q) l
      generalize l.take (2 ^ (j + 1) * q) = a at *
      generalize l.drop (2 ^ (j + 1) * q) = b at *
      subst el
      rw [tops_even nd em j b hd k a q ht (by omega), List.append_assoc, List.reverse_append, List.reverse_singleton, List.singleton_append, carry, if_pos (by omega), show (2 * q + 1) / 2 = q by omega,
        ← root_two nd em hd (by omega) (by omega)]
      exact ih q (by omega) (j + 1) k a (b ++ x) (by rw [List.length_append]; omega) ht (by omega)
    · obtain ⟨q, rfl⟩ : ∃ q, m = 2 * q := ⟨m / 2, by omega⟩
      rw [tops_even nd em j x hx k l q (by rw [hm, ej, Nat.mul_comm 2 (2 ^ j), Nat.mul_assoc]) h]
      cases hT : (topsFrom nd em k l).reverse with
      | nil =>
        have : topsFrom nd em k l = [] := by simpa using hT
        rw [this, carry]
        rfl
      | cons t T =>
        rw [carry, if_neg ho, List.reverse_cons, ← hT, List.reverse_reverse]
/-- One leaf more. -/
theorem tops_add (k : Nat) (l : List α) (h : α) (hk : l.length + 1 < 2 ^ k) : topsFrom nd em k (l ++ [h]) = (carry nd l.length (topsFrom nd em k l).reverse h).reverse := by
  have := tops_carry nd em l.length 0 k l [h] (by simp) (by simp) (by simpa using hk)
  rwa [root_one] at this
end
#print axioms tops_add
#print axioms joined_tops
#print axioms tops_at
#print axioms bits_test
end Go.Proofs.YtfclmjfbcmjfbabDoor
