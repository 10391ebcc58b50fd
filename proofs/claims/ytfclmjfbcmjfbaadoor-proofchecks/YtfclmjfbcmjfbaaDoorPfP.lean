/-
  The way up through a tree, plain: its turns, what they meet, where a path leads, and what follows.
-/
import Derived.Test.YtfclmjfbcmjfbaaDoorGMb
namespace Go.Proofs.YtfclmjfbcmjfbaaDoor
open Go.RowKit
/-- A turn: the other half, from a on, below b, and whether it is the left one. -/
structure Tn where
  a : Nat
  b : Nat
  left : Bool
/-- The turns on the way down from the part lo to hi to leaf i, the first one first, and what it ends at. -/
def wayP : Nat → Nat → Nat → Nat → Bool → List Tn × Nat × Nat
  | 0, lo, hi, _, _ => ([], lo, hi)
  | f + 1, lo, hi, i, al =>
    if i < hi - 1 ∨ (al = true ∧ lo < i) then
      if i < lo + spl (hi - lo) then
        (⟨lo + spl (hi - lo), hi, false⟩ :: (wayP f lo (lo + spl (hi - lo)) i al).1, (wayP f lo (lo + spl (hi - lo)) i al).2)
      else (⟨lo, lo + spl (hi - lo), true⟩ :: (wayP f (lo + spl (hi - lo)) hi i al).1, (wayP f (lo + spl (hi - lo)) hi i al).2)
    else ([], lo, hi)
theorem way_stop {f lo hi i : Nat} {al : Bool} (h : ¬ (i < hi - 1 ∨ (al = true ∧ lo < i))) : wayP f lo hi i al = ([], lo, hi) := by
  cases f with
  | zero => rfl
  | succ f => rw [wayP, if_neg h]
theorem way_left {f lo hi i : Nat} {al : Bool} (h : i < hi - 1 ∨ (al = true ∧ lo < i)) (h2 : i < lo + spl (hi - lo)) :
    wayP (f + 1) lo hi i al = (⟨lo + spl (hi - lo), hi, false⟩ :: (wayP f lo (lo + spl (hi - lo)) i al).1, (wayP f lo (lo + spl (hi - lo)) i al).2) := by
  rw [wayP, if_pos h, if_pos h2]
theorem way_right {f lo hi i : Nat} {al : Bool} (h : i < hi - 1 ∨ (al = true ∧ lo < i)) (h2 : ¬ i < lo + spl (hi - lo)) :
    wayP (f + 1) lo hi i al = (⟨lo, lo + spl (hi - lo), true⟩ :: (wayP f (lo + spl (hi - lo)) hi i al).1, (wayP f (lo + spl (hi - lo)) hi i al).2) := by
  rw [wayP, if_pos h, if_neg h2]
theorem spl_le {n h : Nat} (h2 : 2 ≤ n) (hn : n ≤ 2 ^ (h + 1)) : spl n ≤ 2 ^ h := by
  unfold spl
  rw [if_neg (by omega)]
  refine Nat.pow_le_pow_right (by decide) ?_
  have : (n - 1).log2 < h + 1 := (Nat.log2_lt (by omega)).2 (by omega)
  omega
theorem pow_two_pos {n h : Nat} (h2 : 2 ≤ n) (hn : n ≤ 2 ^ h) : ∃ k, h = k + 1 := by
  cases h with
  | zero => simp at hn; omega
  | succ k => exact ⟨k, rfl⟩
/-- What is known of a part that is cut. -/
theorem cut_facts {lo hi i : Nat} {al : Bool} (h1 : lo ≤ i) (h2 : i < hi) (h : i < hi - 1 ∨ (al = true ∧ lo < i)) : 2 ≤ hi - lo ∧ 0 < spl (hi - lo) ∧ spl (hi - lo) < hi - lo ∧ hi - lo ≤ 2 * spl (hi - lo) := by
  have h0 : 2 ≤ hi - lo := by rcases h with h | ⟨_, h⟩ <;> omega
  exact ⟨h0, spl_pos h0, spl_lt h0, spl_ge h0⟩
theorem way_len : ∀ (f h lo hi i : Nat) (al : Bool), lo ≤ i → i < hi → hi - lo ≤ 2 ^ h → (wayP f lo hi i al).1.length ≤ h
  | 0, h, lo, hi, i, al, _, _, _ => by simp [wayP]
  | f + 1, h, lo, hi, i, al, h1, h2, h3 => by
    by_cases hc : i < hi - 1 ∨ (al = true ∧ lo < i)
    · obtain ⟨k2, kp, kl, kg⟩ := cut_facts h1 h2 hc
      obtain ⟨k, rfl⟩ := pow_two_pos k2 h3
      have ks := spl_le k2 h3
      by_cases hi2 : i < lo + spl (hi - lo)
      · rw [way_left hc hi2]
        have := way_len f k lo (lo + spl (hi - lo)) i al h1 hi2 (by omega)
        simp only [List.length_cons]; omega
      · rw [way_right hc hi2]
        have := way_len f k (lo + spl (hi - lo)) hi i al (by omega) h2 (by omega)
        simp only [List.length_cons]; omega
    · rw [way_stop hc]; simp
theorem way_in : ∀ (f lo hi i : Nat) (al : Bool), lo ≤ i → i < hi → (∀ t ∈ (wayP f lo hi i al).1, lo ≤ t.a ∧ t.a < t.b ∧ t.b ≤ hi) ∧ lo ≤ (wayP f lo hi i al).2.1 ∧ (wayP f lo hi i al).2.1 ≤ i ∧ i < (wayP f lo hi i al).2.2 ∧ (wayP f lo hi i al).2.2 ≤ hi
  | 0, lo, hi, i, al, h1, h2 => by simp [wayP]; omega
  | f + 1, lo, hi, i, al, h1, h2 => by
    by_cases hc : i < hi - 1 ∨ (al = true ∧ lo < i)
    · obtain ⟨k2, kp, kl, kg⟩ := cut_facts h1 h2 hc
      by_cases hi2 : i < lo + spl (hi - lo)
      · rw [way_left hc hi2]
        obtain ⟨q1, q2, q3, q4, q5⟩ := way_in f lo (lo + spl (hi - lo)) i al h1 hi2
        refine ⟨fun t ht => ?_, q2, q3, q4, by simp only; omega⟩
        rcases List.mem_cons.1 ht with rfl | ht
        · simp only; omega
        · have := q1 t ht; omega
      · rw [way_right hc hi2]
        obtain ⟨q1, q2, q3, q4, q5⟩ := way_in f (lo + spl (hi - lo)) hi i al (by omega) h2
        refine ⟨fun t ht => ?_, by simp only; omega, q3, q4, q5⟩
        rcases List.mem_cons.1 ht with rfl | ht
        · simp only; omega
        · have := q1 t ht; omega
    · rw [way_stop hc]
      refine ⟨fun t ht => by simp at ht, ?_⟩
      simp only; omega
theorem way_end : ∀ (f lo hi i : Nat) (al : Bool), lo ≤ i → i < hi → hi - lo ≤ 2 ^ f → (wayP f lo hi i al).2.2 = i + 1 ∧ (al = true → (wayP f lo hi i al).2.1 = i)
  | 0, lo, hi, i, al, h1, h2, h3 => by simp [wayP] at h3 ⊢; omega
  | f + 1, lo, hi, i, al, h1, h2, h3 => by
    by_cases hc : i < hi - 1 ∨ (al = true ∧ lo < i)
    · obtain ⟨k2, kp, kl, kg⟩ := cut_facts h1 h2 hc
      have ks := spl_le k2 h3
      by_cases hi2 : i < lo + spl (hi - lo)
      · rw [way_left hc hi2]
        exact way_end f lo (lo + spl (hi - lo)) i al h1 hi2 (by omega)
      · rw [way_right hc hi2]
        exact way_end f (lo + spl (hi - lo)) hi i al (by omega) h2 (by omega)
    · rw [way_stop hc]
      simp only
      refine ⟨by omega, fun h => ?_⟩
      rw [h] at hc
      simp at hc
      omega
/-- The leaves from a on, below b. -/
def seg {α : Type} (L : List α) (a b : Nat) : List α := (L.take b).drop a
theorem seg_len {α : Type} {L : List α} {a b : Nat} (h : b ≤ L.length) : (seg L a b).length = b - a := by
  unfold seg
  rw [List.length_drop, List.length_take]; omega
theorem seg_all {α : Type} (L : List α) : seg L 0 L.length = L := by simp [seg]
theorem seg_take {α : Type} (L : List α) {lo hi k : Nat} (h : lo + k ≤ hi) : (seg L lo hi).take k = seg L lo (lo + k) := by
  unfold seg
  rw [List.take_drop, List.take_take, show min (lo + k) hi = lo + k by omega]
theorem seg_drop {α : Type} (L : List α) {lo hi k : Nat} : (seg L lo hi).drop k = seg L (lo + k) hi := by
  unfold seg
  rw [List.drop_drop]
theorem seg_root (L : List Hs) {lo hi : Nat} (h2 : 2 ≤ hi - lo) (hL : hi ≤ L.length) : root nd em (seg L lo hi) = nd (root nd em (seg L lo (lo + spl (hi - lo)))) (root nd em (seg L (lo + spl (hi - lo)) hi)) := by
  have hl := spl_lt h2
  rw [root_split nd em (by rw [seg_len hL]; exact h2), seg_len hL, seg_take L (by omega), seg_drop]
theorem seg_leaf (L : List Hs) {i : Nat} (h : i < L.length) : root nd em (seg L i (i + 1)) = L[i] := by
  have : seg L i (i + 1) = [L[i]] := by
    unfold seg
    rw [List.take_add_one, List.drop_append, List.drop_of_length_le (by rw [List.length_take]; omega)]
    simp [List.getElem?_eq_getElem h]
    rw [show i - min i L.length = 0 by omega]
    simp
  rw [this, root_one]
def rt (L : List Hs) (t : Tn) : Hs := root nd em (seg L t.a t.b)
/-- The path, by the document. -/
def pathR : Nat → List Hs → Nat → List Hs
  | 0, _, _ => []
  | f + 1, L, i => if L.length ≤ 1 then [] else if i < spl L.length then pathR f (L.take (spl L.length)) i ++ [root nd em (L.drop (spl L.length))] else pathR f (L.drop (spl L.length)) (i - spl L.length) ++ [root nd em (L.take (spl L.length))]
theorem way_path (L : List Hs) : ∀ (f lo hi i : Nat), lo ≤ i → i < hi → hi ≤ L.length → (wayP f lo hi i true).1.reverse.map (rt L) = pathR f (seg L lo hi) (i - lo)
  | 0, lo, hi, i, h1, h2, h3 => by simp [wayP, pathR]
  | f + 1, lo, hi, i, h1, h2, h3 => by
    rw [pathR, seg_len h3]
    by_cases hc : i < hi - 1 ∨ (true = true ∧ lo < i)
    · obtain ⟨k2, kp, kl, kg⟩ := cut_facts h1 h2 hc
      rw [if_neg (by omega)]
      by_cases hi2 : i < lo + spl (hi - lo)
      · rw [way_left hc hi2, if_pos (by omega), seg_take L (by omega), seg_drop, List.reverse_cons, List.map_append, way_path L f lo _ i h1 hi2 (by omega)]
        rfl
      · rw [way_right hc hi2, if_neg (by omega), seg_take L (by omega), seg_drop, List.reverse_cons, List.map_append, way_path L f _ hi i (by omega) h2 h3, show i - lo - spl (hi - lo) = i - (lo + spl (hi - lo)) by omega]
        rfl
    · rw [way_stop hc, if_pos (by simp at hc; omega)]
      rfl
/-- The root of both halves. -/
def jn (t : Tn) (x y : Hs) : Hs := if t.left then nd y x else nd x y
def climbW : List Tn → Hs → List Hs → Hs
  | t :: F, x, y :: p => climbW F (jn t x y) p
  | _, x, _ => x
theorem climbW_nil (x : Hs) (p : List Hs) : climbW [] x p = x := by cases p <;> rfl
theorem climbW_snoc : ∀ (F : List Tn) (x : Hs) (p : List Hs) (t : Tn) (y : Hs), F.length = p.length → climbW (F ++ [t]) x (p ++ [y]) = jn t (climbW F x p) y
  | [], x, [], t, y, _ => rfl
  | s :: F, x, z :: p, t, y, h => by
    simp only [List.cons_append, climbW]
    exact climbW_snoc F _ p t y (by simpa using h)
theorem climbW_step {F : List Tn} {p : List Hs} {k : Nat} (h1 : k < F.length) (h2 : k < p.length) (x : Hs) : climbW (F.take (k + 1)) x (p.take (k + 1)) = jn F[k] (climbW (F.take k) x (p.take k)) p[k] := by
  rw [List.take_succ_eq_append_getElem h1, List.take_succ_eq_append_getElem h2, climbW_snoc _ _ _ _ _ (by rw [List.length_take, List.length_take]; omega)]
/-- Where a path leads, by the document. -/
def climbR : Nat → Nat → Nat → Hs → List Hs → Hs × Bool
  | 0, _, _, x, p => (x, decide (p.length = 0))
  | f + 1, n, i, x, p => if n = 1 then (x, decide (p.length = 0)) else if p.length = 0 then (zh, false) else
      if i < spl n then (nd (climbR f (spl n) i x p.dropLast).1 (p.getD (p.length - 1) zh), (climbR f (spl n) i x p.dropLast).2)
      else (nd (p.getD (p.length - 1) zh) (climbR f (n - spl n) (i - spl n) x p.dropLast).1, (climbR f (n - spl n) (i - spl n) x p.dropLast).2)
theorem snoc_of {α : Type} (p : List α) (h : ¬ p.length = 0) : ∃ q y, p = q ++ [y] := by
  have hp : p ≠ [] := fun e => h (by rw [e]; rfl)
  exact ⟨p.dropLast, p.getLast hp, (List.dropLast_concat_getLast hp).symm⟩
theorem getD_snoc {α : Type} (q : List α) (y z : α) : (q ++ [y]).getD ((q ++ [y]).length - 1) z = y := by simp [List.getD]
theorem way_climb (x : Hs) : ∀ (f lo hi i : Nat) (p : List Hs), lo ≤ i → i < hi → hi - lo ≤ 2 ^ f →
    (p.length = (wayP f lo hi i true).1.length → climbR f (hi - lo) (i - lo) x p = (climbW (wayP f lo hi i true).1.reverse x p, true)) ∧ (p.length ≠ (wayP f lo hi i true).1.length → (climbR f (hi - lo) (i - lo) x p).2 = false)
  | 0, lo, hi, i, p, h1, h2, h3 => by
    simp only [wayP, climbR, List.length_nil, List.reverse_nil, climbW_nil]
    exact ⟨fun h => by simp [h], fun h => by simp [h]⟩
  | f + 1, lo, hi, i, p, h1, h2, h3 => by
    rw [climbR]
    by_cases hc : i < hi - 1 ∨ (true = true ∧ lo < i)
    · obtain ⟨k2, kp, kl, kg⟩ := cut_facts h1 h2 hc
      have ks := spl_le k2 h3
      rw [if_neg (by omega)]
      by_cases hp : p.length = 0
      · rw [if_pos hp]
        refine ⟨fun h => ?_, fun _ => rfl⟩
        by_cases hi2 : i < lo + spl (hi - lo)
        · rw [way_left hc hi2, List.length_cons] at h; omega
        · rw [way_right hc hi2, List.length_cons] at h; omega
      · obtain ⟨q, y, rfl⟩ := snoc_of p hp
        rw [if_neg hp, getD_snoc, List.dropLast_concat]
        by_cases hi2 : i < lo + spl (hi - lo)
        · obtain ⟨ih1, ih2⟩ := way_climb x f lo (lo + spl (hi - lo)) i q h1 hi2 (by omega)
          rw [Nat.add_sub_cancel_left] at ih1 ih2
          rw [way_left hc hi2, if_pos (by omega)]
          simp only [List.length_append, List.length_cons, List.length_nil, List.reverse_cons]
          refine ⟨fun h => ?_, fun h => ih2 (by omega)⟩
          rw [ih1 (by omega), climbW_snoc _ _ _ _ _ (by rw [List.length_reverse]; omega)]
          simp [jn]
        · obtain ⟨ih1, ih2⟩ := way_climb x f (lo + spl (hi - lo)) hi i q (by omega) h2 (by omega)
          rw [way_right hc hi2, if_neg (by omega)]
          rw [show hi - (lo + spl (hi - lo)) = hi - lo - spl (hi - lo) by omega, show i - (lo + spl (hi - lo)) = i - lo - spl (hi - lo) by omega] at ih1 ih2
          simp only [List.length_append, List.length_cons, List.length_nil, List.reverse_cons]
          refine ⟨fun h => ?_, fun h => ih2 (by omega)⟩
          rw [ih1 (by omega), climbW_snoc _ _ _ _ _ (by rw [List.length_reverse]; omega)]
          simp [jn]
    · rw [way_stop hc, if_pos (by simp at hc; omega)]
      simp only [List.length_nil, List.reverse_nil, climbW_nil]
      exact ⟨fun h => by simp [h], fun h => by simp [h]⟩
/-- What shows that a tree has grown, by the document. -/
def subR : Nat → Nat → List Hs → Bool → List Hs
  | 0, _, L, wh => if wh = true then [] else [root nd em L]
  | f + 1, m, L, wh => if m = L.length then (if wh = true then [] else [root nd em L]) else
      if m ≤ spl L.length then subR f m (L.take (spl L.length)) wh ++ [root nd em (L.drop (spl L.length))]
      else subR f (m - spl L.length) (L.drop (spl L.length)) false ++ [root nd em (L.take (spl L.length))]
def grownW (L : List Hs) (r : List Tn × Nat × Nat) : List Hs := (if 0 < r.2.1 then [root nd em (seg L r.2.1 r.2.2)] else []) ++ r.1.reverse.map (rt L)
theorem way_sub (L : List Hs) : ∀ (f lo hi m : Nat), lo < m → m ≤ hi → hi ≤ L.length → hi - lo ≤ 2 ^ f → grownW L (wayP f lo hi (m - 1) false) = subR f (m - lo) (seg L lo hi) (decide (lo = 0))
  | 0, lo, hi, m, h1, h2, h3, h4 => by
    rw [show wayP 0 lo hi (m - 1) false = ([], lo, hi) from rfl]
    simp only [subR, grownW, List.reverse_nil, List.map_nil, List.append_nil, decide_eq_true_eq]
    by_cases h : lo = 0
    · rw [if_pos h, if_neg (by omega)]
    · rw [if_neg h, if_pos (by omega)]
  | f + 1, lo, hi, m, h1, h2, h3, h4 => by
    rw [subR, seg_len h3]
    by_cases hc : m - 1 < hi - 1 ∨ (false = true ∧ lo < m - 1)
    · obtain ⟨k2, kp, kl, kg⟩ := cut_facts (i := m - 1) (by omega) (by omega) hc
      have ks := spl_le k2 h4
      have hc' : m - 1 < hi - 1 := by simpa using hc
      rw [if_neg (by omega)]
      by_cases hi2 : m - 1 < lo + spl (hi - lo)
      · have ih := way_sub L f lo (lo + spl (hi - lo)) m h1 (by omega) (by omega) (by omega)
        rw [way_left hc hi2, if_pos (by omega), seg_take L (by omega), seg_drop, ← ih]
        simp [grownW, rt]
      · have ih := way_sub L f (lo + spl (hi - lo)) hi m (by omega) (by omega) h3 (by omega)
        rw [show decide (lo + spl (hi - lo) = 0) = false by simp; omega] at ih
        rw [way_right hc hi2, if_neg (by omega), seg_take L (by omega), seg_drop, show m - lo - spl (hi - lo) = m - (lo + spl (hi - lo)) by omega, ← ih]
        simp [grownW, rt]
    · rw [way_stop hc, if_pos (by simp at hc; omega)]
      simp only [grownW, List.reverse_nil, List.map_nil, List.append_nil, decide_eq_true_eq]
      by_cases h : lo = 0
      · rw [if_pos h, if_neg (by omega)]
      · rw [if_neg h, if_pos (by omega)]
def bothW : List Tn → Hs → Hs → List Hs → Hs × Hs
  | t :: F, e, l, y :: p => bothW F (if t.left = true then jn t e y else e) (jn t l y) p
  | _, e, l, _ => (e, l)
theorem bothW_nil (e l : Hs) (p : List Hs) : bothW [] e l p = (e, l) := by cases p <;> rfl
theorem bothW_snoc : ∀ (F : List Tn) (e l : Hs) (p : List Hs) (t : Tn) (y : Hs), F.length = p.length → bothW (F ++ [t]) e l (p ++ [y]) = (if t.left = true then jn t (bothW F e l p).1 y else (bothW F e l p).1, jn t (bothW F e l p).2 y)
  | [], e, l, [], t, y, _ => rfl
  | s :: F, e, l, z :: p, t, y, h => by
    simp only [List.cons_append, bothW]
    exact bothW_snoc F _ _ p t y (by simpa using h)
theorem bothW_step {F : List Tn} {p : List Hs} {k : Nat} (h1 : k < F.length) (h2 : k < p.length) (e l : Hs) : bothW (F.take (k + 1)) e l (p.take (k + 1)) = (if F[k].left = true then jn F[k] (bothW (F.take k) e l (p.take k)).1 p[k] else (bothW (F.take k) e l (p.take k)).1, jn F[k] (bothW (F.take k) e l (p.take k)).2 p[k]) := by
  rw [List.take_succ_eq_append_getElem h1, List.take_succ_eq_append_getElem h2, bothW_snoc _ _ _ _ _ _ (by rw [List.length_take, List.length_take]; omega)]
def twoR : Nat → Hs → Nat → Nat → List Hs → Bool → Hs × Hs × Bool
  | 0, a, _, _, p, wh => if wh = true then (a, a, decide (p.length = 0)) else if p.length = 1 then (p.getD 0 zh, p.getD 0 zh, true) else (zh, zh, false)
  | f + 1, a, m, n, p, wh => if m = n then (if wh = true then (a, a, decide (p.length = 0)) else if p.length = 1 then (p.getD 0 zh, p.getD 0 zh, true) else (zh, zh, false)) else if p.length = 0 then (zh, zh, false) else
      if m ≤ spl n then ((twoR f a m (spl n) p.dropLast wh).1, nd (twoR f a m (spl n) p.dropLast wh).2.1 (p.getD (p.length - 1) zh), (twoR f a m (spl n) p.dropLast wh).2.2)
      else (nd (p.getD (p.length - 1) zh) (twoR f a (m - spl n) (n - spl n) p.dropLast false).1, nd (p.getD (p.length - 1) zh) (twoR f a (m - spl n) (n - spl n) p.dropLast false).2.1, (twoR f a (m - spl n) (n - spl n) p.dropLast false).2.2)
/-- What a way begins with, and the path that is left. -/
def fst2 (s : Bool) (a : Hs) (p : List Hs) : Option (Hs × List Hs) := if s = true then (match p with | [] => none | x :: q => some (x, q)) else some (a, p)
def twW (r : List Tn × Nat × Nat) (a : Hs) (p : List Hs) : Option (Hs × Hs) := match fst2 (decide (0 < r.2.1)) a p with | none => none | some (x, q) => if q.length = r.1.length then some (bothW r.1.reverse x x q) else none
theorem tw_stop {lo hi : Nat} {a : Hs} {p : List Hs} : (∀ e l, twW ([], lo, hi) a p = some (e, l) → (if decide (lo = 0) = true then (a, a, decide (p.length = 0)) else if p.length = 1 then (p.getD 0 zh, p.getD 0 zh, true) else (zh, zh, false)) = (e, l, true)) ∧ (twW ([], lo, hi) a p = none → (if decide (lo = 0) = true then (a, a, decide (p.length = 0)) else if p.length = 1 then (p.getD 0 zh, p.getD 0 zh, true) else (zh, zh, false)).2.2 = false) := by
  by_cases h : lo = 0
  · subst h
    simp only [twW, fst2, Nat.lt_irrefl, decide_false, Bool.false_eq_true, if_false, List.length_nil, List.reverse_nil, bothW_nil, decide_true, if_true]
    by_cases hp : p.length = 0
    · simp [hp]
    · simp [hp]
  · have h0 : 0 < lo := by omega
    simp only [twW, fst2, h0, h, decide_true, decide_false, if_true, Bool.false_eq_true, if_false]
    cases p with
    | nil => simp
    | cons x q =>
      simp only [List.length_nil, List.reverse_nil, bothW_nil, List.length_cons]
      by_cases hq : q.length = 0
      · simp [hq]
      · simp [hq]
theorem fst2_snoc {s : Bool} {a : Hs} {q : List Hs} {y : Hs} : fst2 s a (q ++ [y]) = (match fst2 s a q with | some (x, q') => some (x, q' ++ [y]) | none => some (y, [])) := by
  cases s with
  | false => rfl
  | true => cases q <;> rfl
theorem fst2_nil {s : Bool} {a x : Hs} {q : List Hs} (h : fst2 s a [] = some (x, q)) : q = [] := by
  cases s with
  | false => simp [fst2] at h; exact h.2
  | true => simp [fst2] at h
theorem tw_cons {t : Tn} {T : List Tn} {z : Nat × Nat} {a : Hs} {q : List Hs} {y : Hs} : twW (t :: T, z) a (q ++ [y]) = (match twW (T, z) a q with | some (e, l) => some (if t.left = true then jn t e y else e, jn t l y) | none => none) := by
  unfold twW
  simp only
  rw [fst2_snoc]
  cases hf : fst2 (decide (0 < z.1)) a q with
  | none => simp
  | some xq =>
    obtain ⟨x, q'⟩ := xq
    simp only [List.length_append, List.length_cons, List.length_nil]
    by_cases hl : q'.length = T.length
    · rw [if_pos (by omega), if_pos hl]
      simp only [List.reverse_cons]
      rw [bothW_snoc _ _ _ _ _ _ (by rw [List.length_reverse]; omega)]
    · rw [if_neg (by omega), if_neg hl]
theorem tw_none {t : Tn} {T : List Tn} {z : Nat × Nat} {a : Hs} : twW (t :: T, z) a [] = none := by
  unfold twW
  simp only
  cases hf : fst2 (decide (0 < z.1)) a [] with
  | none => rfl
  | some xq =>
    obtain ⟨x, q'⟩ := xq
    rw [fst2_nil hf]
    simp
theorem way_two (a : Hs) : ∀ (f lo hi m : Nat) (p : List Hs), lo < m → m ≤ hi → hi - lo ≤ 2 ^ f →
    (∀ e l, twW (wayP f lo hi (m - 1) false) a p = some (e, l) → twoR f a (m - lo) (hi - lo) p (decide (lo = 0)) = (e, l, true)) ∧ (twW (wayP f lo hi (m - 1) false) a p = none → (twoR f a (m - lo) (hi - lo) p (decide (lo = 0))).2.2 = false)
  | 0, lo, hi, m, p, h1, h2, h3 => by
    simp only [wayP, twoR]
    exact tw_stop
  | f + 1, lo, hi, m, p, h1, h2, h3 => by
    rw [twoR]
    by_cases hc : m - 1 < hi - 1 ∨ (false = true ∧ lo < m - 1)
    · obtain ⟨k2, kp, kl, kg⟩ := cut_facts (i := m - 1) (by omega) (by omega) hc
      have ks := spl_le k2 h3
      have hc' : m - 1 < hi - 1 := by simpa using hc
      rw [if_neg (by omega)]
      by_cases hp : p.length = 0
      · have hp' : p = [] := List.eq_nil_of_length_eq_zero hp
        subst hp'
        rw [if_pos (List.length_nil)]
        refine ⟨fun e l h => ?_, fun _ => rfl⟩
        by_cases hi2 : m - 1 < lo + spl (hi - lo)
        · rw [way_left hc hi2, tw_none] at h; cases h
        · rw [way_right hc hi2, tw_none] at h; cases h
      · obtain ⟨q, y, rfl⟩ := snoc_of p hp
        rw [if_neg hp, getD_snoc, List.dropLast_concat]
        by_cases hi2 : m - 1 < lo + spl (hi - lo)
        · obtain ⟨ih1, ih2⟩ := way_two a f lo (lo + spl (hi - lo)) m q h1 (by omega) (by omega)
          rw [Nat.add_sub_cancel_left] at ih1 ih2
          rw [way_left hc hi2, if_pos (by omega), tw_cons]
          cases ht : twW ((wayP f lo (lo + spl (hi - lo)) (m - 1) false).1, (wayP f lo (lo + spl (hi - lo)) (m - 1) false).2) a q with
          | none => exact ⟨fun e l h => (by simp at h), fun _ => ih2 ht⟩
          | some el =>
            obtain ⟨e, l⟩ := el
            rw [ih1 e l ht]
            refine ⟨fun e' l' h => ?_, fun h => by simp at h⟩
            simp only [Option.some.injEq, Prod.mk.injEq, Bool.false_eq_true, if_false, jn] at h
            simp [h.1, h.2]
        · obtain ⟨ih1, ih2⟩ := way_two a f (lo + spl (hi - lo)) hi m q (by omega) h2 (by omega)
          rw [show decide (lo + spl (hi - lo) = 0) = false by simp; omega, show hi - (lo + spl (hi - lo)) = hi - lo - spl (hi - lo) by omega, show m - (lo + spl (hi - lo)) = m - lo - spl (hi - lo) by omega] at ih1 ih2
          rw [way_right hc hi2, if_neg (by omega), tw_cons]
          cases ht : twW ((wayP f (lo + spl (hi - lo)) hi (m - 1) false).1, (wayP f (lo + spl (hi - lo)) hi (m - 1) false).2) a q with
          | none => exact ⟨fun e l h => (by simp at h), fun _ => ih2 ht⟩
          | some el =>
            obtain ⟨e, l⟩ := el
            rw [ih1 e l ht]
            refine ⟨fun e' l' h => ?_, fun h => by simp at h⟩
            simp only [Option.some.injEq, Prod.mk.injEq, if_true, jn] at h
            simp [h.1, h.2]
    · rw [way_stop hc, if_pos (by simp at hc; omega)]
      exact tw_stop
/-- What Path tells is accepted. -/
theorem climb_path (L : List Hs) : ∀ (f lo hi i : Nat) (h2 : i < hi) (h3 : hi ≤ L.length), lo ≤ i → hi - lo ≤ 2 ^ f → climbW (wayP f lo hi i true).1.reverse (L[i]'(by omega)) ((wayP f lo hi i true).1.reverse.map (rt L)) = root nd em (seg L lo hi)
  | 0, lo, hi, i, h2, h3, h1, h4 => by
    simp only [wayP, List.reverse_nil, List.map_nil, climbW]
    have e1 : lo = i := by simp at h4; omega
    have e2 : hi = i + 1 := by simp at h4; omega
    subst e1 e2
    exact (seg_leaf L (by omega)).symm
  | f + 1, lo, hi, i, h2, h3, h1, h4 => by
    by_cases hc : i < hi - 1 ∨ (true = true ∧ lo < i)
    · obtain ⟨k2, kp, kl, kg⟩ := cut_facts h1 h2 hc
      have ks := spl_le k2 h4
      by_cases hi2 : i < lo + spl (hi - lo)
      · rw [way_left hc hi2, List.reverse_cons, List.map_append, List.map_cons, List.map_nil, climbW_snoc _ _ _ _ _ (by simp), climb_path L f lo _ i hi2 (by omega) h1 (by omega), seg_root L k2 h3]
        simp [jn, rt]
      · rw [way_right hc hi2, List.reverse_cons, List.map_append, List.map_cons, List.map_nil, climbW_snoc _ _ _ _ _ (by simp), climb_path L f _ hi i h2 h3 (by omega) (by omega), seg_root L k2 h3]
        simp [jn, rt]
    · rw [way_stop hc]
      simp only [List.reverse_nil, List.map_nil, climbW]
      have e1 : lo = i := by simp at hc; omega
      have e2 : hi = i + 1 := by simp at hc; omega
      subst e1 e2
      exact (seg_leaf L (by omega)).symm
/-- What Grown tells is accepted. -/
theorem both_grown (L : List Hs) : ∀ (f lo hi m : Nat), lo < m → m ≤ hi → hi ≤ L.length → hi - lo ≤ 2 ^ f →
    bothW (wayP f lo hi (m - 1) false).1.reverse (root nd em (seg L (wayP f lo hi (m - 1) false).2.1 m)) (root nd em (seg L (wayP f lo hi (m - 1) false).2.1 m)) ((wayP f lo hi (m - 1) false).1.reverse.map (rt L)) = (root nd em (seg L lo m), root nd em (seg L lo hi))
  | 0, lo, hi, m, h1, h2, h3, h4 => by
    simp only [wayP, List.reverse_nil, List.map_nil, bothW]
    have e2 : hi = m := by simp at h4; omega
    rw [e2]
  | f + 1, lo, hi, m, h1, h2, h3, h4 => by
    by_cases hc : m - 1 < hi - 1 ∨ (false = true ∧ lo < m - 1)
    · obtain ⟨k2, kp, kl, kg⟩ := cut_facts (i := m - 1) (by omega) (by omega) hc
      have ks := spl_le k2 h4
      have hc' : m - 1 < hi - 1 := by simpa using hc
      by_cases hi2 : m - 1 < lo + spl (hi - lo)
      · have ih := both_grown L f lo (lo + spl (hi - lo)) m h1 (by omega) (by omega) (by omega)
        rw [way_left hc hi2, List.reverse_cons, List.map_append, List.map_cons, List.map_nil, bothW_snoc _ _ _ _ _ _ (by simp), ih, seg_root L k2 h3]
        simp [jn, rt]
      · have ih := both_grown L f (lo + spl (hi - lo)) hi m (by omega) (by omega) h3 (by omega)
        have hk : root nd em (seg L lo m) = nd (root nd em (seg L lo (lo + spl (hi - lo)))) (root nd em (seg L (lo + spl (hi - lo)) m)) := by
          have hm2 : 2 ≤ m - lo := by omega
          obtain ⟨k, hk⟩ : ∃ k, spl (hi - lo) = 2 ^ k := by unfold spl; rw [if_neg (by omega)]; exact ⟨_, rfl⟩
          have hs : spl (m - lo) = spl (hi - lo) := by
            rw [hk]
            exact spl_pow (by omega) (by rw [Nat.pow_succ]; omega)
          rw [seg_root L hm2 (by omega), hs]
        rw [way_right hc hi2, List.reverse_cons, List.map_append, List.map_cons, List.map_nil, bothW_snoc _ _ _ _ _ _ (by simp), ih, seg_root L k2 h3, hk]
        simp [jn, rt]
    · rw [way_stop hc]
      simp only [List.reverse_nil, List.map_nil, bothW]
      have e2 : hi = m := by simp at hc; omega
      rw [e2]
#print axioms both_grown
end Go.Proofs.YtfclmjfbcmjfbaaDoor
