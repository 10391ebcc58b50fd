/-
  What may stand behind others, plain: records, reads, spans, what touches what.
-/
import Derived.Test.YtmicmbjbclkbjaaBfP
namespace Go.Proofs.Ytmicmbjbclkbjaa
open Go.RowKit
/-- What was read: whether a range, its begin, its end, what was there; and where that lies. -/
structure Rz where
  sc : Bool
  k : ByteArray
  t : ByteArray
  ps : List Pr
  ha : Option Addr
  hc : Nat
/-- A record: its session, its snapshot, whether it is strict, what it read, what it wrote; and where these lie. -/
structure Rc where
  ses : Int
  snap : Int
  st : Bool
  rs : List Rz
  ws : List Pr
  ra : Option Addr
  rc : Nat
  wa : Option Addr
  wc : Nat
/-- A read without where it lies. -/
def plR (x : Rz) : Bool × ByteArray × ByteArray × List Pr := (x.sc, x.k, x.t, x.ps)
/-- The keys from one on, below another. -/
abbrev Sp : Type := ByteArray × ByteArray
def inS (s : Sp) (k : ByteArray) : Bool := !lt k s.1 && lt k s.2
/-- A key with a nought behind it. -/
def nul (k : ByteArray) : ByteArray := k.append ⟨#[0]⟩
def aloneP (k : ByteArray) : Sp := (k, nul k)
def reachP (x : Rz) : Sp := if x.sc = true then (x.k, x.t) else aloneP x.k
theorem nul_list (k : ByteArray) : (nul k).toList = k.toList ++ [0] := by
  rw [ByteArray.toList_eq, ByteArray.toList_eq]
  unfold nul
  have : (k.append ⟨#[0]⟩).data = k.data ++ #[0] := by simp
  rw [this]
  simp
theorem nul_size (k : ByteArray) : (nul k).size = k.size + 1 := by
  have h := congrArg List.length (nul_list k)
  rw [ByteArray.toList_eq, ByteArray.toList_eq, List.length_append] at h
  simpa using h
theorem less_nul : ∀ (x y : List UInt8), (!Op.bytesLess x y && Op.bytesLess x (y ++ [0])) = (x == y)
  | [], [] => rfl
  | [], b :: y => rfl
  | a :: x, [] => by
    simp only [List.nil_append, Op.bytesLess]
    have h0 : ¬ a < 0 := by rw [UInt8.lt_iff_toNat_lt]; exact Nat.not_lt_zero _
    have h1 : Op.bytesLess x [] = false := by cases x <;> rfl
    simp [h0]
  | a :: x, b :: y => by
    have ih := less_nul x y
    simp only [List.cons_append, Op.bytesLess]
    by_cases h1 : a < b
    · have h2 : a ≠ b := fun e => by subst e; rw [UInt8.lt_iff_toNat_lt] at h1; omega
      simp [h1, h2]
    · by_cases h2 : a = b
      · subst h2
        simpa [h1] using ih
      · have h3 : (a == b) = false := by simpa using h2
        rw [h3]
        simp [h1, h2]
theorem inS_alone (k j : ByteArray) : inS (aloneP k) j = (j.toList == k.toList) := by
  unfold inS aloneP lt
  rw [nul_list]
  exact less_nul _ _
/-- Whether a record wrote a key. -/
def wroteP (r : Rc) (k : ByteArray) : Bool := r.ws.any fun p => p.1.toList == k.toList
/-- Whether a read asked for a key. -/
def askP (x : Rz) (k : ByteArray) : Bool := (!x.sc && k.toList == x.k.toList) || (x.sc && (!lt k x.k && lt k x.t))
def touchP (r : Rc) (x : Rz) : Bool := r.ws.any fun p => askP x p.1
theorem ask_reach (x : Rz) (k : ByteArray) : askP x k = inS (reachP x) k := by
  unfold askP reachP
  cases x.sc with
  | true => simp [inS]
  | false => rw [if_neg (by simp), inS_alone]; simp
/-- Whether a record wrote a key of any span. -/
def hitP (l : List Sp) (r : Rc) : Bool := r.ws.any fun p => l.any fun s => inS s p.1
def spW (r : Rc) : List Sp := r.ws.map fun p => aloneP p.1
def spR (r : Rc) : List Sp := r.rs.map reachP
/-- The first that is so; -1: none is. -/
def fstI {α : Type} (f : α → Bool) : List α → Nat → Int
  | [], _ => -1
  | x :: l, i => if f x = true then (i : Int) else fstI f l (i + 1)
def clashP (r : Rc) (l : List Rc) : Int := fstI (hitP (spW r)) l 0
def staleP (r : Rc) (l : List Rc) : Int := fstI (hitP (spR r)) l 0
def mayP (r : Rc) (l : List Rc) : Bool := decide (0 ≤ clashP r l) || (r.st && decide (0 ≤ staleP r l))
theorem hit_alone (r : Rc) (k : ByteArray) : hitP [aloneP k] r = wroteP r k := by
  unfold hitP wroteP
  simp [inS_alone]
theorem hit_reach (r : Rc) (x : Rz) : hitP [reachP x] r = touchP r x := by
  unfold hitP touchP
  simp [ask_reach]
theorem any_swap {α β : Type} (f : α → β → Bool) (l : List α) (m : List β) : (l.any fun x => m.any fun y => f x y) = (m.any fun y => l.any fun x => f x y) := by
  rw [Bool.eq_iff_iff]
  simp only [List.any_eq_true]
  exact ⟨fun ⟨x, hx, y, hy, h⟩ => ⟨y, hy, x, hx, h⟩, fun ⟨y, hy, x, hx, h⟩ => ⟨x, hx, y, hy, h⟩⟩
theorem hit_clash (r o : Rc) : hitP (spW r) o = r.ws.any fun p => wroteP o p.1 := by
  unfold hitP spW wroteP
  rw [any_swap (fun (p : Pr) (q : Pr) => q.1.toList == p.1.toList)]
  refine congrArg (List.any o.ws) (funext fun q => ?_)
  rw [List.any_map]
  exact congrArg (List.any r.ws) (funext fun p => inS_alone _ _)
theorem hit_stale (r o : Rc) : hitP (spR r) o = r.rs.any fun x => touchP o x := by
  unfold hitP spR touchP
  rw [any_swap (fun (x : Rz) (q : Pr) => askP x q.1)]
  refine congrArg (List.any o.ws) (funext fun q => ?_)
  rw [List.any_map]
  exact congrArg (List.any r.rs) (funext fun x => (ask_reach _ _).symm)
theorem fst_hit {α : Type} {f : α → Bool} : ∀ {l : List α} {k i : Nat} (h : k < l.length), f l[k] = true → (∀ j (hj : j < l.length), j < k → f l[j] = false) → fstI f l i = ((i + k : Nat) : Int)
  | [], k, i, h, _, _ => by simp at h
  | x :: l, 0, i, _, h1, _ => by
    simp only [List.getElem_cons_zero] at h1
    simp [fstI, h1]
  | x :: l, k + 1, i, h, h1, h2 => by
    have h0 := h2 0 (by simp) (by omega)
    simp only [List.getElem_cons_zero] at h0
    have := fst_hit (f := f) (l := l) (k := k) (i := i + 1) (by simpa using h) (by simpa using h1) (fun j hj hjk => by
      have := h2 (j + 1) (by simpa using hj) (by omega)
      simpa using this)
    simp only [fstI, h0]
    rw [if_neg (by simp), this]
    congr 1
    omega
theorem fst_none {α : Type} {f : α → Bool} : ∀ {l : List α} {i : Nat}, (∀ x ∈ l, f x = false) → fstI f l i = -1
  | [], _, _ => rfl
  | x :: l, i, h => by
    simp only [fstI, h x (by simp)]
    rw [if_neg (by simp)]
    exact fst_none fun y hy => h y (by simp [hy])
theorem fst_any {α : Type} {f : α → Bool} : ∀ {l : List α} {i : Nat}, decide (0 ≤ fstI f l i) = l.any f
  | [], _ => rfl
  | x :: l, i => by
    rw [List.any_cons]
    cases h : f x with
    | true => simp [fstI, h]
    | false =>
      have e : fstI f (x :: l) i = fstI f l (i + 1) := by simp [fstI, h]
      rw [e, fst_any, Bool.false_or]
theorem fst_congr {α : Type} {f g : α → Bool} {l : List α} {i : Nat} (h : ∀ x ∈ l, f x = g x) : fstI f l i = fstI g l i := by
  induction l generalizing i with
  | nil => rfl
  | cons x l ih => simp only [fstI]; rw [h x (by simp), ih fun y hy => h y (by simp [hy])]
theorem may_any (r : Rc) (l : List Rc) : mayP r l = (l.any (hitP (spW r)) || (r.st && l.any (hitP (spR r)))) := by
  unfold mayP clashP staleP
  rw [fst_any, fst_any]
theorem fst_range {α : Type} {f : α → Bool} : ∀ {l : List α} {i : Nat}, -1 ≤ fstI f l i ∧ fstI f l i < ((i + l.length : Nat) : Int) + 1
  | [], i => ⟨by simp [fstI], by simp [fstI]; omega⟩
  | x :: l, i => by
    simp only [fstI, List.length_cons]
    have := fst_range (f := f) (l := l) (i := i + 1)
    split
    · omega
    · omega
/-- The greater of two. -/
def mxB (a b : ByteArray) : ByteArray := if lt a b = true then b else a
theorem lt_mx (k a b : ByteArray) : lt k (mxB a b) = (lt k a || lt k b) := by
  unfold mxB
  cases h : lt a b with
  | true =>
    rw [if_pos rfl]
    cases h1 : lt k a with
    | false => simp
    | true => rw [lt_trans h1 h]; rfl
  | false =>
    rw [if_neg (by simp)]
    cases h1 : lt k b with
    | false => simp
    | true => rw [lt_of_not h1 h]; rfl
/-- The greatest end of the first ones. -/
def topE : List Sp → Nat → ByteArray
  | L, 0 => (L.getD 0 (em, em)).2
  | L, i + 1 => mxB (L.getD (i + 1) (em, em)).2 (topE L i)
theorem lt_top (L : List Sp) (k : ByteArray) : ∀ i, lt k (topE L i) = true ↔ ∃ j, j ≤ i ∧ lt k (L.getD j (em, em)).2 = true
  | 0 => by
    show lt k (L.getD 0 (em, em)).2 = true ↔ _
    refine ⟨fun h => ⟨0, Nat.le_refl _, h⟩, fun ⟨j, hj, h⟩ => ?_⟩
    obtain rfl : j = 0 := by omega
    exact h
  | i + 1 => by
    have ih := lt_top L k i
    show lt k (mxB _ _) = true ↔ _
    rw [lt_mx, Bool.or_eq_true, ih]
    refine ⟨fun h => ?_, fun ⟨j, hj, h⟩ => ?_⟩
    · rcases h with h | ⟨j, hj, h⟩
      · exact ⟨i + 1, Nat.le_refl _, h⟩
      · exact ⟨j, by omega, h⟩
    · by_cases e : j = i + 1
      · subst e; exact .inl h
      · exact .inr ⟨j, by omega, h⟩
/-- The first i spans have the greatest end of all up to them. -/
def Upp (S : List Sp) (i : Nat) (M : List Sp) : Prop := M.length = S.length ∧ ∀ j (h : j < M.length), M[j] = (if j < i then ((S.getD j (em, em)).1, topE S j) else S.getD j (em, em))
/-- Spans in order, as they are looked at. -/
def Ord (l M : List Sp) : Prop := ∃ S : List Sp, S.Perm l ∧ S.Pairwise (fun a b => lt b.1 a.1 = false) ∧ Upp S S.length M
/-- How many of the first ones begin no later than a key. -/
def beg (k : ByteArray) (M : List Sp) : Nat := (M.takeWhile fun s => !lt k s.1).length
def haveP (M : List Sp) (k : ByteArray) : Bool := decide (0 < beg k M) && lt k (M.getD (beg k M - 1) (em, em)).2
theorem beg_le (k : ByteArray) (M : List Sp) : beg k M ≤ M.length := (List.takeWhile_sublist _).length_le
theorem beg_at : ∀ {M : List Sp} (k : ByteArray), M.Pairwise (fun a b => lt b.1 a.1 = false) → ∀ {m : Nat} (h : m < M.length), lt k M[m].1 = decide (beg k M ≤ m)
  | [], _, _, m, h => by simp at h
  | s :: M, k, hs, m, h => by
    obtain ⟨h1, h2⟩ := List.pairwise_cons.1 hs
    unfold beg
    cases hq : lt k s.1 with
    | false =>
      rw [List.takeWhile_cons, if_pos (by rw [hq]; rfl), List.length_cons]
      cases m with
      | zero => simp [hq]
      | succ m =>
        have := beg_at k h2 (m := m) (by simpa using h)
        rw [List.getElem_cons_succ, this]
        show _ = decide (beg k M + 1 ≤ m + 1)
        simp
    | true =>
      rw [List.takeWhile_cons, if_neg (by rw [hq]; simp), List.length_nil, decide_eq_true (Nat.zero_le _)]
      cases m with
      | zero => exact hq
      | succ m =>
        simp only [List.getElem_cons_succ]
        have hm : M[m]'(by simpa using h) ∈ M := List.getElem_mem _
        exact lt_of_not hq (h1 _ hm)
theorem getD_at {S : List Sp} {j : Nat} (h : j < S.length) : S.getD j (em, em) = S[j] := by simp [List.getD, h]
theorem Ord.srt {l M : List Sp} (h : Ord l M) : M.Pairwise (fun a b => lt b.1 a.1 = false) := by
  obtain ⟨S, -, hs, hl, hM⟩ := h
  rw [List.pairwise_iff_getElem] at hs ⊢
  intro i j hi hj hij
  rw [hM i hi, hM j hj, if_pos (by omega), if_pos (by omega)]
  simp only
  rw [getD_at (by omega), getD_at (by omega)]
  exact hs i j (by omega) (by omega) hij
theorem Ord.len {l M : List Sp} (h : Ord l M) : M.length = l.length := by
  obtain ⟨S, hp, -, hl, -⟩ := h
  rw [hl, hp.length_eq]
theorem Ord.have {l M : List Sp} (h : Ord l M) (k : ByteArray) : haveP M k = l.any fun s => inS s k := by
  have hsM := h.srt
  obtain ⟨S, hp, hs, hl, hM⟩ := h
  have hS : (l.any fun s => inS s k) = S.any fun s => inS s k := by
    rw [Bool.eq_iff_iff]
    simp only [List.any_eq_true]
    exact ⟨fun ⟨x, hx, h⟩ => ⟨x, hp.mem_iff.2 hx, h⟩, fun ⟨x, hx, h⟩ => ⟨x, hp.mem_iff.1 hx, h⟩⟩
  rw [hS]
  have hb := beg_le k M
  have hfst : ∀ j (hj : j < M.length), M[j].1 = (S[j]'(by omega)).1 := fun j hj => by
    rw [hM j hj, if_pos (by omega), getD_at (by omega)]
  have hat : ∀ j (hj : j < M.length), lt k (S[j]'(by omega)).1 = decide (beg k M ≤ j) := fun j hj => by
    rw [← hfst j hj]
    exact beg_at k hsM hj
  rw [Bool.eq_iff_iff]
  unfold haveP
  rw [Bool.and_eq_true, decide_eq_true_eq, List.any_eq_true]
  refine ⟨fun ⟨h0, h1⟩ => ?_, fun ⟨x, hx, hi⟩ => ?_⟩
  · have hb1 : beg k M - 1 < M.length := by omega
    rw [getD_at hb1, hM _ hb1, if_pos (by omega)] at h1
    simp only at h1
    obtain ⟨j, hj, h2⟩ := (lt_top S k _).1 h1
    have hjM : j < M.length := by omega
    have hjS : j < S.length := by omega
    rw [getD_at hjS] at h2
    refine ⟨S[j], List.getElem_mem _, ?_⟩
    unfold inS
    rw [hat j hjM, h2, decide_eq_false (by omega)]
    rfl
  · obtain ⟨j, hj, rfl⟩ := List.getElem_of_mem hx
    have hjM : j < M.length := by omega
    unfold inS at hi
    rw [hat j hjM, Bool.and_eq_true] at hi
    have hbj : j < beg k M := by
      have := hi.1
      simpa using this
    have hb1 : beg k M - 1 < M.length := by omega
    refine ⟨by omega, ?_⟩
    rw [getD_at hb1, hM _ hb1, if_pos (by omega)]
    exact (lt_top S k _).2 ⟨j, by omega, by rw [getD_at hj]; exact hi.2⟩
theorem Ord.hit {l M : List Sp} (h : Ord l M) (r : Rc) : (r.ws.any fun p => haveP M p.1) = hitP l r := by
  unfold hitP
  congr 1
  funext p
  exact h.have p.1
/-- Whether a key was read ahead. -/
def again (acc : List Rz) (x : Rz) : Bool := acc.any fun y => !x.sc && !y.sc && x.k.toList == y.k.toList
/-- What was read, of each key by its first read alone, and every range. -/
def ownA (acc : List Rz) : List Rz → List Rz
  | [] => acc
  | x :: l => if again acc x = true then ownA acc l else ownA (acc ++ [x]) l
def ownP (l : List Rz) : List Rz := ownA [] l
/-- Whether a read that begins so was seen. -/
def seenP (pre : List Rz) (x : Rz) : Bool := pre.any fun y => (y.sc == x.sc) && (y.k.toList == x.k.toList)
/-- What is kept of the first ones. -/
def keptP (acc pre : List Rz) : Prop := ∀ k : ByteArray, (acc.any fun y => !y.sc && k.toList == y.k.toList) = (pre.any fun y => !y.sc && k.toList == y.k.toList)
theorem kept_nil : keptP [] [] := fun _ => rfl
theorem kept_again {acc pre : List Rz} (h : keptP acc pre) (x : Rz) : again acc x = (seenP pre x && !x.sc) := by
  unfold again seenP
  cases x.sc with
  | true => simp
  | false =>
    have h1 : (pre.any fun y => (y.sc == false) && (y.k.toList == x.k.toList)) = (pre.any fun y => !y.sc && x.k.toList == y.k.toList) := by
      congr 1
      funext y
      rw [Bool.beq_comm (a := y.k.toList)]
      cases y.sc <;> rfl
    rw [h1, ← h x.k]
    simp
theorem kept_skip {acc pre : List Rz} (h : keptP acc pre) {x : Rz} (hx : again acc x = true) : keptP acc (pre ++ [x]) := fun k => by
  rw [List.any_append, ← h k]
  cases hq : (!x.sc && k.toList == x.k.toList) with
  | false => simp [hq]
  | true =>
    rw [Bool.and_eq_true, beq_iff_eq] at hq
    unfold again at hx
    simp only [hq.1, Bool.true_and] at hx
    rw [hq.2, hx]
    rfl
theorem kept_more {acc pre : List Rz} (h : keptP acc pre) (x : Rz) : keptP (acc ++ [x]) (pre ++ [x]) := fun k => by
  rw [List.any_append, List.any_append, h k]
end Go.Proofs.Ytmicmbjbclkbjaa
