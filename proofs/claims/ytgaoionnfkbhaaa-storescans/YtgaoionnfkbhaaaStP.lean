/-
  A store, plain: what all keys had; keys in order.
-/
import Derived.Test.YtgaoionnfkbhaaaChQ
import Derived.Test.YtgaoionnfkbhaaaChg
namespace Go.Proofs.Ytgaoionnfkbhaaa
open Go.RowKit
/-- A pair: its key, its value, whether it is dead. -/
abbrev Pr : Type := ByteArray × ByteArray × Bool
def em : ByteArray := ⟨#[]⟩
def lt (a b : ByteArray) : Bool := Op.bytesLess a.toList b.toList
theorem less_irrefl : ∀ (x : List UInt8), Op.bytesLess x x = false
  | [] => rfl
  | a :: x => by simp [Op.bytesLess, less_irrefl x]
theorem less_trans : ∀ {x y z : List UInt8}, Op.bytesLess x y = true → Op.bytesLess y z = true → Op.bytesLess x z = true
  | x, [], z, h, _ => by cases x <;> simp [Op.bytesLess] at h
  | x, b :: y, [], _, h => by simp [Op.bytesLess] at h
  | [], b :: y, c :: z, _, _ => rfl
  | a :: x, b :: y, c :: z, h, k => by
    simp only [Op.bytesLess, Bool.or_eq_true, decide_eq_true_eq, Bool.and_eq_true, beq_iff_eq] at h k ⊢
    rcases h with h | ⟨rfl, h⟩
    · rcases k with k | ⟨rfl, k⟩
      · exact .inl (UInt8.lt_trans h k)
      · exact .inl h
    · rcases k with k | ⟨rfl, k⟩
      · exact .inl k
      · exact .inr ⟨rfl, less_trans h k⟩
theorem less_total : ∀ {x y : List UInt8}, Op.bytesLess x y = false → Op.bytesLess y x = false → x = y
  | [], [], _, _ => rfl
  | [], b :: y, h, _ => by simp [Op.bytesLess] at h
  | a :: x, [], _, h => by simp [Op.bytesLess] at h
  | a :: x, b :: y, h, k => by
    simp only [Op.bytesLess, Bool.or_eq_false_iff, decide_eq_false_iff_not, Bool.and_eq_false_imp, beq_iff_eq] at h k
    have e : a = b := by
      have h1 := h.1
      have h2 := k.1
      rw [UInt8.lt_iff_toNat_lt] at h1 h2
      exact UInt8.toNat_inj.1 (by omega)
    subst e
    rw [less_total (h.2 rfl) (k.2 rfl)]
theorem lt_irrefl (a : ByteArray) : lt a a = false := less_irrefl _
theorem lt_trans {a b c : ByteArray} (h : lt a b = true) (k : lt b c = true) : lt a c = true := less_trans h k
theorem lt_total {a b : ByteArray} (h : lt a b = false) (k : lt b a = false) : a = b := ba_inj.1 (less_total h k)
theorem lt_asymm {a b : ByteArray} (h : lt a b = true) : lt b a = false := by
  cases hq : lt b a with
  | false => rfl
  | true => have := lt_trans h hq; rw [lt_irrefl] at this; cases this
theorem lt_ne {a b : ByteArray} (h : lt a b = true) : a ≠ b := fun e => by rw [e, lt_irrefl] at h; cases h
/-- Not below, not above a smaller one: chains of order. -/
theorem lt_of_not {a b c : ByteArray} (h : lt a b = true) (k : lt c b = false) : lt a c = true := by
  cases hq : lt b c with
  | true => exact lt_trans h hq
  | false => rwa [lt_total k hq]
theorem em_list : em.toList = [] := by rw [ByteArray.toList_eq]; rfl
theorem lt_em (a : ByteArray) : lt em a = !a.toList.isEmpty := by
  unfold lt
  rw [em_list]
  cases a.toList <;> rfl
theorem not_lt_em (a : ByteArray) : lt a em = false := by
  unfold lt
  rw [em_list]
  cases a.toList <;> rfl
/-- The string with a nought behind is the next one. -/
theorem less_next : ∀ (x y : List UInt8), (Op.bytesLess y x = false ∧ Op.bytesLess y (x ++ [0]) = true) ↔ y = x
  | [], [] => by simp [Op.bytesLess]
  | [], b :: y => by
    simp only [List.nil_append, Op.bytesLess, reduceCtorEq, iff_false, not_and, Bool.not_eq_true, true_implies]
    cases y <;> simp
  | a :: x, [] => by simp [Op.bytesLess]
  | a :: x, b :: y => by
    have ih := less_next x y
    simp only [List.cons_append, Op.bytesLess, Bool.or_eq_false_iff, decide_eq_false_iff_not, Bool.and_eq_false_imp, beq_iff_eq, Bool.or_eq_true, decide_eq_true_eq, Bool.and_eq_true, List.cons.injEq]
    constructor
    · rintro ⟨⟨h1, h2⟩, h3 | ⟨rfl, h3⟩⟩
      · exact absurd h3 h1
      · exact ⟨rfl, ih.1 ⟨h2 rfl, h3⟩⟩
    · rintro ⟨rfl, rfl⟩
      have := ih.2 rfl
      exact ⟨⟨by simp, fun _ => this.1⟩, .inr ⟨rfl, this.2⟩⟩
theorem lt_next (x y : ByteArray) : (!lt y x && lt y (x ++ ⟨#[0]⟩)) = decide (y = x) := by
  have h := less_next x.toList y.toList
  have e : (x ++ ⟨#[0]⟩ : ByteArray).toList = x.toList ++ [0] := by
    rw [ByteArray.toList_eq, ByteArray.toList_eq]
    simp
  unfold lt
  rw [e, Bool.eq_iff_iff]
  simp only [Bool.and_eq_true, Bool.not_eq_true', decide_eq_true_eq]
  rw [h, ba_inj]
/-- Keys in order. -/
def Srt (ks : List ByteArray) : Prop := ks.Pairwise fun a b => lt a b = true
theorem srt_unique : ∀ {a b : List ByteArray}, Srt a → Srt b → (∀ k, k ∈ a ↔ k ∈ b) → a = b
  | [], [], _, _, _ => rfl
  | [], y :: b, _, _, h => by have := (h y).2 (by simp); simp at this
  | x :: a, [], _, _, h => by have := (h x).1 (by simp); simp at this
  | x :: a, y :: b, ha, hb, h => by
    obtain ⟨ha1, ha2⟩ := List.pairwise_cons.1 ha
    obtain ⟨hb1, hb2⟩ := List.pairwise_cons.1 hb
    have e : x = y := by
      rcases List.mem_cons.1 ((h x).1 (by simp)) with e | hx
      · exact e
      · rcases List.mem_cons.1 ((h y).2 (by simp)) with e | hy
        · exact e.symm
        · have := lt_trans (hb1 x hx) (ha1 y hy)
          rw [lt_irrefl] at this
          cases this
    subst e
    rw [srt_unique ha2 hb2 fun k => ?_]
    constructor
    · intro hk
      rcases List.mem_cons.1 ((h k).1 (by simp [hk])) with e | h'
      · subst e
        have := ha1 k hk
        rw [lt_irrefl] at this
        cases this
      · exact h'
    · intro hk
      rcases List.mem_cons.1 ((h k).2 (by simp [hk])) with e | h'
      · subst e
        have := hb1 k hk
        rw [lt_irrefl] at this
        cases this
      · exact h'
/-- How many keys are below one. -/
def lb (ks : List ByteArray) (t : ByteArray) : Nat := (ks.takeWhile fun k => lt k t).length
theorem lb_le (ks : List ByteArray) (t : ByteArray) : lb ks t ≤ ks.length := (List.takeWhile_sublist _).length_le
theorem lb_at : ∀ {ks : List ByteArray} {t : ByteArray}, Srt ks → ∀ {i : Nat} (hi : i < ks.length), lt ks[i] t = decide (i < lb ks t)
  | [], _, _, i, hi => by simp at hi
  | k :: ks, t, hs, i, hi => by
    obtain ⟨h1, h2⟩ := List.pairwise_cons.1 hs
    unfold lb
    rw [List.takeWhile_cons]
    cases hk : lt k t with
    | false =>
      rw [if_neg (by simp)]
      cases i with
      | zero => simp [hk]
      | succ i =>
        have hm : ks[i]'(by simpa using hi) ∈ ks := List.getElem_mem _
        have := h1 _ hm
        cases hq : lt (ks[i]'(by simpa using hi)) t with
        | false => simp [hq]
        | true => rw [lt_trans this hq] at hk; cases hk
    | true =>
      rw [if_pos (by simp)]
      cases i with
      | zero => simp [hk]
      | succ i =>
        have := lb_at h2 (t := t) (i := i) (by simpa using hi)
        unfold lb at this
        simp [this]
theorem lb_take {ks : List ByteArray} {t : ByteArray} (hs : Srt ks) : ∀ k ∈ ks.take (lb ks t), lt k t = true := by
  intro k hk
  obtain ⟨i, hi, rfl⟩ := List.getElem_of_mem hk
  rw [List.length_take] at hi
  rw [List.getElem_take, lb_at hs (by omega)]
  simp
  omega
theorem lb_drop {ks : List ByteArray} {t : ByteArray} (hs : Srt ks) : ∀ k ∈ ks.drop (lb ks t), lt k t = false := by
  intro k hk
  obtain ⟨i, hi, rfl⟩ := List.getElem_of_mem hk
  rw [List.length_drop] at hi
  rw [List.getElem_drop, lb_at hs (by omega)]
  simp
/-- Is the key there? -/
def fnd (ks : List ByteArray) (t : ByteArray) : Bool := (ks[lb ks t]?).any fun k => k.toList == t.toList

/-- A store. -/
structure SP where
  ch : ByteArray → List Ver
  last : Int
  floor : Int
def sp0 : SP := ⟨fun _ => [], 0, 0⟩
structure Inv (s : SP) (ks : List ByteArray) : Prop where
  srt : Srt ks
  mem : ∀ k, k ∈ ks ↔ s.ch k ≠ []
  good : ∀ k, gd 0 (s.ch k) = true
  le : ∀ k, ∀ v ∈ s.ch k, v.1 ≤ s.last
  fl : 0 ≤ s.floor
  fle : s.floor ≤ s.last
theorem inv0 : Inv sp0 [] := ⟨List.Pairwise.nil, by simp [sp0], fun _ => rfl, by simp [sp0], Int.le_refl _, Int.le_refl _⟩
theorem Inv.unique {s : SP} {a b : List ByteArray} (ha : Inv s a) (hb : Inv s b) : a = b := srt_unique ha.srt hb.srt fun k => (ha.mem k).trans (hb.mem k).symm
/-- May the pair stand behind one of that key? -/
def pOk (p : Pr) (last : ByteArray) : Bool := lt last p.1 && decide (p.1.size ≤ 64) && decide (p.2.1.size ≤ 256) && (!p.2.2 || p.2.1.toList.isEmpty)
def goodP : ByteArray → List Pr → Bool
  | _, [] => true
  | last, p :: l => pOk p last && goodP p.1 l
def verOf (n : Int) (p : Pr) : Ver := (n, p.2.1, p.2.2)
def add1 (ch : ByteArray → List Ver) (n : Int) (p : Pr) : ByteArray → List Ver := fun k => if k = p.1 then ch k ++ [verOf n p] else ch k
def addL (ch : ByteArray → List Ver) (n : Int) (l : List Pr) : ByteArray → List Ver := l.foldl (fun c p => add1 c n p) ch
def instOk (s : SP) (n : Int) (l : List Pr) : Bool := goodP em l && decide (n = s.last + 1)
def instP (s : SP) (n : Int) (l : List Pr) : SP := if instOk s n l = true then ⟨addL s.ch n l, n, s.floor⟩ else s
def mayP (s : SP) (n : Int) : Int := if n < s.floor then 11 else if s.last < n then 2 else 0
def collOk (s : SP) (n : Int) : Bool := decide (s.floor ≤ n) && decide (n ≤ s.last)
def collP (s : SP) (n : Int) : SP := if collOk s n = true then ⟨fun k => trimP (s.ch k) n, s.last, n⟩ else s
def getS (s : SP) (k : ByteArray) (n : Int) : ByteArray × Int :=
  if mayP s n = 0 then (if (getP (s.ch k) n).2 = true then ((getP (s.ch k) n).1.2.1, 0) else (em, 8)) else (em, mayP s n)
def inr (a b k : ByteArray) : Bool := !lt k a && lt k b
def scan1 (s : SP) (n : Int) (k : ByteArray) : Option Pr := if (getP (s.ch k) n).2 = true then some (k, (getP (s.ch k) n).1.2.1, false) else none
def scanL (s : SP) (ks : List ByteArray) (a b : ByteArray) (n : Int) : List Pr := (ks.filter (inr a b)).filterMap (scan1 s n)
def scanS (s : SP) (ks : List ByteArray) (a b : ByteArray) (n most : Int) : List Pr × Int := if mayP s n = 0 then ((scanL s ks a b n).take most.toNat, 0) else ([], mayP s n)
def wroteS (s : SP) (k : ByteArray) (n : Int) : Bool := decide (0 < sinceP (s.ch k) n)
def withinS (s : SP) (ks : List ByteArray) (a b : ByteArray) (n : Int) : Bool := (ks.filter (inr a b)).any fun k => wroteS s k n
def versS (s : SP) (ks : List ByteArray) : Nat := (ks.map fun k => (s.ch k).length).sum
end Go.Proofs.Ytgaoionnfkbhaaa
