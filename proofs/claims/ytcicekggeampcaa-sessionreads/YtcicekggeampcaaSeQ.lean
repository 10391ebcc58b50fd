/-
  What a transaction that the law made has read, plain.
-/
import Derived.Test.YtcicekggeampcaaSeX
namespace Go.Proofs.Ytcicekggeampcaa
open Go.RowKit
/-- A read tells what there was at the end of the store. -/
structure GoodX (s : SP) (ks : List ByteArray) (x : Rp) : Prop where
  k : x.2.1.size ≤ 64
  len : x.2.2.2.length ≤ 200
  scan : x.1 = true → scanS s ks x.2.1 x.2.2.1 s.last 201 = (x.2.2.2, 0)
  key : x.1 = false → ((getS s x.2.1 s.last).2 = 0 ∧ x.2.2.2 = [(x.2.1, (getS s x.2.1 s.last).1, false)]) ∨ ((getS s x.2.1 s.last).2 = 8 ∧ x.2.2.2 = [])
/-- A transaction whose reads tell what there was, of each key once. -/
structure GoodT (s : SP) (ks : List ByteArray) (t : Tx) : Prop where
  snap : t.snap = s.last
  st : t.st = true
  all : ∀ x ∈ t.R, GoodX s ks x
  one : t.R.Pairwise fun x y => x.1 = false → y.1 = false → x.2.1 ≠ y.2.1
theorem GoodT.more {s : SP} {ks : List ByteArray} {t : Tx} (h : GoodT s ks t) : GoodT s ks t.more := ⟨h.snap, h.st, h.all, h.one⟩
theorem GoodT.begin (s : SP) (ks : List ByteArray) : GoodT s ks ⟨s.last, true, [], [], 0⟩ := ⟨rfl, rfl, fun x hx => (by cases hx), List.Pairwise.nil⟩
theorem GoodT.saw {s : SP} {ks : List ByteArray} {t : Tx} (h : GoodT s ks t) {k : ByteArray} {ps : List Pr} (hx : GoodX s ks (false, k, em, ps)) : GoodT s ks { t with R := sawP t.R k ps } := by
  unfold sawP
  cases hs : seenK t.R k with
  | true => exact ⟨h.snap, h.st, by simpa using h.all, by simpa using h.one⟩
  | false =>
    refine ⟨h.snap, h.st, fun y hy => ?_, ?_⟩
    · simp only [Bool.false_eq_true, if_false] at hy
      rcases List.mem_append.1 hy with hy | hy
      · exact h.all y hy
      · rw [List.mem_singleton] at hy
        rw [hy]
        exact hx
    · simp only [Bool.false_eq_true, if_false]
      rw [List.pairwise_append]
      refine ⟨h.one, List.pairwise_singleton _ _, fun y hy z hz hy1 _ => ?_⟩
      rw [List.mem_singleton] at hz
      subst hz
      intro e
      unfold seenK at hs
      rw [List.any_eq_false] at hs
      have := hs y hy
      simp only at e
      rw [hy1, e] at this
      simp at this
theorem GoodT.get {s : SP} {ks : List ByteArray} {t : Tx} (h : GoodT s ks t) (k : ByteArray) : GoodT s ks (getT s t k).2 := by
  unfold getT
  split
  · exact h
  · split
    · exact h.more
    · rename_i hk
      split
      · exact h.more
      · rw [h.snap]
        simp only
        split
        · rename_i h0
          exact h.more.saw ⟨by simp only; omega, by simp, fun e => (by cases e), fun _ => .inl ⟨h0, rfl⟩⟩
        · split
          · rename_i h0
            exact h.more.saw ⟨by simp only; omega, by simp, fun e => (by cases e), fun _ => .inr ⟨h0, rfl⟩⟩
          · exact h.more
theorem GoodT.put {s : SP} {ks : List ByteArray} {t : Tx} (h : GoodT s ks t) (p : Pr) : GoodT s ks (putT t p).2 := by
  unfold putT
  split
  · exact h
  · exact ⟨h.snap, h.st, h.all, h.one⟩
theorem GoodT.scan {s : SP} {ks : List ByteArray} {t : Tx} (h : GoodT s ks t) (a b : ByteArray) : GoodT s ks (scanT s ks t a b).2 := by
  unfold scanT
  split
  · exact h
  · split
    · exact h.more
    · rename_i hk
      split
      · exact h.more
      · rename_i h0
        split
        · exact h.more
        · rename_i h2
          refine ⟨h.snap, h.st, fun y hy => ?_, ?_⟩
          · rcases List.mem_append.1 hy with hy | hy
            · exact h.all y hy
            · rw [List.mem_singleton] at hy
              subst hy
              rw [h.snap] at h0 h2 ⊢
              refine ⟨by simp only; omega, by simp only; omega, fun _ => ?_, fun e => by cases e⟩
              simp only [ne_eq, Decidable.not_not] at h0
              exact Prod.ext rfl h0
          · show List.Pairwise _ (t.R ++ _)
            rw [List.pairwise_append]
            refine ⟨h.one, List.pairwise_singleton _ _, fun y _ z hz _ h5 => ?_⟩
            rw [List.mem_singleton] at hz
            subst hz
            cases h5
theorem scan_more {s : SP} {ks : List ByteArray} {a b : ByteArray} {n : Int} {ps : List Pr} (h : scanS s ks a b n 201 = (ps, 0)) (hl : ps.length ≤ 200) : scanS s ks a b n 300 = (ps, 0) := by
  unfold scanS at h ⊢
  split
  · rename_i h0
    rw [if_pos h0] at h
    have h1 : (scanL s ks a b n).take 201 = ps := (Prod.mk.inj h).1
    have h2 : (scanL s ks a b n).length ≤ 200 := by
      have := congrArg List.length h1
      rw [List.length_take] at this
      omega
    have e2 : (300 : Int).toNat = 300 := rfl
    rw [e2, List.take_of_length_le (by omega)]
    rw [List.take_of_length_le (by omega)] at h1
    rw [h1]
  · rename_i h0
    rw [if_neg h0] at h
    exact h
theorem GoodT.lens {s : SP} {ks : List ByteArray} {t : Tx} (h : GoodT s ks t) : ∀ x ∈ t.R, x.2.2.2.length ≤ 1000000 := fun x hx => Nat.le_trans (h.all x hx).len (by decide)
end Go.Proofs.Ytcicekggeampcaa
