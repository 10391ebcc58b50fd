/-
  The reference's Trim: what the call does.
-/
import Derived.Test.YtgaoionnfkbhaabChI
namespace Go.Proofs.Ytgaoionnfkbhaab
open Go.RowKit

/-- Where what is left begins. -/
def fstP (L : List Ver) (n : Int) : Nat := match (upto n L).getLast? with
  | none => 0
  | some v => if v.2.2 = true then (upto n L).length else (upto n L).length - 1
theorem trimP_drop {L : List Ver} {n : Int} (h : gd 0 L = true) : trimP L n = L.drop (fstP L n) := by
  cases e : (upto n L).getLast? with
  | none =>
    have hu : upto n L = [] := List.getLast?_eq_none_iff.1 e
    rw [trimP_none h (by rw [hu]; rfl)]
    unfold fstP
    rw [e]
  | some v =>
    unfold fstP
    rw [e]
    cases hd : v.2.2 with
    | true => rw [trimP_dead h e hd]; simp [hd]
    | false => rw [trimP_live h e hd]; simp [hd]
theorem fst_le (L : List Ver) (n : Int) : fstP L n ≤ (upto n L).length ∧ (upto n L).length ≤ fstP L n + 1 := by
  unfold fstP
  cases e : (upto n L).getLast? with
  | none =>
    have hu : upto n L = [] := List.getLast?_eq_none_iff.1 e
    rw [hu]
    simp
  | some v =>
    simp only
    split <;> omega
/-- Is one of those behind place i at most n? -/
theorem later_at {L : List Ver} (hr : Rise L) (n : Int) (i : Nat) : ((L.drop (i + 1)).any fun v => decide (v.1 ≤ n)) = decide (i + 1 < (upto n L).length) := by
  have hul := upto_le n L
  rw [Bool.eq_iff_iff, List.any_eq_true, decide_eq_true_eq]
  constructor
  · rintro ⟨v, hv, hle⟩
    simp only [decide_eq_true_eq] at hle
    obtain ⟨j, hj, rfl⟩ := List.getElem_of_mem hv
    rw [List.length_drop] at hj
    rw [List.getElem_drop] at hle
    have := upto_at (n := n) hr (i := i + 1 + j) (by omega)
    rw [decide_eq_decide] at this
    omega
  · intro h
    have := upto_at (n := n) hr (i := i + 1) (by omega)
    rw [decide_eq_decide] at this
    refine ⟨L[i + 1]'(by omega), ?_, ?_⟩
    · rw [drop_cons (by omega : i + 1 < L.length)]
      exact List.mem_cons_self
    · simp only [decide_eq_true_eq]
      omega
theorem take_drop_snoc {L : List Ver} {i : Nat} (f : Nat) (h : i < L.length) : (L.take (i + 1)).drop f = (L.take i).drop f ++ if f ≤ i then [L[i]] else [] := by
  rw [take_snoc h, List.drop_append, List.length_take, Nat.min_eq_left (by omega)]
  congr 1
  by_cases hf : f ≤ i
  · rw [if_pos hf, show f - i = 0 by omega]
    rfl
  · rw [if_neg hf, List.drop_of_length_le (by simp; omega)]
/-- The one that is left first: is it dead, and at most n? -/
theorem first_at {L : List Ver} (h : gd 0 L = true) {n : Int} {i : Nat} (hi : i < L.length) (hl : (upto n L).length ≤ i + 1) : (((L.take i).drop (fstP L n)).isEmpty && (L[i].2.2 && decide (L[i].1 ≤ n))) = decide (i < fstP L n) := by
  have hr := (gd_rise h).1
  have ha := upto_at (n := n) hr hi
  rw [decide_eq_decide] at ha
  obtain ⟨hf1, hf2⟩ := fst_le L n
  by_cases hu : (upto n L).length ≤ i
  · have e : decide (L[i].1 ≤ n) = false := by simp; omega
    rw [e]
    simp
    omega
  · have e : (upto n L).length = i + 1 := by omega
    have hlast := upto_last' (n := n) hr (by omega)
    rw [e, Nat.add_sub_cancel, List.getElem?_eq_getElem hi] at hlast
    have e1 : decide (L[i].1 ≤ n) = true := by simp; omega
    have e2 : (L.take i).drop (fstP L n) = [] := List.drop_of_length_le (by rw [List.length_take]; omega)
    rw [e1, e2]
    unfold fstP
    rw [hlast, e]
    cases hd : L[i].2.2 <;> simp [hd]

end Go.Proofs.Ytgaoionnfkbhaab
