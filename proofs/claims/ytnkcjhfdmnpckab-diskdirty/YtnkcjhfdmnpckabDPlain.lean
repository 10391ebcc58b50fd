/-
  A disk that has power and nothing in store: plain lemmas.
-/
import Derived.Test.YtnkcjhfdmnpckabDLight
import Derived.Test.YtnkcjhfdmnpckabDOneC
namespace Go.Proofs.Ytnkcjhfdmnpckab
open Go.RowKit
open Pd (DM spl)
/-- The disk of DiskWrites: power is there, nothing is in store, and the bytes are l. -/
structure Plain (n : Nat) (m : DM) (l : List UInt8) : Prop where
  off : m.off = false
  armed : m.armed = 0
  now : m.now = l
  ok : Pd.Ok n m
theorem plain_new (n : Nat) : Plain n (Pd.new n) (List.replicate (32 * n) 0) := ⟨rfl, rfl, rfl, Pd.ok_new n⟩
theorem Plain.strike {n : Nat} {m : DM} {l : List UInt8} (h : Plain n m l) : Pd.strike m = (false, m) := by unfold Pd.strike; rw [if_pos h.armed]
theorem Plain.sync {n : Nat} {m : DM} {l : List UInt8} (h : Plain n m l) : (Pd.sync m).1 = 0 ∧ Plain n (Pd.sync m).2 l ∧ (Pd.sync m).2.dirty = [] := by
  have ho := h.ok.sync
  by_cases hd : m.dirty = []
  · have e : Pd.sync m = (0, m) := by unfold Pd.sync; rw [if_neg (by rw [h.off]; simp), if_pos hd]
    rw [e]
    exact ⟨rfl, h, hd⟩
  · have e : Pd.sync m = (0, { m with safe := m.now, dirty := [] }) := by unfold Pd.sync; rw [if_neg (by rw [h.off]; simp), if_neg hd, h.strike]
    rw [e] at ho ⊢
    exact ⟨rfl, ⟨h.off, h.armed, h.now, ho⟩, rfl⟩
/-- May b be written at p? -/
def fitsB (n : Nat) (p : Int) (b : List UInt8) : Bool := decide (0 ≤ p) && (decide (p ≤ ((32 * n : Nat) : Int)) && decide ((b.length : Int) ≤ ((32 * n : Nat) : Int) - p))
theorem Plain.write {n : Nat} {m : DM} {l : List UInt8} (h : Plain n m l) (p : Int) (b : List UInt8) (hf : fitsB n p b = true) :
    (Pd.write m p b).1 = 0 ∧ Plain n (Pd.write m p b).2 (spl l p.toNat b) ∧ (Pd.write m p b).2.dirty = Pd.touch m.dirty p.toNat b.length := by
  unfold fitsB at hf
  simp only [Bool.and_eq_true, decide_eq_true_eq] at hf
  have hn := h.ok.now
  have ho := h.ok.write p b
  by_cases hb : b = []
  · have e : Pd.write m p b = (0, m) := by unfold Pd.write; rw [if_neg (by rw [h.off]; simp), if_neg (by omega), if_neg (by omega), if_pos hb]
    rw [e]
    subst hb
    refine ⟨rfl, ?_, rfl⟩
    rw [Pd.spl_nil]
    exact h
  · have e : Pd.write m p b = (0, { m with now := spl m.now p.toNat b, dirty := Pd.touch m.dirty p.toNat b.length }) := by unfold Pd.write; rw [if_neg (by rw [h.off]; simp), if_neg (by omega), if_neg (by omega), if_neg hb, h.strike]
    rw [e] at ho ⊢
    exact ⟨rfl, ⟨h.off, h.armed, by show spl m.now p.toNat b = _; rw [h.now], ho⟩, rfl⟩
theorem Plain.refuse {n : Nat} {m : DM} {l : List UInt8} (h : Plain n m l) (p : Int) (b : List UInt8) (hf : fitsB n p b = false) : ((Pd.write m p b).1 = 2 ∨ (Pd.write m p b).1 = 6) ∧ (Pd.write m p b).2 = m := by
  unfold fitsB at hf
  simp only [Bool.and_eq_false_iff, decide_eq_false_iff_not] at hf
  have hn := h.ok.now
  by_cases hp : p < 0
  · have e : Pd.write m p b = (2, m) := by unfold Pd.write; rw [if_neg (by rw [h.off]; simp), if_pos hp]
    rw [e]
    exact ⟨.inl rfl, rfl⟩
  · have e : Pd.write m p b = (6, m) := by unfold Pd.write; rw [if_neg (by rw [h.off]; simp), if_neg hp, if_pos (by omega)]
    rw [e]
    exact ⟨.inr rfl, rfl⟩
theorem Plain.all {n : Nat} {m : DM} {l : List UInt8} (h : Plain n m l) : Pd.read m 0 ((32 * n : Nat) : Int) = (l, 0) := by
  unfold Pd.read
  rw [if_neg (by rw [h.off]; simp), if_neg (by rw [h.ok.now]; omega)]
  have := h.ok.now
  rw [h.now] at this ⊢
  simp
  rw [List.take_of_length_le (by omega)]
theorem Blk.past {w w' : World} {c c' : Nat → Nat} {E : Nat} {T : TypeId} {cs : List Value} (h : Blk w E T cs) (hs : Step c 1 w c' w') (hE : c E = 0) : Blk w' E T cs := (hs.chg.block E h.lt (by omega)).trans h
end Go.Proofs.Ytnkcjhfdmnpckab
