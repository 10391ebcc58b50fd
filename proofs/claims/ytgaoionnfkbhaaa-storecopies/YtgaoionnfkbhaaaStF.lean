/-
  What a store tells of versions, over a law's own store; plain facts of it.
-/
import Derived.Test.YtgaoionnfkbhaaaStV
import Derived.Test.YtgaoionnfkbhaaaStN
namespace Go.Proofs.Ytgaoionnfkbhaaa
open Go.RowKit
theorem within_iff {s : SP} {ks : List ByteArray} {a b : ByteArray} {n : Int} : withinS s ks a b n = true ↔ ∃ x ∈ ks, inr a b x = true ∧ wroteS s x n = true := by
  simp only [withinS, List.any_eq_true, List.mem_filter, and_assoc]
theorem wrote_within {s : SP} {ks : List ByteArray} (h : Inv s ks) (k : ByteArray) (n : Int) : withinS s ks k (k ++ ⟨#[0]⟩) n = wroteS s k n := by
  rw [Bool.eq_iff_iff, within_iff]
  constructor
  · rintro ⟨x, -, h1, h2⟩
    unfold inr at h1
    rw [lt_next, decide_eq_true_eq] at h1
    rw [← h1]
    exact h2
  · intro hw
    refine ⟨k, ?_, ?_, hw⟩
    · rw [h.mem]
      intro he
      unfold wroteS sinceP at hw
      rw [he] at hw
      simp [past, gd] at hw
    · unfold inr
      rw [lt_next, decide_eq_true_eq]
theorem within_split {s : SP} {ks : List ByteArray} {a m b : ByteArray} {n : Int} (h1 : lt m a = false) (h2 : lt b m = false) : withinS s ks a b n = (withinS s ks a m n || withinS s ks m b n) := by
  rw [Bool.eq_iff_iff, Bool.or_eq_true, within_iff, within_iff, within_iff]
  unfold inr
  simp only [Bool.and_eq_true, Bool.not_eq_true']
  constructor
  · rintro ⟨x, hx, ⟨h3, h4⟩, h5⟩
    cases hm : lt x m with
    | true => exact .inl ⟨x, hx, ⟨h3, hm⟩, h5⟩
    | false => exact .inr ⟨x, hx, ⟨hm, h4⟩, h5⟩
  · rintro (⟨x, hx, ⟨h3, h4⟩, h5⟩ | ⟨x, hx, ⟨h3, h4⟩, h5⟩)
    · exact ⟨x, hx, ⟨h3, lt_of_not h4 h2⟩, h5⟩
    · refine ⟨x, hx, ⟨?_, h4⟩, h5⟩
      cases ha : lt x a with
      | false => rfl
      | true => rw [lt_of_not ha h1] at h3; cases h3
theorem within_late {s : SP} {ks : List ByteArray} (h : Inv s ks) {a b : ByteArray} {n : Int} (hn : s.last ≤ n) : withinS s ks a b n = false := by
  rw [Bool.eq_false_iff]
  intro hw
  obtain ⟨x, -, -, h2⟩ := within_iff.1 hw
  unfold wroteS sinceP at h2
  rw [if_pos (h.good x), decide_eq_true_eq] at h2
  obtain ⟨v, hv⟩ := List.exists_mem_of_length_pos h2
  simp only [past, List.mem_filter, decide_eq_true_eq] at hv
  have := h.le x v hv.1
  omega
theorem LS.wrote {w wr : World} {D i : Nat} {s : SP} {O : Nat → Prop} (h : LS w wr D i s O) (hi : i ≤ 1000) (k : ByteArray) (hk : k.size ≤ maxLen) (n : Int) :
    Calls Try.prog 17 #[.pointer (some ⟨D, 0, none⟩), .string k, .int .i64 n] wr fun e w' => e = .returned (.bool (wroteS s k n)) ∧ Below wr.heap.size wr w' := by
  obtain ⟨M, vk, ks, h1, h2, h3, -⟩ := h
  exact sWrote_any h1.st (by omega) k hk n
theorem LS.within {w wr : World} {D i : Nat} {s : SP} {O : Nat → Prop} (h : LS w wr D i s O) (hi : i ≤ 1000) {ks : List ByteArray} (hks : Inv s ks) (a b : ByteArray) (n : Int) :
    Calls Try.prog 19 #[.pointer (some ⟨D, 0, none⟩), .string a, .string b, .int .i64 n] wr fun e w' => e = .returned (.bool (withinS s ks a b n)) ∧ Below wr.heap.size wr w' := by
  obtain ⟨M, vk, ks', h1, h2, h3, -⟩ := h
  obtain rfl := hks.unique h1.st.inv
  exact within_any h1.st (by omega) (by omega) a b n
theorem LS.lastB {w wr : World} {D i : Nat} {s : SP} {O : Nat → Prop} (h : LS w wr D i s O) : Calls Try.prog 13 #[.pointer (some ⟨D, 0, none⟩)] wr fun e w' => e = .returned (.int .i64 s.last) ∧ Below wr.heap.size wr w' :=
  h.last.mono fun _ _ ⟨he, hw⟩ => ⟨he, hw ▸ Below.refl _ _⟩
/-- Within from a key to the next: what Wrote says. -/
theorem LS.next {w wr : World} {D i : Nat} {s : SP} {O : Nat → Prop} (h : LS w wr D i s O) (hi : i ≤ 1000) (a : ByteArray) (n : Int) :
    Calls Try.prog 19 #[.pointer (some ⟨D, 0, none⟩), .string a, .string (a ++ (⟨#[0]⟩ : ByteArray)), .int .i64 n] wr fun e w' => e = .returned (.bool (wroteS s a n)) ∧ Below wr.heap.size wr w' := by
  obtain ⟨ks, hks, -⟩ := h.good
  have := h.within hi hks a (a ++ (⟨#[0]⟩ : ByteArray)) n
  rw [wrote_within hks] at this
  exact this
end Go.Proofs.Ytgaoionnfkbhaaa
