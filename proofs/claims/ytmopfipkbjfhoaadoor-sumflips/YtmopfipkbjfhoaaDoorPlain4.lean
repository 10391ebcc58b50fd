/-
  Plain mathematics of frames: what was framed is opened; cut off it is none; with one byte turned it is none of as many bytes.
-/
import Derived.Test.YtmopfipkbjfhoaaDoorPlain3
import Derived.Test.YtmopfipkbjfhoaaDoorOpen0
namespace Go.Proofs.YtmopfipkbjfhoaaDoor

theorem small_pow' {n : Nat} (h : n ≤ 8192) : n < 256 ^ 8 := by
  have : (256 : Nat) ^ 8 = 18446744073709551616 := by decide
  omega
theorem framed_length (l : List UInt8) : (framed l).length = (enc l.length).length + l.length + 4 := by
  simp [framed, headed, be4_length]; omega
theorem gn_framed (l r : List UInt8) (h : l.length ≤ 8192) : gn (framed l ++ r) = (l.length, (enc l.length).length, true) := by
  unfold framed headed
  rw [List.append_assoc, List.append_assoc]
  exact gn_enc _ _ (small_pow' h)
theorem opn_framed (l r : List UInt8) (h : l.length ≤ 8192) : opn (framed l ++ r) = (l, (framed l).length, true) := by
  have hg := gn_framed l r h
  have hL := framed_length l
  have hhl : (headed l).length = (enc l.length).length + l.length := by simp [headed]
  have e1 : (framed l ++ r).take ((enc l.length).length + l.length) = headed l := by
    rw [← hhl]; unfold framed; rw [List.append_assoc]; exact List.take_left
  have e2 : (framed l ++ r).drop ((enc l.length).length + l.length) = be4 (crc (headed l)) ++ r := by
    rw [← hhl]; unfold framed; rw [List.append_assoc]; exact List.drop_left
  rw [opn_yes hg h (by simp [hL]) (by rw [e1, e2]; exact (List.take_left (l₁ := be4 (crc (headed l)))).symm), hL]
  have e3 : ((framed l ++ r).drop (enc l.length).length).take l.length = l := by
    unfold framed headed
    rw [List.append_assoc, List.append_assoc, List.drop_left, List.take_left]
  rw [e3]
theorem gn_prefix {l : List UInt8} {c n k : Nat} (h : gn (l.take c) = (n, k, true)) : gn l = (n, k, true) := by
  obtain ⟨h1, h2, h3, h4, h5⟩ := gn_ok h
  have hk : k ≤ l.length := by have := h3; simp at this; omega
  have e : l = enc n ++ l.drop k := by
    rw [h5, List.take_take, Nat.min_eq_left (by have := h3; simp at this; omega), List.take_append_drop]
  have hl : (enc n).length = k := by rw [h5]; simp; simp at h3; omega
  rw [e, gn_enc n _ h4, hl]
theorem opn_cut (l : List UInt8) (c : Nat) (h : l.length ≤ 8192) (hc : c < (framed l).length) : opn ((framed l).take c) = ([], 0, false) := by
  have hg := gn_framed l [] h
  rw [List.append_nil] at hg
  rcases gn_cases ((framed l).take c) with h0 | ⟨n, k, h0⟩
  · exact opn_no h0 (by simp)
  · have := gn_prefix h0
    rw [hg] at this
    simp only [Prod.mk.injEq, and_true] at this
    obtain ⟨rfl, rfl⟩ := this
    refine opn_no h0 (fun hh => ?_)
    have := hh.2.2.1
    rw [framed_length] at hc
    simp at this
    omega

theorem byt_inj {a b : BitVec 32} {x : UInt8} (h : byt a x = byt b x) : a = b := by
  have := steps_inj 8 h
  have h2 := congrArg (· ^^^ BitVec.ofNat 32 x.toNat) this
  simpa [BitVec.xor_assoc] using h2
theorem runs_inj (l : List UInt8) : ∀ {a b : BitVec 32}, runs a l = runs b l → a = b := by
  induction l with
  | nil => intro a b h; exact h
  | cons x l ih => intro a b h; exact byt_inj (ih h)
theorem byt_byte {a : BitVec 32} {x y : UInt8} (h : byt a x = byt a y) : x = y := by
  have := steps_inj 8 h
  have h2 := congrArg (a ^^^ ·) this
  have h3 : BitVec.ofNat 32 x.toNat = BitVec.ofNat 32 y.toNat := by simpa [← BitVec.xor_assoc] using h2
  have h4 := congrArg BitVec.toNat h3
  rw [BitVec.toNat_ofNat, BitVec.toNat_ofNat, Nat.mod_eq_of_lt (by have := x.toNat_lt; omega), Nat.mod_eq_of_lt (by have := y.toNat_lt; omega)] at h4
  exact UInt8.toNat_inj.1 h4
/-- Bytes that differ in one byte have other sums. -/
theorem crc_byte (A B : List UInt8) (x y : UInt8) (h : crc (A ++ x :: B) = crc (A ++ y :: B)) : x = y := by
  unfold crc crcAdd at h
  have h1 := congrArg (fun z => ~~~ z) h
  simp only [BitVec.not_not] at h1
  rw [runs_append, runs_append] at h1
  exact byt_byte (runs_inj B h1)
theorem set_split (l : List UInt8) (p : Nat) (y : UInt8) (h : p < l.length) : l.set p y = l.take p ++ y :: l.drop (p + 1) := by
  rw [List.set_eq_take_append_cons_drop, if_pos h]
theorem crc_set (l : List UInt8) (p : Nat) (y : UInt8) (h : p < l.length) (hy : y ≠ l[p]) : crc (l.set p y) ≠ crc l := by
  intro e
  rw [set_split l p y h] at e
  have e2 : l = l.take p ++ l[p] :: l.drop (p + 1) := by
    conv => lhs; rw [← List.take_append_drop p l, List.drop_eq_getElem_cons h]
  rw [e2] at e
  have h3 := crc_byte _ _ _ _ (show crc (l.take p ++ y :: l.drop (p + 1)) = crc (l.take p ++ l[p] :: l.drop (p + 1)) from by
    rw [← e2]
    rw [← e2] at e
    exact e)
  exact hy h3
theorem be4_inj {a b : BitVec 32} (h : be4 a = be4 b) : a = b := by
  simp only [be4, List.cons.injEq, and_true] at h
  obtain ⟨h1, h2, h3, h4⟩ := h
  have f : ∀ m n : Nat, UInt8.ofNat m = UInt8.ofNat n → m % 256 = n % 256 := fun m n e => by simpa using congrArg UInt8.toNat e
  have g1 := f _ _ h1
  have g2 := f _ _ h2
  have g3 := f _ _ h3
  have g4 := f _ _ h4
  have ha := a.isLt
  have hb := b.isLt
  apply BitVec.eq_of_toNat_eq
  omega
/-- A frame one byte of which is another is none of as many bytes. -/
theorem opn_turned (l : List UInt8) (p : Nat) (y : UInt8) (h : p < (framed l).length) (hy : y ≠ (framed l)[p]) : ¬ ((opn ((framed l).set p y)).2.2 = true ∧ (opn ((framed l).set p y)).2.1 = (framed l).length) := by
  rintro ⟨h1, h2⟩
  have hF : framed l = headed l ++ be4 (crc (headed l)) := rfl
  have hL : (framed l).length = (headed l).length + 4 := by rw [hF]; simp [be4_length]
  rcases gn_cases ((framed l).set p y) with h0 | ⟨n, k, h0⟩
  · rw [opn_no h0 (by simp)] at h1
    exact absurd h1 (by decide)
  · by_cases hc : n ≤ 8192 ∧ k + n + 4 ≤ ((framed l).set p y).length ∧ be4 (crc (((framed l).set p y).take (k + n))) = (((framed l).set p y).drop (k + n)).take 4
    · rw [opn_yes h0 hc.1 hc.2.1 hc.2.2] at h2
      simp only at h2
      have hkn : k + n = (headed l).length := by omega
      have h3 := hc.2.2
      rw [hkn] at h3
      by_cases hp : p < (headed l).length
      · have e1 : ((framed l).set p y).take (headed l).length = (headed l).set p y := by
          rw [List.take_set, hF, List.take_left]
        have e2 : (((framed l).set p y).drop (headed l).length).take 4 = be4 (crc (headed l)) := by
          rw [List.drop_set_of_lt hp, hF, List.drop_left]
          rfl
        rw [e1, e2] at h3
        refine crc_set (headed l) p y hp ?_ (be4_inj h3)
        have : (framed l)[p] = (headed l)[p] := by simp only [hF]; exact List.getElem_append_left hp
        rwa [this] at hy
      · have hp' : (headed l).length ≤ p := by omega
        have e1 : ((framed l).set p y).take (headed l).length = headed l := by
          rw [List.take_set_of_le hp', hF, List.take_left]
        have e2 : (((framed l).set p y).drop (headed l).length).take 4 = (be4 (crc (headed l))).set (p - (headed l).length) y := by
          rw [List.drop_set, if_neg hp, hF, List.drop_left]
          rw [List.take_of_length_le (by simp [be4_length])]
        rw [e1, e2] at h3
        have h4 := congrArg (fun z => z[p - (headed l).length]?) h3
        have hq : p - (headed l).length < (be4 (crc (headed l))).length := by rw [be4_length]; omega
        simp only [List.getElem?_set_self hq] at h4
        rw [List.getElem?_eq_getElem hq] at h4
        have : (framed l)[p] = (be4 (crc (headed l)))[p - (headed l).length] := by simp only [hF]; exact List.getElem_append_right hp'
        rw [this] at hy
        exact hy (by simpa using h4.symm)
    · rw [opn_no h0 (fun hh => hc hh.2)] at h1
      exact absurd h1 (by decide)
end Go.Proofs.YtmopfipkbjfhoaaDoor
