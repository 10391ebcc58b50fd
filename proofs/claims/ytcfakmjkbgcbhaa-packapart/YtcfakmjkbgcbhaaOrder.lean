/-
  Plain mathematics: greater numbers have greater bytes.
-/
import Derived.Test.YtcfakmjkbgcbhaaPlain3
import Derived.WalkKit
namespace Go.Proofs.Ytcfakmjkbgcbhaa

theorem fold_val (l : List UInt8) : ∀ a : Nat, l.foldl (fun n x => n * 256 + x.toNat) a = a * 256 ^ l.length + val l := by
  induction l with
  | nil => intro a; simp [val]
  | cons x r ih =>
    intro a
    have h0 : val (x :: r) = r.foldl (fun n x => n * 256 + x.toNat) (0 * 256 + x.toNat) := rfl
    rw [h0, ih (0 * 256 + x.toNat), List.foldl_cons, ih, List.length_cons, Nat.pow_succ]
    rw [Nat.add_mul, Nat.mul_assoc, Nat.mul_comm 256 (256 ^ r.length), Nat.zero_mul, Nat.zero_add]
    omega
theorem val_cons (x : UInt8) (l : List UInt8) : val (x :: l) = x.toNat * 256 ^ l.length + val l := by
  have h0 : val (x :: l) = l.foldl (fun n x => n * 256 + x.toNat) (0 * 256 + x.toNat) := rfl
  rw [h0, fold_val, Nat.zero_mul, Nat.zero_add]

theorem less_step {x y P a b : Nat} (h : x < y) (ha : a < P) : x * P + a < y * P + b := by
  have : (x + 1) * P ≤ y * P := Nat.mul_le_mul_right P h
  rw [Nat.add_mul] at this
  omega

theorem less_same : ∀ (d e : List UInt8), d.length = e.length → Op.bytesLess d e = decide (val d < val e)
  | [], [], _ => by simp [Op.bytesLess]
  | [], _ :: _, h => by simp at h
  | _ :: _, [], h => by simp at h
  | x :: d, y :: e, h => by
    have hl : d.length = e.length := by simpa using h
    have ih := less_same d e hl
    have hd := val_lt d
    have he := val_lt e
    rw [val_cons, val_cons, ← hl]
    rw [← hl] at he
    rcases Nat.lt_trichotomy x.toNat y.toNat with h1 | h1 | h1
    · have hxy : x < y := UInt8.lt_iff_toNat_lt.2 h1
      have := less_step (b := val e) h1 hd
      simp [Op.bytesLess, hxy, this]
    · have hxy : x = y := UInt8.toNat_inj.1 h1
      subst hxy
      have hn : ¬ x < x := fun hh => by have := UInt8.lt_iff_toNat_lt.1 hh; omega
      simp [Op.bytesLess, hn, ih]
    · have hxy : ¬ x < y := fun hh => by have := UInt8.lt_iff_toNat_lt.1 hh; omega
      have hne : ¬ x = y := fun hh => by rw [hh] at h1; omega
      have := less_step (b := val d) h1 he
      have hnot : ¬ x.toNat * 256 ^ d.length + val d < y.toNat * 256 ^ d.length + val e := by omega
      simp [Op.bytesLess, hxy, hne, hnot]

theorem val_head {d : List UInt8} (h : d.head? ≠ some 0) (hd : d ≠ []) : 256 ^ (d.length - 1) ≤ val d := by
  cases d with
  | nil => exact absurd rfl hd
  | cons x r =>
    have hx : 1 ≤ x.toNat := by
      rcases Nat.eq_zero_or_pos x.toNat with h0 | h0
      · refine absurd ?_ h
        have : x = 0 := UInt8.toNat_inj.1 (by simpa using h0)
        simp [this]
      · exact h0
    rw [val_cons]
    have := Nat.mul_le_mul_right (256 ^ r.length) hx
    simp only [List.length_cons, Nat.add_sub_cancel]
    omega

theorem less_first {x y : UInt8} {l m : List UInt8} (h : x.toNat < y.toNat) : Op.bytesLess (x :: l) (y :: m) = true ∧ Op.bytesLess (y :: m) (x :: l) = false := by
  have h1 : x < y := UInt8.lt_iff_toNat_lt.2 h
  have h2 : ¬ y < x := fun hh => by have := UInt8.lt_iff_toNat_lt.1 hh; omega
  have h3 : ¬ y = x := fun hh => by rw [hh] at h; omega
  simp [Op.bytesLess, h1, h2, h3]

theorem enc_less (n m : Nat) (hn : n < 256 ^ 8) (hm : m < 256 ^ 8) : Op.bytesLess (enc n) (enc m) = decide (n < m) := by
  rcases Nat.lt_or_ge n 248 with h1 | h1
  · rcases Nat.lt_or_ge m 248 with h2 | h2
    · rw [enc_short h1, enc_short h2, less_same [UInt8.ofNat n] [UInt8.ofNat m] rfl]
      have e1 : val [UInt8.ofNat n] = n := by rw [val_cons]; simp [val]; omega
      have e2 : val [UInt8.ofNat m] = m := by rw [val_cons]; simp [val]; omega
      rw [e1, e2]
    · have hk := dg_length_le 8 m
      have hp := List.length_pos_iff.2 (dg_ne_nil 8 m hm (by omega))
      rw [enc_short h1, enc_long h2, (less_first (by simp; omega)).1]
      exact (decide_eq_true (by omega)).symm
  · have hk := dg_length_le 8 n
    have hp := List.length_pos_iff.2 (dg_ne_nil 8 n hn (by omega))
    rcases Nat.lt_or_ge m 248 with h2 | h2
    · rw [enc_long h1, enc_short h2, (less_first (by simp; omega)).2]
      exact (decide_eq_false (by omega)).symm
    · have hk2 := dg_length_le 8 m
      have a1 := val_dg 8 n hn
      have a2 := val_dg 8 m hm
      have b1 := val_lt (dg 8 n)
      have b2 := val_lt (dg 8 m)
      have c1 := val_head (dg_head 8 n hn) (dg_ne_nil 8 n hn (by omega))
      have c2 := val_head (dg_head 8 m hm) (dg_ne_nil 8 m hm (by omega))
      rw [a1] at b1 c1
      rw [a2] at b2 c2
      rw [enc_long h1, enc_long h2]
      rcases Nat.lt_trichotomy (dg 8 n).length (dg 8 m).length with h3 | h3 | h3
      · rw [(less_first (by simp; omega)).1]
        have := Nat.pow_le_pow_right (n := 256) (by decide) (show (dg 8 n).length ≤ (dg 8 m).length - 1 by omega)
        exact (decide_eq_true (by omega)).symm
      · have e := less_same (UInt8.ofNat (247 + (dg 8 n).length) :: dg 8 n) (UInt8.ofNat (247 + (dg 8 m).length) :: dg 8 m) (by simp [h3])
        rw [e, val_cons, val_cons, a1, a2, h3]
        congr 1
        simp
      · rw [(less_first (by simp; omega)).2]
        have := Nat.pow_le_pow_right (n := 256) (by decide) (show (dg 8 m).length ≤ (dg 8 n).length - 1 by omega)
        exact (decide_eq_false (by omega)).symm
end Go.Proofs.Ytcfakmjkbgcbhaa
