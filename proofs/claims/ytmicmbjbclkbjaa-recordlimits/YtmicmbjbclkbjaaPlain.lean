/-
  Plain mathematics of the packed numbers and texts: no program is spoken of.
-/
namespace Go.Proofs.Ytmicmbjbclkbjaa

/-- The bytes of n, the greatest first, at most f of them. -/
def dg : Nat → Nat → List UInt8
  | 0, _ => []
  | f + 1, n => if n = 0 then [] else dg f (n / 256) ++ [UInt8.ofNat n]

theorem dg_zero (f : Nat) : dg f 0 = [] := by cases f <;> simp [dg]
theorem dg_step (f n : Nat) (h : 0 < n) : dg (f + 1) n = dg f (n / 256) ++ [UInt8.ofNat n] := by
  simp only [dg]; rw [if_neg (by omega)]
theorem dg_length_le (f : Nat) : ∀ n, (dg f n).length ≤ f := by
  induction f with
  | zero => intro n; simp [dg]
  | succ f ih => intro n; simp only [dg]; split <;> simp; exact ih _

/-- THE NUMBER. -/
def enc (n : Nat) : List UInt8 := if n < 248 then [UInt8.ofNat n] else UInt8.ofNat (247 + (dg 8 n).length) :: dg 8 n

theorem enc_short {n : Nat} (h : n < 248) : enc n = [UInt8.ofNat n] := by simp [enc, h]
theorem enc_long {n : Nat} (h : 248 ≤ n) : enc n = UInt8.ofNat (247 + (dg 8 n).length) :: dg 8 n := by
  unfold enc; rw [if_neg (by omega)]
/-- A text. -/
def encS (m : List UInt8) : List UInt8 := enc m.length ++ m
/-- Texts, each behind the other. -/
def encT : List (List UInt8) → List UInt8
  | [] => []
  | m :: r => encS m ++ encT r
/-- A list of texts. -/
def encL (l : List (List UInt8)) : List UInt8 := enc l.length ++ encT l
theorem encT_append (l m : List (List UInt8)) : encT (l ++ m) = encT l ++ encT m := by
  induction l with
  | nil => rfl
  | cons x r ih => simp [encT, ih]
theorem enc_length (n : Nat) : 1 ≤ (enc n).length ∧ (enc n).length ≤ 9 := by
  unfold enc
  have := dg_length_le 8 n
  split <;> simp; omega

/-- The array that the digits are pushed to the end of. -/
def arr (n : Nat) : List UInt8 := List.replicate (9 - (enc n).length) 0 ++ enc n
theorem arr_length (n : Nat) : (arr n).length = 9 := by
  have := enc_length n
  simp [arr]; omega
theorem arr_drop (n : Nat) : (arr n).drop (9 - (enc n).length) = enc n := by
  unfold arr
  rw [List.drop_left' (by simp)]

theorem arr_of (n q : Nat) (ds : List UInt8) (h : 248 ≤ n) (hd : dg 8 n = ds) (hq : ds.length + q = 8) : List.replicate q 0 ++ UInt8.ofNat (247 + ds.length) :: ds = arr n ∧ 9 - (enc n).length = q := by
  subst hd
  have e : 9 - (enc n).length = q := by rw [enc_long h]; simp; omega
  refine ⟨?_, e⟩
  unfold arr
  rw [e, enc_long h]
theorem arr_short {n : Nat} (h : n < 248) : arr n = [0, 0, 0, 0, 0, 0, 0, 0, UInt8.ofNat n] ∧ 9 - (enc n).length = 8 := by
  unfold arr
  rw [enc_short h]
  exact ⟨rfl, rfl⟩

theorem pow_step (q m : Nat) (h : m < 256 ^ (q + 1)) : m / 256 < 256 ^ q := by
  rw [Nat.pow_succ] at h
  exact Nat.div_lt_of_lt_mul (by omega)

theorem set_push (q : Nat) (x : UInt8) (ds : List UInt8) : (List.replicate (q + 1) 0 ++ ds).set q x = List.replicate q 0 ++ x :: ds := by
  apply List.ext_getElem?
  intro j
  rw [List.getElem?_set]
  by_cases h : q = j
  · subst h
    simp
    omega
  · rw [if_neg h]
    rcases Nat.lt_or_ge j q with h1 | h1
    · rw [List.getElem?_append_left (by simp; omega), List.getElem?_append_left (by simpa using h1)]
      simp [h1, Nat.lt_succ_of_lt h1]
    · rw [List.getElem?_append_right (by simp; omega), List.getElem?_append_right (by simpa using h1)]
      obtain ⟨d, rfl⟩ : ∃ d, j = q + 1 + d := ⟨j - q - 1, by omega⟩
      simp only [List.length_replicate]
      rw [show q + 1 + d - (q + 1) = d from by omega, show q + 1 + d - q = d + 1 from by omega]
      simp

/-- The number that bytes are, the greatest first. -/
def val (l : List UInt8) : Nat := l.foldl (fun n x => n * 256 + x.toNat) 0
theorem val_snoc (l : List UInt8) (x : UInt8) : val (l ++ [x]) = val l * 256 + x.toNat := by simp [val]
theorem val_take (l : List UInt8) (i : Nat) (h : i < l.length) : val (l.take (i + 1)) = val (l.take i) * 256 + l[i].toNat := by
  rw [List.take_succ_eq_append_getElem h, val_snoc]
theorem val_lt_rev : ∀ l : List UInt8, val l.reverse < 256 ^ l.length
  | [] => by simp [val]
  | x :: l => by
    have := val_lt_rev l
    have hx := x.toNat_lt
    rw [List.reverse_cons, val_snoc, List.length_cons, Nat.pow_succ]
    omega
theorem val_lt (l : List UInt8) : val l < 256 ^ l.length := by
  have := val_lt_rev l.reverse
  simpa using this

/-- What the number at the begin of bytes is: the number, how many bytes it has, whether there is one. -/
def gn : List UInt8 → Nat × Nat × Bool
  | [] => (0, 0, false)
  | x :: r =>
    if x.toNat < 248 then (x.toNat, 1, true)
    else if r.length < x.toNat - 247 then (0, 0, false)
    else if enc (val (r.take (x.toNat - 247))) = x :: r.take (x.toNat - 247) then (val (r.take (x.toNat - 247)), x.toNat - 246, true)
    else (0, 0, false)

theorem val_bound {l : List UInt8} (h : l.length ≤ 7) : val l < 72057594037927936 := by
  refine Nat.lt_of_lt_of_le (val_lt l) ?_
  have : (256 : Nat) ^ 7 = 72057594037927936 := by decide
  rw [← this]
  exact Nat.pow_le_pow_right (by decide) h
theorem take_get (r : List UInt8) (k i : Nat) (hi : i < (r.take k).length) : r[i]? = some (r.take k)[i] := by
  simp at hi
  rw [List.getElem_take]
  exact List.getElem?_eq_getElem (by omega)
theorem gn_long {x : UInt8} {r d : List UInt8} {k n : Nat} (hx : x.toNat = 247 + k) (hk : 1 ≤ k) (hr : ¬ r.length < k) (hd : d = r.take k) (hn : val d = n) :
    gn (x :: r) = if enc n = x :: d then (n, k + 1, true) else (0, 0, false) := by
  subst hn
  subst hd
  simp only [gn]
  rw [if_neg (by omega), if_neg (by omega)]
  rw [show x.toNat - 247 = k from by omega, show x.toNat - 246 = k + 1 from by omega]
end Go.Proofs.Ytmicmbjbclkbjaa
