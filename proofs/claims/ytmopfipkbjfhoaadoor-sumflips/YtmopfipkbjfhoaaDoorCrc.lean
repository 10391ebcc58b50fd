/-
  The plain mathematics of the check sum: remainders as 32 bits, a step of one bit, what steps keep.
-/
import Derived.Test.YtmopfipkbjfhoaaDoorPlain
namespace Go.Proofs.YtmopfipkbjfhoaaDoor

/-- One bit more. -/
def step (r : BitVec 32) : BitVec 32 := if r.getLsbD 0 then (r >>> 1) ^^^ 2197175160#32 else r >>> 1
def steps : Nat → BitVec 32 → BitVec 32
  | 0, r => r
  | n + 1, r => steps n (step r)
/-- One byte more. -/
def byt (r : BitVec 32) (x : UInt8) : BitVec 32 := steps 8 (r ^^^ BitVec.ofNat 32 x.toNat)
def runs (r : BitVec 32) (l : List UInt8) : BitVec 32 := l.foldl byt r
def crcAdd (s : BitVec 32) (l : List UInt8) : BitVec 32 := ~~~ runs (~~~ s) l
def crc (l : List UInt8) : BitVec 32 := crcAdd 0#32 l
def joined (a b : BitVec 32) (n : Nat) : BitVec 32 := steps (8 * n) a ^^^ b

theorem step_xor (a b : BitVec 32) : step (a ^^^ b) = step a ^^^ step b := by
  unfold step
  rw [BitVec.getLsbD_xor]
  apply BitVec.eq_of_getLsbD_eq
  intro i hi
  cases a.getLsbD 0 <;> cases b.getLsbD 0 <;> simp only [Bool.xor_false, Bool.xor_true, Bool.not_true, Bool.not_false, Bool.false_eq_true, if_false, if_true, BitVec.getLsbD_xor, BitVec.getLsbD_ushiftRight] <;>
    (generalize (2197175160#32).getLsbD i = z; generalize a.getLsbD (1 + i) = x; generalize b.getLsbD (1 + i) = y; cases x <;> cases y <;> cases z <;> rfl)
theorem step_zero : step 0#32 = 0#32 := by decide
theorem steps_xor (n : Nat) : ∀ a b : BitVec 32, steps n (a ^^^ b) = steps n a ^^^ steps n b := by
  induction n with
  | zero => intro a b; rfl
  | succ n ih => intro a b; rw [steps, steps, steps, step_xor, ih]
theorem steps_zero (n : Nat) : steps n 0#32 = 0#32 := by
  induction n with
  | zero => rfl
  | succ n ih => rw [steps, step_zero, ih]
theorem steps_add (m n : Nat) : ∀ a : BitVec 32, steps (m + n) a = steps n (steps m a) := by
  induction m with
  | zero => intro a; rw [Nat.zero_add]; rfl
  | succ m ih => intro a; rw [show m + 1 + n = (m + n) + 1 from by omega, steps, ih]; rfl
theorem steps_succ' (n : Nat) (a : BitVec 32) : steps (n + 1) a = step (steps n a) := steps_add n 1 a

/-- A step can be told back. -/
theorem step_inj {a b : BitVec 32} (h : step a = step b) : a = b := by
  have key : ∀ d : BitVec 32, step d = 0#32 → d = 0#32 := by
    intro d hd
    unfold step at hd
    by_cases h0 : d.getLsbD 0 = true
    · rw [if_pos h0] at hd
      have := congrArg (fun x => BitVec.getLsbD x 31) hd
      simp at this
    · rw [if_neg h0] at hd
      have h0' : d.getLsbD 0 = false := by simpa using h0
      apply BitVec.eq_of_getLsbD_eq
      intro i hi
      rcases i with _ | i
      · simpa using h0'
      · have := congrArg (fun x => BitVec.getLsbD x i) hd
        simp only [BitVec.getLsbD_ushiftRight, BitVec.getLsbD_zero] at this
        rw [Nat.add_comm 1 i] at this
        simpa using this
  have h1 : step (a ^^^ b) = 0#32 := by rw [step_xor, h, BitVec.xor_self]
  have h2 := key _ h1
  have h3 : a ^^^ b ^^^ b = b := by rw [h2, BitVec.zero_xor]
  rwa [BitVec.xor_assoc, BitVec.xor_self, BitVec.xor_zero] at h3
theorem steps_inj (n : Nat) : ∀ {a b : BitVec 32}, steps n a = steps n b → a = b := by
  induction n with
  | zero => intro a b h; exact h
  | succ n ih => intro a b h; exact step_inj (ih h)

theorem byt_xor (a b : BitVec 32) (x : UInt8) : byt (a ^^^ b) x = steps 8 a ^^^ byt b x := by
  unfold byt
  rw [BitVec.xor_assoc, steps_xor]
theorem runs_xor (l : List UInt8) : ∀ a b : BitVec 32, runs (a ^^^ b) l = steps (8 * l.length) a ^^^ runs b l := by
  induction l with
  | nil => intro a b; rfl
  | cons x l ih =>
    intro a b
    show runs (byt (a ^^^ b) x) l = _ ^^^ runs (byt b x) l
    rw [byt_xor, ih, ← steps_add, List.length_cons]
    congr 2
    omega
theorem runs_append (r : BitVec 32) (l m : List UInt8) : runs r (l ++ m) = runs (runs r l) m := List.foldl_append
theorem crcAdd_append (l m : List UInt8) : crcAdd (crc l) m = crc (l ++ m) := by
  unfold crc crcAdd
  rw [runs_append, BitVec.not_not]
theorem not_xor' (a b : BitVec 32) : ~~~ (a ^^^ b) = a ^^^ ~~~ b := by
  rw [← BitVec.xor_allOnes, ← BitVec.xor_allOnes, BitVec.xor_assoc]
theorem not_xor (a b : BitVec 32) : ~~~ (a ^^^ b) = a ^^^ ~~~ b := not_xor' a b
theorem joined_crc (l m : List UInt8) : joined (crc l) (crc m) m.length = crc (l ++ m) := by
  rw [← crcAdd_append]
  unfold joined
  have e : ~~~ crc l = crc l ^^^ ~~~ 0#32 := by
    rw [← not_xor, BitVec.xor_zero]
  show _ = ~~~ runs (~~~ crc l) m
  rw [e, runs_xor, not_xor]
  rfl
theorem joined_assoc (x y z : BitVec 32) (m n : Nat) : joined (joined x y m) z n = joined x (joined y z n) (m + n) := by
  unfold joined
  rw [steps_xor, ← steps_add, BitVec.xor_assoc, show 8 * m + 8 * n = 8 * (m + n) from by omega]
theorem joined_diff (x y z : BitVec 32) (m : Nat) : joined x y m ^^^ joined z y m = joined (x ^^^ z) 0#32 m := by
  unfold joined
  rw [steps_xor, BitVec.xor_zero, BitVec.xor_assoc, ← BitVec.xor_assoc y, BitVec.xor_comm y, BitVec.xor_assoc, BitVec.xor_self, BitVec.xor_zero]
theorem joined_none (x : BitVec 32) : joined x 0#32 0 = x := by
  unfold joined; rw [BitVec.xor_zero]; rfl

/-- The table of sixteen. -/
def tab : Nat → Nat
  | 0 => 0 | 1 => 274646895 | 2 => 549293790 | 3 => 820201905 | 4 => 1098587580 | 5 => 1361435347 | 6 => 1640403810 | 7 => 1905808397
  | 8 => 2197175160 | 9 => 2460548119 | 10 => 2722870694 | 11 => 2987750089 | 12 => 3280807620 | 13 => 3553878443 | 14 => 3811616794 | 15 => 4084100981 | _ => 0
theorem tab_lt (i : Nat) : tab i < 4294967296 := by
  unfold tab; split <;> decide
theorem tab_steps (i : Nat) (h : i < 16) : steps 4 (BitVec.ofNat 32 i) = BitVec.ofNat 32 (tab i) := by
  have : ∀ i, i < 16 → steps 4 (BitVec.ofNat 32 i) = BitVec.ofNat 32 (tab i) := by decide +kernel
  exact this i h
theorem step_even {r : BitVec 32} (h : r.getLsbD 0 = false) : step r = r >>> 1 := by unfold step; rw [h]; rfl
theorem steps4_high (r : BitVec 32) (h : ∀ i, i < 4 → r.getLsbD i = false) : steps 4 r = r >>> 4 := by
  simp only [steps]
  rw [step_even (h 0 (by omega)), step_even (r := r >>> 1) (by rw [BitVec.getLsbD_ushiftRight]; exact h 1 (by omega)),
    step_even (r := r >>> 1 >>> 1) (by rw [BitVec.getLsbD_ushiftRight, BitVec.getLsbD_ushiftRight]; exact h 2 (by omega)),
    step_even (r := r >>> 1 >>> 1 >>> 1) (by rw [BitVec.getLsbD_ushiftRight, BitVec.getLsbD_ushiftRight, BitVec.getLsbD_ushiftRight]; exact h 3 (by omega))]
  simp only [← BitVec.shiftRight_add]
/-- Four bits at once, from the table. -/
theorem nibble (r : BitVec 32) : (r >>> 4) ^^^ BitVec.ofNat 32 (tab (r.toNat % 16)) = steps 4 r := by
  rw [← tab_steps _ (Nat.mod_lt _ (by decide))]
  have e1 : BitVec.ofNat 32 (r.toNat % 16) = r &&& 15#32 := by
    apply BitVec.eq_of_toNat_eq
    rw [BitVec.toNat_and, BitVec.toNat_ofNat, show (15#32).toNat = 2 ^ 4 - 1 from rfl, Nat.and_two_pow_sub_one_eq_mod]
    exact Nat.mod_eq_of_lt (by omega)
  have e2 : steps 4 (r &&& ~~~ 15#32) = r >>> 4 := by
    rw [steps4_high]
    · apply BitVec.eq_of_getLsbD_eq
      intro i hi
      rw [BitVec.getLsbD_ushiftRight, BitVec.getLsbD_ushiftRight, BitVec.getLsbD_and]
      by_cases h : 4 + i < 32
      · have : (~~~ 15#32).getLsbD (4 + i) = true := by
          have hh : ∀ i, i < 28 → (~~~ 15#32).getLsbD (4 + i) = true := by decide +kernel
          exact hh i (by omega)
        rw [this, Bool.and_true]
      · rw [BitVec.getLsbD_of_ge r _ (by omega), Bool.false_and]
    · intro i hi
      rw [BitVec.getLsbD_and]
      have hh : ∀ i, i < 4 → (~~~ 15#32).getLsbD i = false := by decide +kernel
      rw [hh i hi, Bool.and_false]
  rw [e1, ← e2, ← steps_xor]
  congr 1
  apply BitVec.eq_of_getLsbD_eq
  intro i hi
  simp only [BitVec.getLsbD_xor, BitVec.getLsbD_and, BitVec.getLsbD_not, hi, decide_true, Bool.true_and]
  cases r.getLsbD i <;> cases (15#32).getLsbD i <;> rfl

/-- Two remainders multiplied, by the bits of the first from the top. -/
def mulF : Nat → BitVec 32 → BitVec 32 → BitVec 32
  | 0, _, _ => 0#32
  | n + 1, a, b => (if a.getLsbD 31 then b else 0#32) ^^^ mulF n (a <<< 1) (step b)
theorem mulF_zero (n : Nat) : ∀ b : BitVec 32, mulF n 0#32 b = 0#32 := by
  induction n with
  | zero => intro b; rfl
  | succ n ih => intro b; rw [mulF, show (0#32 <<< 1) = 0#32 from by decide, ih]; simp
theorem mulF_step (n : Nat) : ∀ a b : BitVec 32, mulF n a (step b) = step (mulF n a b) := by
  induction n with
  | zero => intro a b; exact step_zero.symm
  | succ n ih =>
    intro a b
    rw [mulF, mulF, step_xor, ih]
    congr 1
    split
    · rfl
    · exact step_zero.symm
theorem mulF_steps (n k : Nat) : ∀ a b : BitVec 32, mulF n a (steps k b) = steps k (mulF n a b) := by
  induction k with
  | zero => intro a b; rfl
  | succ k ih => intro a b; rw [steps, steps, ih, mulF_step]
theorem mulF_xor (n : Nat) : ∀ a c b : BitVec 32, mulF n (a ^^^ c) b = mulF n a b ^^^ mulF n c b := by
  induction n with
  | zero => intro a c b; simp [mulF]
  | succ n ih =>
    intro a c b
    rw [mulF, mulF, mulF, BitVec.getLsbD_xor, BitVec.shiftLeft_xor_distrib, ih]
    cases a.getLsbD 31 <;> cases c.getLsbD 31 <;> simp <;>
      (generalize mulF n (a <<< 1) (step b) = x; generalize mulF n (c <<< 1) (step b) = y;
       apply BitVec.eq_of_getLsbD_eq; intro i hi; simp only [BitVec.getLsbD_xor]; cases x.getLsbD i <;> cases y.getLsbD i <;> cases b.getLsbD i <;> rfl)
def mul (a b : BitVec 32) : BitVec 32 := mulF 32 a b
/-- Whatever adds up is known by its 32 single bits. -/
theorem known_by_bits (f : BitVec 32 → BitVec 32) (hf : ∀ a c, f (a ^^^ c) = f a ^^^ f c) (h : ∀ i, i < 32 → f (BitVec.twoPow 32 i) = BitVec.twoPow 32 i) (a : BitVec 32) : f a = a := by
  have h0 : f 0#32 = 0#32 := by have := hf 0#32 0#32; simpa using this
  have key : ∀ k, k ≤ 32 → ∀ a : BitVec 32, (∀ i, k ≤ i → a.getLsbD i = false) → f a = a := by
    intro k
    induction k with
    | zero =>
      intro _ a ha
      have : a = 0#32 := by apply BitVec.eq_of_getLsbD_eq; intro i hi; rw [ha i (Nat.zero_le _)]; simp
      rw [this, h0]
    | succ k ih =>
      intro hk a ha
      by_cases hb : a.getLsbD k = true
      · have e : a = (a ^^^ BitVec.twoPow 32 k) ^^^ BitVec.twoPow 32 k := by rw [BitVec.xor_assoc, BitVec.xor_self, BitVec.xor_zero]
        have e2 : f (a ^^^ BitVec.twoPow 32 k) = a ^^^ BitVec.twoPow 32 k := by
          refine ih (by omega) _ fun i hi => ?_
          rw [BitVec.getLsbD_xor, BitVec.getLsbD_twoPow]
          by_cases hik : i = k
          · subst hik; rw [hb]; simp; omega
          · rw [ha i (by omega)]; simp; intro _; omega
        rw [e, hf, e2, h k (by omega)]
      · refine ih (by omega) a fun i hi => ?_
        by_cases hik : i = k
        · subst hik; simpa using hb
        · exact ha i (by omega)
  exact key 32 (Nat.le_refl _) a fun i hi => BitVec.getLsbD_of_ge a i hi
theorem mul_one (a : BitVec 32) : mul a 2147483648#32 = a :=
  known_by_bits (fun a => mul a 2147483648#32) (fun a c => mulF_xor 32 a c _) (by
    have : ∀ i, i < 32 → mul (BitVec.twoPow 32 i) 2147483648#32 = BitVec.twoPow 32 i := by decide +kernel
    exact this) a
/-- What stands k steps behind 1 multiplies by k steps. -/
theorem mul_power (a : BitVec 32) (k : Nat) : mul a (steps k 2147483648#32) = steps k a := by
  show mulF 32 a _ = _
  rw [mulF_steps]
  exact congrArg _ (mul_one a)
theorem byByte_is : (8388608#32) = steps 8 2147483648#32 := by decide +kernel
/-- More fuel than bits gives nothing new. -/
theorem mulF_top (n : Nat) : ∀ (a b : BitVec 32), (∀ i, i + n < 32 → a.getLsbD i = false) → mulF n a b = mulF (n + 1) a b := by
  induction n with
  | zero =>
    intro a b h
    have : a = 0#32 := by apply BitVec.eq_of_getLsbD_eq; intro i hi; rw [h i (by omega)]; simp
    rw [this, mulF_zero, mulF_zero]
  | succ n ih =>
    intro a b h
    rw [mulF, mulF, ← ih (a <<< 1) (step b)]
    intro i hi
    rw [BitVec.getLsbD_shiftLeft]
    by_cases h1 : i < 1
    · simp [h1]
    · rw [h (i - 1) (by omega)]; simp

theorem crc_example : crc [49, 50, 51, 52, 53, 54, 55, 56, 57] = 3808858755#32 := by decide +kernel
theorem crc_nil : crc [] = 0#32 := by decide +kernel
end Go.Proofs.YtmopfipkbjfhoaaDoor
