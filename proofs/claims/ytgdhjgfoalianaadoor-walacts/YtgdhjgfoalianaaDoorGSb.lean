/-
  Texts that ride together: Crc Add Frame Open0 Open Open2 Plain3 Plain4.
-/
import Derived.Test.YtgdhjgfoalianaaDoorGSa
import Derived.Laws.BitsAllLaws
import Derived.Deep.LoopGhost
import Derived.Test.YtgdhjgfoalianaaDoorGK
import Derived.Stop.BytesEq
/-
  The plain mathematics of the check sum: remainders as 32 bits, a step of one bit, what steps keep.
-/
namespace Go.Proofs.YtgdhjgfoalianaaDoor

/-- One bit more. -/
def step (r : BitVec 32) : BitVec 32 := if r.getLsbD 0 then (r >>> 1) ^^^ 2197175160#32 else r >>> 1
def steps : Nat → BitVec 32 → BitVec 32
  | 0, r => r
  | n + 1, r => steps n (step r)
/-- One byte more. -/
def byt (r : BitVec 32) (x : UInt8) : BitVec 32 := steps 8 (r ^^^ BitVec.ofNat 32 x.toNat)
def runs (r : BitVec 32) (l : List UInt8) : BitVec 32 := l.foldl byt r
def crcAdd (s : BitVec 32) (l : List UInt8) : BitVec 32 := ~~~ runs (~~~ s) l
def crc (l : List UInt8) : BitVec 32 := crcAdd 0#32 l
def joined (a b : BitVec 32) (n : Nat) : BitVec 32 := steps (8 * n) a ^^^ b

theorem step_xor (a b : BitVec 32) : step (a ^^^ b) = step a ^^^ step b := by
  unfold step
  rw [BitVec.getLsbD_xor]
  apply BitVec.eq_of_getLsbD_eq
  intro i hi
  cases a.getLsbD 0 <;> cases b.getLsbD 0 <;> simp only [Bool.xor_false, Bool.xor_true, Bool.not_true, Bool.not_false, Bool.false_eq_true, if_false, if_true, BitVec.getLsbD_xor, BitVec.getLsbD_ushiftRight] <;>
    (generalize (2197175160#32).getLsbD i = z; generalize a.getLsbD (1 + i) = x; generalize b.getLsbD (1 + i) = y; cases x <;> cases y <;> cases z <;> rfl)
theorem step_zero : step 0#32 = 0#32 := by decide
theorem steps_xor (n : Nat) : ∀ a b : BitVec 32, steps n (a ^^^ b) = steps n a ^^^ steps n b := by
  induction n with
  | zero => intro a b; rfl
  | succ n ih => intro a b; rw [steps, steps, steps, step_xor, ih]
theorem steps_zero (n : Nat) : steps n 0#32 = 0#32 := by
  induction n with
  | zero => rfl
  | succ n ih => rw [steps, step_zero, ih]
theorem steps_add (m n : Nat) : ∀ a : BitVec 32, steps (m + n) a = steps n (steps m a) := by
  induction m with
  | zero => intro a; rw [Nat.zero_add]; rfl
  | succ m ih => intro a; rw [show m + 1 + n = (m + n) + 1 from by omega, steps, ih]; rfl
theorem steps_succ' (n : Nat) (a : BitVec 32) : steps (n + 1) a = step (steps n a) := steps_add n 1 a

/-- A step can be told back. -/
theorem step_inj {a b : BitVec 32} (h : step a = step b) : a = b := by
  have key : ∀ d : BitVec 32, step d = 0#32 → d = 0#32 := by
    intro d hd
    unfold step at hd
    by_cases h0 : d.getLsbD 0 = true
    · rw [if_pos h0] at hd
      have := congrArg (fun x => BitVec.getLsbD x 31) hd
      simp at this
    · rw [if_neg h0] at hd
      have h0' : d.getLsbD 0 = false := by simpa using h0
      apply BitVec.eq_of_getLsbD_eq
      intro i hi
      rcases i with _ | i
      · simpa using h0'
      · have := congrArg (fun x => BitVec.getLsbD x i) hd
        simp only [BitVec.getLsbD_ushiftRight, BitVec.getLsbD_zero] at this
        rw [Nat.add_comm 1 i] at this
        simpa using this
  have h1 : step (a ^^^ b) = 0#32 := by rw [step_xor, h, BitVec.xor_self]
  have h2 := key _ h1
  have h3 : a ^^^ b ^^^ b = b := by rw [h2, BitVec.zero_xor]
  rwa [BitVec.xor_assoc, BitVec.xor_self, BitVec.xor_zero] at h3
theorem steps_inj (n : Nat) : ∀ {a b : BitVec 32}, steps n a = steps n b → a = b := by
  induction n with
  | zero => intro a b h; exact h
  | succ n ih => intro a b h; exact step_inj (ih h)

theorem byt_xor (a b : BitVec 32) (x : UInt8) : byt (a ^^^ b) x = steps 8 a ^^^ byt b x := by
  unfold byt
  rw [BitVec.xor_assoc, steps_xor]
theorem runs_xor (l : List UInt8) : ∀ a b : BitVec 32, runs (a ^^^ b) l = steps (8 * l.length) a ^^^ runs b l := by
  induction l with
  | nil => intro a b; rfl
  | cons x l ih =>
    intro a b
    show runs (byt (a ^^^ b) x) l = _ ^^^ runs (byt b x) l
    rw [byt_xor, ih, ← steps_add, List.length_cons]
    congr 2
    omega
theorem runs_append (r : BitVec 32) (l m : List UInt8) : runs r (l ++ m) = runs (runs r l) m := List.foldl_append
theorem crcAdd_append (l m : List UInt8) : crcAdd (crc l) m = crc (l ++ m) := by
  unfold crc crcAdd
  rw [runs_append, BitVec.not_not]
theorem not_xor' (a b : BitVec 32) : ~~~ (a ^^^ b) = a ^^^ ~~~ b := by
  rw [← BitVec.xor_allOnes, ← BitVec.xor_allOnes, BitVec.xor_assoc]
theorem not_xor (a b : BitVec 32) : ~~~ (a ^^^ b) = a ^^^ ~~~ b := not_xor' a b
theorem joined_crc (l m : List UInt8) : joined (crc l) (crc m) m.length = crc (l ++ m) := by
  rw [← crcAdd_append]
  unfold joined
  have e : ~~~ crc l = crc l ^^^ ~~~ 0#32 := by
    rw [← not_xor, BitVec.xor_zero]
  show _ = ~~~ runs (~~~ crc l) m
  rw [e, runs_xor, not_xor]
  rfl
theorem joined_assoc (x y z : BitVec 32) (m n : Nat) : joined (joined x y m) z n = joined x (joined y z n) (m + n) := by
  unfold joined
  rw [steps_xor, ← steps_add, BitVec.xor_assoc, show 8 * m + 8 * n = 8 * (m + n) from by omega]
theorem joined_diff (x y z : BitVec 32) (m : Nat) : joined x y m ^^^ joined z y m = joined (x ^^^ z) 0#32 m := by
  unfold joined
  rw [steps_xor, BitVec.xor_zero, BitVec.xor_assoc, ← BitVec.xor_assoc y, BitVec.xor_comm y, BitVec.xor_assoc, BitVec.xor_self, BitVec.xor_zero]
theorem joined_none (x : BitVec 32) : joined x 0#32 0 = x := by
  unfold joined; rw [BitVec.xor_zero]; rfl

/-- The table of sixteen. -/
def tab : Nat → Nat
  | 0 => 0 | 1 => 274646895 | 2 => 549293790 | 3 => 820201905 | 4 => 1098587580 | 5 => 1361435347 | 6 => 1640403810 | 7 => 1905808397
  | 8 => 2197175160 | 9 => 2460548119 | 10 => 2722870694 | 11 => 2987750089 | 12 => 3280807620 | 13 => 3553878443 | 14 => 3811616794 | 15 => 4084100981 | _ => 0
theorem tab_lt (i : Nat) : tab i < 4294967296 := by
  unfold tab; split <;> decide
theorem tab_steps (i : Nat) (h : i < 16) : steps 4 (BitVec.ofNat 32 i) = BitVec.ofNat 32 (tab i) := by
  have : ∀ i, i < 16 → steps 4 (BitVec.ofNat 32 i) = BitVec.ofNat 32 (tab i) := by decide +kernel
  exact this i h
theorem step_even {r : BitVec 32} (h : r.getLsbD 0 = false) : step r = r >>> 1 := by unfold step; rw [h]; rfl
theorem steps4_high (r : BitVec 32) (h : ∀ i, i < 4 → r.getLsbD i = false) : steps 4 r = r >>> 4 := by
  simp only [steps]
  rw [step_even (h 0 (by omega)), step_even (r := r >>> 1) (by rw [BitVec.getLsbD_ushiftRight]; exact h 1 (by omega)),
    step_even (r := r >>> 1 >>> 1) (by rw [BitVec.getLsbD_ushiftRight, BitVec.getLsbD_ushiftRight]; exact h 2 (by omega)),
    step_even (r := r >>> 1 >>> 1 >>> 1) (by rw [BitVec.getLsbD_ushiftRight, BitVec.getLsbD_ushiftRight, BitVec.getLsbD_ushiftRight]; exact h 3 (by omega))]
  simp only [← BitVec.shiftRight_add]
/-- Four bits at once, from the table. -/
theorem nibble (r : BitVec 32) : (r >>> 4) ^^^ BitVec.ofNat 32 (tab (r.toNat % 16)) = steps 4 r := by
  rw [← tab_steps _ (Nat.mod_lt _ (by decide))]
  have e1 : BitVec.ofNat 32 (r.toNat % 16) = r &&& 15#32 := by
    apply BitVec.eq_of_toNat_eq
    rw [BitVec.toNat_and, BitVec.toNat_ofNat, show (15#32).toNat = 2 ^ 4 - 1 from rfl, Nat.and_two_pow_sub_one_eq_mod]
    exact Nat.mod_eq_of_lt (by omega)
  have e2 : steps 4 (r &&& ~~~ 15#32) = r >>> 4 := by
    rw [steps4_high]
    · apply BitVec.eq_of_getLsbD_eq
      intro i hi
      rw [BitVec.getLsbD_ushiftRight, BitVec.getLsbD_ushiftRight, BitVec.getLsbD_and]
      by_cases h : 4 + i < 32
      · have : (~~~ 15#32).getLsbD (4 + i) = true := by
          have hh : ∀ i, i < 28 → (~~~ 15#32).getLsbD (4 + i) = true := by decide +kernel
          exact hh i (by omega)
        rw [this, Bool.and_true]
      · rw [BitVec.getLsbD_of_ge r _ (by omega), Bool.false_and]
    · intro i hi
      rw [BitVec.getLsbD_and]
      have hh : ∀ i, i < 4 → (~~~ 15#32).getLsbD i = false := by decide +kernel
      rw [hh i hi, Bool.and_false]
  rw [e1, ← e2, ← steps_xor]
  congr 1
  apply BitVec.eq_of_getLsbD_eq
  intro i hi
  simp only [BitVec.getLsbD_xor, BitVec.getLsbD_and, BitVec.getLsbD_not, hi, decide_true, Bool.true_and]
  cases r.getLsbD i <;> cases (15#32).getLsbD i <;> rfl

/-- Two remainders multiplied, by the bits of the first from the top. -/
def mulF : Nat → BitVec 32 → BitVec 32 → BitVec 32
  | 0, _, _ => 0#32
  | n + 1, a, b => (if a.getLsbD 31 then b else 0#32) ^^^ mulF n (a <<< 1) (step b)
theorem mulF_zero (n : Nat) : ∀ b : BitVec 32, mulF n 0#32 b = 0#32 := by
  induction n with
  | zero => intro b; rfl
  | succ n ih => intro b; rw [mulF, show (0#32 <<< 1) = 0#32 from by decide, ih]; simp
theorem mulF_step (n : Nat) : ∀ a b : BitVec 32, mulF n a (step b) = step (mulF n a b) := by
  induction n with
  | zero => intro a b; exact step_zero.symm
  | succ n ih =>
    intro a b
    rw [mulF, mulF, step_xor, ih]
    congr 1
    split
    · rfl
    · exact step_zero.symm
theorem mulF_steps (n k : Nat) : ∀ a b : BitVec 32, mulF n a (steps k b) = steps k (mulF n a b) := by
  induction k with
  | zero => intro a b; rfl
  | succ k ih => intro a b; rw [steps, steps, ih, mulF_step]
theorem mulF_xor (n : Nat) : ∀ a c b : BitVec 32, mulF n (a ^^^ c) b = mulF n a b ^^^ mulF n c b := by
  induction n with
  | zero => intro a c b; simp [mulF]
  | succ n ih =>
    intro a c b
    rw [mulF, mulF, mulF, BitVec.getLsbD_xor, BitVec.shiftLeft_xor_distrib, ih]
    cases a.getLsbD 31 <;> cases c.getLsbD 31 <;> simp <;>
      (generalize mulF n (a <<< 1) (step b) = x; generalize mulF n (c <<< 1) (step b) = y;
       apply BitVec.eq_of_getLsbD_eq; intro i hi; simp only [BitVec.getLsbD_xor]; cases x.getLsbD i <;> cases y.getLsbD i <;> cases b.getLsbD i <;> rfl)
def mul (a b : BitVec 32) : BitVec 32 := mulF 32 a b
/-- Whatever adds up is known by its 32 single bits. -/
theorem known_by_bits (f : BitVec 32 → BitVec 32) (hf : ∀ a c, f (a ^^^ c) = f a ^^^ f c) (h : ∀ i, i < 32 → f (BitVec.twoPow 32 i) = BitVec.twoPow 32 i) (a : BitVec 32) : f a = a := by
  have h0 : f 0#32 = 0#32 := by have := hf 0#32 0#32; simpa using this
  have key : ∀ k, k ≤ 32 → ∀ a : BitVec 32, (∀ i, k ≤ i → a.getLsbD i = false) → f a = a := by
    intro k
    induction k with
    | zero =>
      intro _ a ha
      have : a = 0#32 := by apply BitVec.eq_of_getLsbD_eq; intro i hi; rw [ha i (Nat.zero_le _)]; simp
      rw [this, h0]
    | succ k ih =>
      intro hk a ha
      by_cases hb : a.getLsbD k = true
      · have e : a = (a ^^^ BitVec.twoPow 32 k) ^^^ BitVec.twoPow 32 k := by rw [BitVec.xor_assoc, BitVec.xor_self, BitVec.xor_zero]
        have e2 : f (a ^^^ BitVec.twoPow 32 k) = a ^^^ BitVec.twoPow 32 k := by
          refine ih (by omega) _ fun i hi => ?_
          rw [BitVec.getLsbD_xor, BitVec.getLsbD_twoPow]
          by_cases hik : i = k
          · subst hik; rw [hb]; simp; omega
          · rw [ha i (by omega)]; simp; intro _; omega
        rw [e, hf, e2, h k (by omega)]
      · refine ih (by omega) a fun i hi => ?_
        by_cases hik : i = k
        · subst hik; simpa using hb
        · exact ha i (by omega)
  exact key 32 (Nat.le_refl _) a fun i hi => BitVec.getLsbD_of_ge a i hi
theorem mul_one (a : BitVec 32) : mul a 2147483648#32 = a :=
  known_by_bits (fun a => mul a 2147483648#32) (fun a c => mulF_xor 32 a c _) (by
    have : ∀ i, i < 32 → mul (BitVec.twoPow 32 i) 2147483648#32 = BitVec.twoPow 32 i := by decide +kernel
    exact this) a
/-- What stands k steps behind 1 multiplies by k steps. -/
theorem mul_power (a : BitVec 32) (k : Nat) : mul a (steps k 2147483648#32) = steps k a := by
  show mulF 32 a _ = _
  rw [mulF_steps]
  exact congrArg _ (mul_one a)
theorem byByte_is : (8388608#32) = steps 8 2147483648#32 := by decide +kernel
/-- More fuel than bits gives nothing new. -/
theorem mulF_top (n : Nat) : ∀ (a b : BitVec 32), (∀ i, i + n < 32 → a.getLsbD i = false) → mulF n a b = mulF (n + 1) a b := by
  induction n with
  | zero =>
    intro a b h
    have : a = 0#32 := by apply BitVec.eq_of_getLsbD_eq; intro i hi; rw [h i (by omega)]; simp
    rw [this, mulF_zero, mulF_zero]
  | succ n ih =>
    intro a b h
    rw [mulF, mulF, ← ih (a <<< 1) (step b)]
    intro i hi
    rw [BitVec.getLsbD_shiftLeft]
    by_cases h1 : i < 1
    · simp [h1]
    · rw [h (i - 1) (by omega)]; simp

theorem crc_example : crc [49, 50, 51, 52, 53, 54, 55, 56, 57] = 3808858755#32 := by decide +kernel
theorem crc_nil : crc [] = 0#32 := by decide +kernel
end Go.Proofs.YtgdhjgfoalianaaDoor

/-
  sum.byX, sum.times, sum.Add, sum.Of and those of indentureref02: what the calls do.
-/
namespace Go.Proofs.YtgdhjgfoalianaaDoor
open Go.RowKit

theorem u32_and_one (r : BitVec 32) : bits .and .u32 (r.toNat : Int) 1 = if r.getLsbD 0 then 1 else 0 := by
  have h := u32_and_nat r.toNat 1 r.isLt (by decide)
  rw [show ((1 : Nat) : Int) = 1 from rfl] at h
  rw [h, Nat.and_one_is_mod]
  have : r.getLsbD 0 = decide (r.toNat % 2 = 1) := by rw [BitVec.getLsbD, Nat.testBit_zero]
  rw [this]
  by_cases hx : r.toNat % 2 = 1
  · simp [hx]
  · simp [hx]; omega
theorem u32_xor_bv (a b : BitVec 32) : bits .xor .u32 (a.toNat : Int) (b.toNat : Int) = ((a ^^^ b).toNat : Int) := by
  rw [u32_xor_nat _ _ a.isLt b.isLt, BitVec.toNat_xor]
theorem shr_bv (a : BitVec 32) (k : Nat) : ((a.toNat : Int) / ((2 ^ k : Nat) : Int)) = ((a >>> k).toNat : Int) := by
  rw [BitVec.toNat_ushiftRight, Nat.shiftRight_eq_div_pow]; rfl

set_option maxRecDepth 100000 in
theorem step_any (r : BitVec 32) (w : World) : Calls Tryd.prog 76 #[.int .u32 r.toNat] w fun e w' => e = .returned (.int .u32 (step r).toNat) ∧ w' = w := by
  have h1 := u32_and_one r
  have HS : Hid (step r = if r.getLsbD 0 then (r >>> 1) ^^^ 2197175160#32 else r >>> 1) := rfl
  have hr := r.isLt
  cases hb : r.getLsbD 0
  · rw [hb] at h1 HS
    go_enter Tryd.func76, Tryd.ntmps76
    go_wp2
    go_ret
    rw [HS.out, if_neg (by decide), ← shr_bv r 1]
    exact ⟨rfl, rfl⟩
  · rw [hb] at h1 HS
    go_enter Tryd.func76, Tryd.ntmps76
    go_wp2
    go_ret
    rw [HS.out, if_pos (by decide), ← u32_xor_bv, ← shr_bv r 1]
    exact ⟨rfl, rfl⟩
theorem u32_shl_one (a : BitVec 32) : IntKind.u32.wrap ((a.toNat : Int) * 2) = ((a <<< 1).toNat : Int) := by
  rw [BitVec.toNat_shiftLeft, Nat.shiftLeft_eq, IntKind.wrap_u32']
  simp
theorem u32_top (a : BitVec 32) : bits .and .u32 (a.toNat : Int) 2147483648 = if a.getLsbD 31 then 2147483648 else 0 := by
  have h := u32_and_nat a.toNat 2147483648 a.isLt (by decide)
  rw [show ((2147483648 : Nat) : Int) = 2147483648 from rfl] at h
  rw [h]
  have e : a.toNat &&& 2147483648 = if a.getLsbD 31 then 2147483648 else 0 := by
    apply Nat.eq_of_testBit_eq
    intro i
    rw [Nat.testBit_and, show (2147483648 : Nat) = 2 ^ 31 from rfl, Nat.testBit_two_pow]
    by_cases h : 31 = i
    · subst h
      cases hh : a.getLsbD 31 <;> rw [BitVec.getLsbD] at hh <;> rw [hh] <;> decide
    · cases a.getLsbD 31
      · simp [h]
      · rw [if_pos rfl, Nat.testBit_two_pow]; simp [h]
  rw [e]
  cases a.getLsbD 31 <;> rfl

/-- The table lies where the program's variable lies. -/
def Tab (w : World) : Prop := 0 < w.heap.size ∧ ∀ i, i < 16 → w.cell? ⟨0, i, none⟩ = some (.int .u32 (tab i : Int))
theorem Tab.kept {w w' : World} (h : Tab w) (hb : Below w.heap.size w w') : Tab w' :=
  ⟨Nat.lt_of_lt_of_le h.1 hb.size, fun i hi => (hb.cell (p := ⟨0, i, none⟩) h.1).trans (h.2 i hi)⟩

theorem u32_low (r : BitVec 32) : bits .and .u32 (r.toNat : Int) 15 = ((r.toNat % 16 : Nat) : Int) := by
  have h := u32_and_nat r.toNat 15 r.isLt (by decide)
  rw [show ((15 : Nat) : Int) = 15 from rfl] at h
  rw [h, show (15 : Nat) = 2 ^ 4 - 1 from rfl, Nat.and_two_pow_sub_one_eq_mod]
/-- One step of four bits, as the walk spells it. -/
theorem u32_nibble (r : BitVec 32) : bits .xor .u32 ((r.toNat : Int) / 16) (tab (r.toNat % 16) : Int) = ((steps 4 r).toNat : Int) := by
  rw [← nibble, ← u32_xor_bv, ← shr_bv r 4]
  congr 1
  rw [BitVec.toNat_ofNat, Nat.mod_eq_of_lt (tab_lt _)]
theorem u32_not (r : BitVec 32) : bits .xor .u32 4294967295 (r.toNat : Int) = ((~~~ r).toNat : Int) := by
  rw [← BitVec.xor_allOnes, BitVec.xor_comm, ← u32_xor_bv]
  rfl
theorem u32_byte (r : BitVec 32) (x : UInt8) : bits .xor .u32 (r.toNat : Int) (x.toNat : Int) = ((r ^^^ BitVec.ofNat 32 x.toNat).toNat : Int) := by
  rw [← u32_xor_bv, BitVec.toNat_ofNat, Nat.mod_eq_of_lt (by have := x.toNat_lt; omega)]
theorem runs_take (r : BitVec 32) (l : List UInt8) (i : Nat) (h : i < l.length) : runs r (l.take (i + 1)) = byt (runs r (l.take i)) l[i] := by
  rw [List.take_succ_eq_append_getElem h, runs_append]; rfl

set_option maxRecDepth 100000 in
set_option maxHeartbeats 400000 in
theorem add_any (s : BitVec 32) (v : Value) (l : List UInt8) (w : World) (hT : Tab w) (h : Rd w v l) (hl : l.length ≤ 140737488355328) :
    Calls Tryd.prog 77 #[.int .u32 s.toNat, v] w fun e w' => e = .returned (.int .u32 (crcAdd s l).toNat) ∧ w' = w := by
  obtain ⟨a, cap, rfl, h1, h2, h3, h4⟩ := h
  have HN : Hid (bits .xor .u32 4294967295 (s.toNat : Int) = ((~~~ s).toNat : Int)) := u32_not s
  obtain ⟨hT0, hT1⟩ := hT
  have HT : Hid (∀ i, i < 16 → w.cell? ⟨0, i, none⟩ = some (.int .u32 (tab i : Int))) := hT1
  clear hT1
  have H4 : Hid (0 < l.length → ∃ b off, a = some ⟨b, off, none⟩ ∧ b < w.heap.size ∧ ∀ j u, (By l)[j]? = some u → w.cell? ⟨b, off + j, none⟩ = some u) := h4
  clear h4 h3
  go_enter Tryd.func77, Tryd.ntmps77
  go_wp2
  go_loopg [5, 12] (l.length + 1) (fun k y z wr => wr = w ∧ ∃ i : Nat, i ≤ l.length ∧ k + i = l.length + 1 ∧ z = .int .i64 i ∧ ∃ r : BitVec 32, y = .int .u32 r.toNat ∧ Hid (r = runs (~~~ s) (l.take i)))
  case atStart => exact ⟨rfl, 0, Nat.zero_le _, rfl, rfl, _, congrArg _ HN.out, rfl⟩
  case round =>
    obtain ⟨hw, i, hi, hk, rfl, r, rfl, HR⟩ := hrel
    subst hw
    by_cases hlt : i < l.length
    · obtain ⟨b, off, rfl, hb, hc⟩ := H4.out (by omega)
      have hcell := hc i _ (By_get hlt)
      clear hc
      have hlt' : (i : Int) < l.length := by omega
      have hx : l[i].toNat < 256 := l[i].toNat_lt
      have HB : Hid (runs (~~~ s) (l.take (i + 1)) = steps 4 (steps 4 (r ^^^ BitVec.ofNat 32 l[i].toNat))) := (show _ = _ by rw [runs_take _ _ _ hlt, ← HR.out]; rfl)
      have e1 := u32_byte r l[i]
      generalize l[i].toNat = x at *
      generalize r ^^^ BitVec.ofNat 32 x = q at *
      have e2 := u32_low q
      have e3 := u32_nibble q
      have n0 : q.toNat % 16 < 16 := Nat.mod_lt _ (by decide)
      have c0 := HT.out _ n0
      generalize q.toNat % 16 = n at *
      generalize tab n = t0 at *
      generalize steps 4 q = q1 at *
      have e4 := u32_low q1
      have e5 := u32_nibble q1
      have n1 : q1.toNat % 16 < 16 := Nat.mod_lt _ (by decide)
      have c1 := HT.out _ n1
      generalize q1.toNat % 16 = m at *
      generalize tab m = t1 at *
      generalize steps 4 q1 = q2 at *
      go_wp2
      go_roundg (gk - 1)
      case measure => omega
      case rel => exact ⟨rfl, i + 1, hlt, by omega, by go_num, q2, rfl, HB.out.symm⟩
    · obtain rfl : i = l.length := by omega
      have hlt' : ¬ (l.length : Int) < l.length := by omega
      have HE : Hid (r = runs (~~~ s) l) := (show _ = _ by rw [HR.out, List.take_length])
      go_wp2
      go_ret
      refine ⟨congrArg (fun x => Ending.returned (Value.int .u32 x)) ?_, rfl⟩
      show bits .xor .u32 4294967295 (r.toNat : Int) = _
      rw [u32_not, HE.out]
      rfl

set_option maxRecDepth 100000 in
theorem of_any (v : Value) (l : List UInt8) (w : World) (hT : Tab w) (h : Rd w v l) (hl : l.length ≤ 140737488355328) :
    Calls Tryd.prog 73 #[v] w fun e w' => e = .returned (.int .u32 (crc l).toNat) ∧ w' = w := by
  go_enter Tryd.func73, Tryd.ntmps73
  go_wp2_with fail
  refine (add_any 0#32 v l w hT h hl).mono ?_
  rintro e w1 ⟨rfl, rfl⟩
  go_wp2
  go_ret
  exact ⟨rfl, rfl⟩

set_option maxRecDepth 100000 in
set_option maxHeartbeats 400000 in
theorem refAdd_any (s : BitVec 32) (v : Value) (l : List UInt8) (w : World) (h : Rd w v l) (hl : l.length ≤ 140737488355328) :
    Calls Tryd.prog 70 #[.int .u32 s.toNat, v] w fun e w' => e = .returned (.int .u32 (crcAdd s l).toNat) ∧ w' = w := by
  obtain ⟨a, cap, rfl, h1, h2, h3, h4⟩ := h
  have HN : Hid (bits .xor .u32 4294967295 (s.toNat : Int) = ((~~~ s).toNat : Int)) := u32_not s
  have H4 : Hid (0 < l.length → ∃ b off, a = some ⟨b, off, none⟩ ∧ b < w.heap.size ∧ ∀ j u, (By l)[j]? = some u → w.cell? ⟨b, off + j, none⟩ = some u) := h4
  clear h4 h3
  go_enter Tryd.func70, Tryd.ntmps70
  go_wp2
  go_loopg [0, 12] (l.length + 1) (fun k y z wr => wr = w ∧ ∃ i : Nat, i ≤ l.length ∧ k + i = l.length + 1 ∧ z = .int .i64 i ∧ ∃ r : BitVec 32, y = .int .u32 r.toNat ∧ Hid (r = runs (~~~ s) (l.take i)))
  case atStart => exact ⟨rfl, 0, Nat.zero_le _, rfl, rfl, _, congrArg _ HN.out, rfl⟩
  case round =>
    obtain ⟨hw, i, hi, hk, rfl, r, rfl, HR⟩ := hrel
    subst hw
    by_cases hlt : i < l.length
    · obtain ⟨b, off, rfl, hb, hc⟩ := H4.out (by omega)
      have hcell := hc i _ (By_get hlt)
      clear hc
      have hlt' : (i : Int) < l.length := by omega
      have hx : l[i].toNat < 256 := l[i].toNat_lt
      have HB : Hid (runs (~~~ s) (l.take (i + 1)) = steps 8 (r ^^^ BitVec.ofNat 32 l[i].toNat)) := (show _ = _ by rw [runs_take _ _ _ hlt, ← HR.out]; rfl)
      have e1 := u32_byte r l[i]
      generalize l[i].toNat = x at *
      generalize r ^^^ BitVec.ofNat 32 x = q at *
      go_wp2
      go_loopg [0, 7] 9 (fun k y z wt => wt = wr ∧ ∃ j : Nat, j ≤ 8 ∧ k + j = 9 ∧ z = .int .i64 j ∧ ∃ c : BitVec 32, y = .int .u32 c.toNat ∧ Hid (steps 8 q = steps (8 - j) c))
      case atStart => exact ⟨rfl, 0, by omega, rfl, rfl, q, rfl, rfl⟩
      case round =>
        obtain ⟨hw, j, hj, hk2, rfl, c, rfl, HC⟩ := hrel
        subst hw
        by_cases hj8 : j < 8
        · have hj8' : (j : Int) < 8 := by omega
          have HC2 : Hid (steps 8 q = steps (8 - (j + 1)) (step c)) := (show _ = _ by
            rw [HC.out, show 8 - j = (8 - (j + 1)) + 1 from by omega]; rfl)
          go_wp2_with fail
          refine (step_any c _).mono ?_
          rintro e w1 ⟨rfl, rfl⟩
          go_wp2
          go_roundg (gk - 1)
          case measure => omega
          case rel => exact ⟨rfl, j + 1, by omega, by omega, by go_num, step c, rfl, HC2⟩
        · obtain rfl : j = 8 := by omega
          have HB2 : Hid (c = runs (~~~ s) (l.take (i + 1))) := (show _ = _ by rw [HB.out, HC.out]; rfl)
          go_wp2
          go_roundg (l.length - i)
          case measure => omega
          case rel => exact ⟨rfl, i + 1, hlt, by omega, by go_num, c, rfl, HB2⟩
    · obtain rfl : i = l.length := by omega
      have hlt' : ¬ (l.length : Int) < l.length := by omega
      have HE : Hid (r = runs (~~~ s) l) := (show _ = _ by rw [HR.out, List.take_length])
      go_wp2
      go_ret
      refine ⟨congrArg (fun x => Ending.returned (Value.int .u32 x)) ?_, rfl⟩
      show bits .xor .u32 4294967295 (r.toNat : Int) = _
      rw [u32_not, HE.out]
      rfl

set_option maxRecDepth 100000 in
theorem refOf_any (v : Value) (l : List UInt8) (w : World) (h : Rd w v l) (hl : l.length ≤ 140737488355328) :
    Calls Tryd.prog 64 #[v] w fun e w' => e = .returned (.int .u32 (crc l).toNat) ∧ w' = w := by
  go_enter Tryd.func64, Tryd.ntmps64
  go_wp2_with fail
  refine (refAdd_any 0#32 v l w h hl).mono ?_
  rintro e w1 ⟨rfl, rfl⟩
  go_wp2
  go_ret
  exact ⟨rfl, rfl⟩
#print axioms of_any
#print axioms refOf_any
end Go.Proofs.YtgdhjgfoalianaaDoor

/-
  sum.sealOf, sum.Frame and that of indentureref02: what the calls do.
-/
namespace Go.Proofs.YtgdhjgfoalianaaDoor
open Go.RowKit

/-- Four bytes, the greatest first. -/
def be4 (s : BitVec 32) : List UInt8 := [UInt8.ofNat (s.toNat / 16777216), UInt8.ofNat (s.toNat / 65536), UInt8.ofNat (s.toNat / 256), UInt8.ofNat s.toNat]
theorem be4_length (s : BitVec 32) : (be4 s).length = 4 := rfl
def headed (l : List UInt8) : List UInt8 := enc l.length ++ l
def framed (l : List UInt8) : List UInt8 := headed l ++ be4 (crc (headed l))
theorem Tryd.sizeSeal : (Tryd.prog.info? 103).map (·.size) = some 4 := by kernel_rfl

theorem By_be4 (s : BitVec 32) : By (be4 s) = [.int .u8 ((s.toNat : Int) / 16777216), .int .u8 ((s.toNat : Int) / 65536 % 256), .int .u8 ((s.toNat : Int) / 256 % 256), .int .u8 ((s.toNat : Int) % 256)] := by
  have := s.isLt
  simp [By, be4]
  omega

set_option maxRecDepth 100000 in
theorem sealOf_any (v : Value) (l : List UInt8) (w : World) (hT : Tab w) (h : Rd w v l) (hl : l.length ≤ 140737488355328) :
    Calls Tryd.prog 66 #[v] w fun e w' => e = .returned (.agg (By (be4 (crc l))).toArray) ∧ Below w.heap.size w w' := by
  obtain ⟨s, hs0⟩ : ∃ s, s = crc l := ⟨_, rfl⟩
  have HS : Hid (s = crc l) := hs0
  clear hs0
  rw [← HS.out]
  have HB : Hid (By (be4 s) = _) := By_be4 s
  have hs := s.isLt
  go_enter Tryd.func66, Tryd.ntmps66
  go_wp2_with fail
  refine (of_any v l _ (hT.kept ((Below.refl _ _).alloc (Nat.le_refl _) _)) (h.kept ((Below.refl _ _).alloc (Nat.le_refl _) _)) hl).mono ?_
  rintro e w1 ⟨rfl, hw1⟩
  subst hw1
  rw [← HS.out]
  go_wp2_with fail
  refine bodyPost_ret (v := .agg (By (be4 s)).toArray) (by rw [HB.out]; simp [results, Tryd.results66, go_sem]) rfl ⟨rfl, ?_⟩
  exact (Below.refl _ _).alloc (Nat.le_refl _) _
#print axioms sealOf_any

set_option maxRecDepth 100000 in
theorem frame_big (v : Value) (l : List UInt8) (w : World) (h : Rd w v l) (hl : 8192 < l.length) :
    Calls Tryd.prog 57 #[v] w fun e w' => e = .returned (.slice none 0 0) ∧ w' = w := by
  obtain ⟨a, cap, rfl, h1, h2, h3, h4⟩ := h
  have hl' : (8192 : Int) < l.length := by omega
  go_enter Tryd.func57, Tryd.ntmps57
  go_wp2
  go_ret
  exact ⟨rfl, rfl⟩

theorem own_made (w : World) (B C : Nat) (hB : B ≤ w.heap.size) (hC : C ≤ maxLen) : Own (w.alloc (.cells (List.replicate C (Value.int .u8 0)).toArray 5)) B (.slice (some ⟨w.heap.size, 0, none⟩) 0 C) [] :=
  ⟨rfl, .inr ⟨w.heap.size, C, _, rfl, hB, heap_alloc_new w _, Nat.zero_le _, hC, by simp, by simp [By]⟩⟩
theorem sliceSeal (g : Nat) (W : World) : (Instr.sliceAt 103 (.pointer (some ⟨g, 0, none⟩)) none none none).run Tryd.prog W = .ok (.slice (some ⟨g, 0, none⟩) 4 4) W := by
  simp [Instr.sliceAt, Instr.sureAddr, run_underlying Tryd.underlying103, Instr.sliceBounds, Addr.add_lit]
theorem rd_four {W : World} {g : Nat} {L : List UInt8} {t : TypeId} (hL : L.length = 4) (hg : W.heap[g]? = some (.cells (By L).toArray t (0, 0))) : Rd W (.slice (some ⟨g, 0, none⟩) 4 4) L := by
  refine ⟨_, 4, by rw [hL], by omega, by simp [maxLen], fun h => by simp at h, fun _ => ⟨g, 0, rfl, (Array.getElem?_eq_some_iff.1 hg).1, fun j u hj => ?_⟩⟩
  rw [cell_of_row W g (0 + j) _ t _ hg]
  simpa using hj

set_option maxRecDepth 100000 in
set_option maxHeartbeats 400000 in
theorem frame_any (v : Value) (l : List UInt8) (w : World) (hT : Tab w) (h : Rd w v l) (hl : l.length ≤ 8192) :
    Calls Tryd.prog 57 #[v] w fun e w' => ∃ v', e = .returned v' ∧ Own w' w.heap.size v' (framed l) ∧ Below w.heap.size w w' := by
  obtain ⟨i0, hi, hz0, hz1, hz2⟩ := info_parts Tryd.info5S
  have h0 := h
  obtain ⟨a, cap, rfl, h1, h2, h3, h4⟩ := h
  have hl' : ¬ (8192 : Int) < l.length := by omega
  clear h4 h3
  have hel := enc_length l.length
  have hhl : (headed l).length = (enc l.length).length + l.length := by simp [headed]
  have HF : Hid (framed l = headed l ++ be4 (crc (headed l))) := rfl
  have HH : Hid (headed l = enc l.length ++ l) := rfl
  go_enter Tryd.func57, Tryd.ntmps57
  go_wp2_with fail
  refine (num_any _ [] l.length w (Rd_nil w) (small_pow (by omega)) (by simp)).mono ?_
  rintro e w1 ⟨v1, rfl, ho1, hb1⟩
  simp only [List.nil_append] at ho1
  obtain ⟨a1, cap1, rfl, -⟩ := ho1.rd
  generalize hEN : enc l.length = E at *
  have hs1 := hb1.size
  have ha1 : Below w1.heap.size w1 (w1.alloc (.cells (List.replicate (E.length + l.length + 4) (Value.int .u8 0)).toArray 5)) := (Below.refl _ _).alloc (Nat.le_refl _) _
  go_wp2_with (first
    | (at_make; refine wpList_make_bytesS _ rfl _ _ 33 rfl i0 Tryd.underlying33 hi hz0 hz1 hz2 _ _ _ _ 0 (E.length + l.length + 4) rfl rfl rfl (by omega) (by omega) (by omega) ?_)
    | (at_builtin; refine wpList_append_bytes _ rfl (.tmp 20) (.tmp 21) 33 33 rfl w1.heap.size i0 Tryd.underlying33 hi hz0 hz1 hz2 _ [] rfl (by exact own_made w1 _ _ (Nat.le_refl _) (by simp only [maxLen]; omega)) _ E rfl (by exact (ho1.kept ha1).rd.src 33 Tryd.underlying33) (by simp; omega) (by simp) ?_; intro v2 w2 ho2 hb2; simp only [List.nil_append] at ho2)
    | (at_builtin; refine wpList_append_bytes _ rfl (.tmp 22) (.tmp 23) 33 33 rfl w1.heap.size i0 Tryd.underlying33 hi hz0 hz1 hz2 v2 E rfl ho2 _ l rfl (by exact ((h0.kept hb1).kept (ha1.trans hb2)).src 33 Tryd.underlying33) (by omega) (by have := hb2.size; simp at this; omega) ?_; intro v3 w3 ho3 hb3))
  have hb13 : Below w1.heap.size w1 w3 := (ha1.trans hb2).trans hb3
  have hb03 : Below w.heap.size w w3 := hb1.trans (hb13.mono hs1)
  have hs3 := hb03.size
  have hs13 := hb13.size
  refine (sealOf_any v3 (E ++ l) w3 (hT.kept hb03) ho3.rd (by simp; omega)).mono ?_
  rintro e w4 ⟨rfl, hb4⟩
  have hs4 := hb4.size
  have hsl := sliceSeal w4.heap.size
  obtain ⟨S, HS⟩ : ∃ S, Hid (S = be4 (crc (E ++ l))) := ⟨_, rfl⟩
  have hSl : S.length = 4 := by rw [HS.out, be4_length]
  rw [← HS.out]
  go_wp2_with (first
    | (refine wpList_store_newS rfl 103 (.tmp 5) (.tmp 26) rfl w4.heap.size (By S).toArray rfl rfl 103 (By (List.replicate 4 0)).toArray (heap_alloc_new w4 _) (by rw [Tryd.sizeSeal]; simp [By_length, hSl]) (by simp [By_length, hSl]) (By_all _) w4.heap.size w4 ((Below.refl _ _).alloc (Nat.le_refl _) _) (Nat.le_refl _) ?_; intro W HGW hbW)
    | (at_builtin; refine wpList_append_bytes _ rfl (.tmp 27) (.tmp 28) 33 33 rfl w1.heap.size i0 Tryd.underlying33 hi hz0 hz1 hz2 v3 (E ++ l) rfl ((ho3.kept hb4).kept hbW) _ S rfl (by exact (rd_four hSl HGW.out).src 33 Tryd.underlying33) (by simp; omega) (by have := hbW.size; omega) ?_; intro v5 w5 ho5 hb5))
  have hb4' : Below w1.heap.size w3 w4 := hb4.mono hs13
  have hbW' : Below w1.heap.size w4 W := hbW.mono (Nat.le_trans hs13 hs4)
  have hb35 : Below w1.heap.size w3 w5 := (hb4'.trans hbW').trans hb5
  go_ret
  refine ⟨_, rfl, ?_, hb03.trans (hb35.mono hs1)⟩
  rw [HF.out, HH.out, ← HS.out]
  exact ho5.mono hs1
#print axioms frame_any

set_option maxRecDepth 100000 in
set_option maxHeartbeats 400000 in
theorem refFrame_any (v : Value) (l : List UInt8) (w : World) (h : Rd w v l) (hl : l.length ≤ 8192) :
    Calls Tryd.prog 59 #[v] w fun e w' => ∃ v', e = .returned v' ∧ Own w' w.heap.size v' (framed l) ∧ Below w.heap.size w w' := by
  obtain ⟨i0, hi, hz0, hz1, hz2⟩ := info_parts Tryd.info5S
  have h0 := h
  obtain ⟨a, cap, rfl, h1, h2, h3, h4⟩ := h
  have hl' : ¬ (8192 : Int) < l.length := by omega
  clear h4 h3
  have hel := enc_length l.length
  have HF : Hid (framed l = headed l ++ be4 (crc (headed l))) := rfl
  have HH : Hid (headed l = enc l.length ++ l) := rfl
  go_enter Tryd.func59, Tryd.ntmps59
  go_wp2_with fail
  refine (refNum_any _ [] l.length w (Rd_nil w) (small_pow (by omega)) (by simp)).mono ?_
  rintro e w1 ⟨v1, rfl, ho1, hb1⟩
  simp only [List.nil_append] at ho1
  generalize hEN : enc l.length = E at *
  have hs1 := hb1.size
  go_wp2_with (first
    | (at_builtin; refine wpList_append_bytes _ rfl (.tmp 11) (.tmp 12) 33 33 rfl w.heap.size i0 Tryd.underlying33 hi hz0 hz1 hz2 v1 E rfl ho1 _ l rfl (by exact (h0.kept hb1).src 33 Tryd.underlying33) (by omega) (by omega) ?_; intro v3 w3 ho3 hb3))
  have hb03 : Below w.heap.size w w3 := hb1.trans hb3
  have hs3 := hb03.size
  refine (refOf_any v3 (E ++ l) w3 ho3.rd (by simp; omega)).mono ?_
  rintro e w4 ⟨rfl, hw4⟩
  subst hw4
  obtain ⟨s, HS⟩ : ∃ s, Hid (s = crc (E ++ l)) := ⟨_, rfl⟩
  rw [← HS.out]
  have hB : Hid (By (be4 s) = _) := By_be4 s
  have hs := s.isLt
  go_wp2_with (first
    | (at_builtin; refine wpList_append_bytes _ rfl (.tmp 16) (.tmp 28) 33 33 rfl w.heap.size i0 Tryd.underlying33 hi hz0 hz1 hz2 v3 (E ++ l) rfl (ho3.kept ((Below.refl _ _).alloc (Nat.le_refl _) _)) _ (be4 s) rfl (by exact (rd_four (L := be4 s) rfl (t := 5) (by rw [hB.out]; exact heap_alloc_new _ _)).src 33 Tryd.underlying33) (by simp [be4_length]; omega) (by simp; omega) ?_; intro v5 w5 ho5 hb5))
  go_ret
  refine ⟨_, rfl, ?_, hb03.trans (((Below.refl _ _).alloc hs3 _).trans hb5)⟩
  rw [HF.out, HH.out, ← HS.out]
  exact ho5
#print axioms refFrame_any
end Go.Proofs.YtgdhjgfoalianaaDoor

/-
  What sum.Open's operations do; bytes.Clone; what is opened, in plain words.
-/
namespace Go.Proofs.YtgdhjgfoalianaaDoor
open Go.RowKit

/-- What is framed at the begin of bytes. -/
def opn (l : List UInt8) : List UInt8 × Nat × Bool :=
  if (gn l).2.2 = true ∧ (gn l).1 ≤ 8192 ∧ (gn l).2.1 + (gn l).1 + 4 ≤ l.length ∧ be4 (crc (l.take ((gn l).2.1 + (gn l).1))) = (l.drop ((gn l).2.1 + (gn l).1)).take 4 then
    ((l.drop (gn l).2.1).take (gn l).1, (gn l).2.1 + (gn l).1 + 4, true)
  else ([], 0, false)
theorem opn_yes {l : List UInt8} {n k : Nat} (h : gn l = (n, k, true)) (h1 : n ≤ 8192) (h2 : k + n + 4 ≤ l.length) (h3 : be4 (crc (l.take (k + n))) = (l.drop (k + n)).take 4) :
    opn l = ((l.drop k).take n, k + n + 4, true) := by
  unfold opn; rw [h]; rw [if_pos ⟨rfl, h1, h2, h3⟩]
theorem opn_no {l : List UInt8} {n k : Nat} {ok : Bool} (h : gn l = (n, k, ok)) (h1 : ¬ (ok = true ∧ n ≤ 8192 ∧ k + n + 4 ≤ l.length ∧ be4 (crc (l.take (k + n))) = (l.drop (k + n)).take 4)) :
    opn l = ([], 0, false) := by
  unfold opn; rw [h]; rw [if_neg h1]

theorem size_elemB (W : World) : (sizeOf (Tryd.prog.elem 33)).run Tryd.prog W = .ok 1 W := by
  have he : Tryd.prog.elem 33 = 5 := by kernel_rfl
  obtain ⟨i0, hi, hz0, hz1, hz2⟩ := info_parts Tryd.info5S
  rw [he]
  simp [sizeOf, typeInfo, hi, hz1]
/-- b[:k]. -/
theorem slice_toS (b off n cap k : Nat) (hk : k ≤ n) (hc : n ≤ cap) (W : World) : (Instr.sliceAt 33 (.slice (some ⟨b, off, none⟩) n cap) none (some (.int .i64 (k : Int))) none).run Tryd.prog W = .ok (.slice (some ⟨b, off, none⟩) k cap) W := by
  have hu : Tryd.prog.underlying 33 = some (.slice (Tryd.prog.elem 33)) := by kernel_rfl
  rw [run_sliceAt_slice W 33 _ _ _ _ hu, run_slice_h W 33 _ _ _ hu .i64 (k : Int) (by omega) (by omega), size_elemB]
  simp [Result.andThen, sliced, Addr.add_lit]
/-- b[i:j]. -/
theorem slice_midS (b off n cap i j : Nat) (hi : i ≤ j) (hj : j ≤ n) (hc : n ≤ cap) (hlt : i < cap) (W : World) : (Instr.sliceAt 33 (.slice (some ⟨b, off, none⟩) n cap) (some (.int .i64 (i : Int))) (some (.int .i64 (j : Int))) none).run Tryd.prog W = .ok (.slice (some ⟨b, off + i, none⟩) (j - i) (cap - i)) W := by
  have hu : Tryd.prog.underlying 33 = some (.slice (Tryd.prog.elem 33)) := by kernel_rfl
  have hne : ¬ cap = i := by omega
  rw [run_sliceAt_slice W 33 _ _ _ _ hu, run_slice_lh W 33 _ _ _ hu .i64 .i64 (i : Int) (j : Int) (by omega) (by omega) (by omega), size_elemB]
  simp [Result.andThen, sliced, Addr.add_lit, hne]
theorem arrayAtSeal (a : Option Addr) (c : Nat) (W : World) : (Instr.arrayAt 103 (.slice a 4 c)).run Tryd.prog W = .ok (.pointer a) W := by
  simp [Instr.arrayAt, run_underlying Tryd.underlying103]
theorem loadSeal {W : World} {b o : Nat} {L : List UInt8} (hL : L.length = 4) (hc : ∀ j u, (By L)[j]? = some u → W.cell? ⟨b, o + j, none⟩ = some u) :
    (Instr.loadAt 103 (.pointer (some ⟨b, o, none⟩))).run Tryd.prog W = .ok (.agg (By L).toArray) W := by
  have hl := run_loadCells_list (P := Tryd.prog) W ⟨b, o, none⟩ (By L) (fun j v hv => by rw [Addr.add_lit]; exact hc j v hv)
  rw [By_length, hL] at hl
  simp [Instr.loadAt, Instr.sureAddr, loadVar, isAgg, run_underlying Tryd.underlying103, hl]
theorem neqSeal (S R : List UInt8) (hS : S.length = 4) (hR : R.length = 4) (W : World) : (binOp .neq 103 (.agg (By S).toArray) (.agg (By R).toArray)).run Tryd.prog W = .ok (.bool (!(S == R))) W := by
  have h5 : ∀ w, (sizeOf 5).run Tryd.prog w = .ok 1 w := fun w => by
    obtain ⟨i0, hi, hz0, hz1, hz2⟩ := info_parts Tryd.info5S
    simp [sizeOf, typeInfo, hi, hz1]
  rw [run_neq_struct]
  have := run_equalIn_bytes (P := Tryd.prog) W 9998 103 5 4 Tryd.underlying103 Tryd.underlying5 h5 S R hS hR
  have e : ∀ l : List UInt8, By l = l.map Extern.Stop.cell := fun l => rfl
  rw [e, e, this]
  rfl

theorem eqnilB (x : Addr) (n c : Nat) (W : World) : (binOp .eql 33 (.slice (some x) n c) (.slice none 0 0)).run Tryd.prog W = .ok (.bool false) W := by
  have h : (Op.equalIn (9999 + 1) 33 (.slice (some x) n c) (.slice none 0 0)).run Tryd.prog W = .ok false W := by
    rw [Op.equalIn]
    simp [run_underlying Tryd.underlying33]
  have h' : (Op.equalIn 10000 33 (.slice (some x) n c) (.slice none 0 0)).run Tryd.prog W = .ok false W := h
  simp only [binOp]
  simp [Op.equal, Op.maxDepth, h']
set_option maxRecDepth 100000 in
theorem clone_any (b off n cap : Nat) (l : List UInt8) (w : World) (h : Rd w (.slice (some ⟨b, off, none⟩) n cap) l) (hl : l.length ≤ 140737488355328) :
    Calls Tryd.prog 69 #[.slice (some ⟨b, off, none⟩) n cap] w fun e w' => ∃ v', e = .returned v' ∧ Own w' w.heap.size v' l ∧ Below w.heap.size w w' := by
  obtain ⟨i0, hi, hz0, hz1, hz2⟩ := info_parts Tryd.info5S
  have hr1 := h.kept ((Below.refl w.heap.size w).alloc (Nat.le_refl _) (.cells #[] 5 (0, 0)))
  have hq := eqnilB
  go_enter Tryd.func69, Tryd.ntmps69
  go_wp2_with (first
    | (at_builtin; refine wpList_append_bytes _ rfl (.tmp 5) (.tmp 6) 33 33 rfl w.heap.size i0 Tryd.underlying33 hi hz0 hz1 hz2 _ [] rfl (own_noneS w _ (Nat.le_refl _)) _ l rfl (hr1.src 33 Tryd.underlying33) (by simp; omega) (by simp) ?_; intro v1 w1 ho1 hb1; simp only [List.nil_append] at ho1))
  go_ret
  exact ⟨_, rfl, ho1, ((Below.refl _ _).alloc (Nat.le_refl _) _).trans hb1⟩
#print axioms clone_any
end Go.Proofs.YtgdhjgfoalianaaDoor

/-
  sum.Open: what the call does.
-/
namespace Go.Proofs.YtgdhjgfoalianaaDoor
open Go.RowKit
/-- The facts of a region whose operations yield values that are known, but for some that own bytes. -/
def SV (T : Nat → Value) (L : Nat → Option (List UInt8)) : Nat → World → Value → Prop := fun i w x => match L i with
  | none => x = T i
  | some l => ∃ B, Own w B x l
theorem SV_mono (T : Nat → Value) (L : Nat → Option (List UInt8)) : ∀ i w w' x, Gr w w' → SV T L i w x → SV T L i w' x := by
  intro i w w' x hg h
  unfold SV at *
  cases hl : L i with
  | none => rw [hl] at h; exact h
  | some l => rw [hl] at h; obtain ⟨B, hB⟩ := h; exact ⟨B, hB.kept hg⟩
theorem SV_val {T : Nat → Value} {L : Nat → Option (List UInt8)} {i : Nat} {w : World} {x : Value} (h : SV T L i w x) (hl : L i = none) : x = T i := by
  unfold SV at h; rw [hl] at h; exact h
theorem SV_own {T : Nat → Value} {L : Nat → Option (List UInt8)} {i : Nat} {w : World} {x : Value} {l : List UInt8} (h : SV T L i w x) (hl : L i = some l) : ∃ B, Own w B x l := by
  unfold SV at h; rw [hl] at h; exact h

theorem SV_mk {T : Nat → Value} {L : Nat → Option (List UInt8)} {i : Nat} {w : World} {x : Value} (hl : L i = none) (h : x = T i) : SV T L i w x := by
  unfold SV; rw [hl]; exact h
theorem SV_mko {T : Nat → Value} {L : Nat → Option (List UInt8)} {i : Nat} {w : World} {x : Value} {l : List UInt8} (hl : L i = some l) (B : Nat) (h : Own w B x l) : SV T L i w x := by
  unfold SV; rw [hl]; exact ⟨B, h⟩


theorem act_litS (a : Act) (n : Nat) (h : a.tmps.size = n) : a = { tmps := ((List.range n).map fun t => a.eval (.tmp t)).toArray, defers := a.defers } := by
  obtain ⟨tmps, defers⟩ := a
  congr 1
  apply Array.ext'
  apply List.ext_getElem?
  intro i
  simp only at h
  by_cases hi : i < n
  · have h1 : i < tmps.size := by omega
    simp [hi, h1, Act.eval]
  · have h1 : ¬ i < tmps.size := by omega
    simp [hi, h1]

theorem guardSeal (op : BinOp) (x y : Operand) (xs ys : Array Value) (W : World) : (eqGuard op 103 x y (.agg xs) (.agg ys)).run Tryd.prog W = .ok () W :=
  run_eqGuard_agg W op 103 x y xs ys (by kernel_rfl)

/-- The cells of a part in the midst. -/
theorem cells_mid {w : World} {b off cap : Nat} {l : List UInt8} (h : Rd w (.slice (some ⟨b, off, none⟩) l.length cap) l) (i m : Nat) (hi : i < l.length) :
    ∀ j u, (By ((l.drop i).take m))[j]? = some u → w.cell? ⟨b, off + i + j, none⟩ = some u := by
  intro j u hj
  obtain ⟨a', cap', e, h1, h2, h3, h4⟩ := h
  simp only [Value.slice.injEq] at e
  obtain ⟨rfl, -, rfl⟩ := e
  obtain ⟨b', off', e, hlt, hc⟩ := h4 (by omega)
  simp only [Option.some.injEq, Addr.mk.injEq, and_true] at e
  obtain ⟨rfl, rfl⟩ := e
  rw [show off + i + j = off + (i + j) from by omega]
  refine hc (i + j) u ?_
  simp only [By, List.map_take, List.map_drop] at hj
  have hjm : j < m := by
    have := (List.getElem?_eq_some_iff.1 hj).1
    simp at this
    omega
  rw [List.getElem?_take_of_lt hjm, List.getElem?_drop] at hj
  exact hj

set_option maxRecDepth 100000 in
set_option maxHeartbeats 1000000 in
theorem open_short (v : Value) (l : List UInt8) (w : World) (hT0 : Tab w) (hr : Rd w v l) (hl : l.length ≤ 140737488300000) (n k : Nat) (hgn : gn l = (n, k, true)) (h1 : n ≤ 8192) (h2 : ¬ k + n + 4 ≤ l.length) :
    Calls Tryd.prog 61 #[v] w fun e w' => e = .returned (.tuple #[.slice none 0 0, .int .i64 0, .bool false]) ∧ Below w.heap.size w w' := by
  have hr0 := hr
  obtain ⟨a, cap, rfl, hcap, -, -, h4⟩ := hr
  obtain ⟨hk1, hk9, hkl, -, -⟩ := gn_ok hgn
  obtain ⟨b, off, rfl, -⟩ := h4 (by omega)
  clear h4
  have h1' : ¬ (8192 : Int) < n := by omega
  obtain ⟨E, hE⟩ : ∃ E, E = k + n := ⟨_, rfl⟩
  obtain ⟨Z, hZ⟩ : ∃ Z, Z = k + n + 4 := ⟨_, rfl⟩
  have he8 : Value.int .i64 ((k : Int) + (n : Int)) = .int .i64 (E : Int) := by rw [hE]; rfl
  have he9 : Value.int .i64 ((k : Int) + (n : Int) + 4) = .int .i64 (Z : Int) := by rw [hZ]; rfl
  have HE : Hid (E = k + n) := hE
  have HZ : Hid (Z = E + 4) := (show _ = _ by omega)
  have h2' : (l.length : Int) < (Z : Int) := by omega
  have H8 : Hid (Value.int .i64 ((k : Int) + (n : Int)) = .int .i64 (E : Int)) := he8
  have H9 : Hid (Value.int .i64 ((k : Int) + (n : Int) + 4) = .int .i64 (Z : Int)) := he9
  clear he8 he9 hE hZ
  go_enter Tryd.func61, Tryd.ntmps61
  go_wp2_with fail
  refine (getNum_any _ l _ hr0 hl).mono ?_
  rw [hgn]
  rintro e w1 ⟨rfl, hb1⟩
  clear hgn
  have hr := hr0.kept hb1
  have hT := hT0.kept hb1
  go_wp2_with fail
  have he8 := H8.out
  have he9 := H9.out
  have hE := HE.out
  have hZ := HZ.out
  refine wp_region_inv Tryd.mixed (SV (fun i => match i with
      | 0 => .slice (some ⟨b, off, none⟩) l.length cap
      | 1 => .int .i64 (l.length : Int)
      | 2 => .int .i64 (Z : Int)
      | 3 | 4 | 16 => .bool true
      | _ => undef) (fun i => match i with
      | _ => none)) 51 rfl (by decide +kernel) (SV_mono _ _) ?_ ?_
  · refine AllFrom.cons (fun a' w' hg hk hd => ?_) (AllFrom.cons (fun a' w' hg hk hd => ?_) (AllFrom.cons (fun a' w' hg hk hd => ?_) (AllFrom.cons (fun a' w' hg hk hd => ?_) (AllFrom.cons (fun a' w' hg hk hd => ?_) (AllFrom.cons (fun a' w' hg hk hd => ?_) (AllFrom.cons (fun a' w' hg hk hd => ?_) (AllFrom.cons (fun a' w' hg hk hd => ?_) (AllFrom.cons (fun a' w' hg hk hd => ?_) (AllFrom.cons (fun a' w' hg hk hd => ?_) (AllFrom.cons (fun a' w' hg hk hd => ?_) (AllFrom.cons (fun a' w' hg hk hd => ?_) (AllFrom.cons (fun a' w' hg hk hd => ?_) (AllFrom.cons (fun a' w' hg hk hd => ?_) (AllFrom.cons (fun a' w' hg hk hd => ?_) (AllFrom.cons (fun a' w' hg hk hd => ?_) (AllFrom.cons (fun a' w' hg hk hd => ?_) AllFrom.nil))))))))))))))))
    · -- 0: Op.move (Operand.tmp 0)
      intro Q
      have e0 := hk.at 0 (by decide +kernel)
      exact wp_value _ (by simp only [execOp, e0]; rfl) (SV_mk rfl rfl)
    · -- 1: Op.call ( callee := Callee.builtin Builtin.len, args := #[Op
      intro Q
      have xe28 := SV_val (hd.val 0 28 (by decide +kernel)) rfl
      have e28 : a'.eval (.tmp 28) = .slice (some ⟨b, off, none⟩) l.length cap := xe28
      clear hd hk he8 he9 hE hZ
      have y : a'.tmps[28]?.getD undef = .slice (some ⟨b, off, none⟩) l.length cap := by simpa [Act.eval] using e28
      exact wp_value (.int .i64 (l.length : Int)) (by simp only [execOp]; go_simp) (SV_mk rfl rfl)
    · -- 2: Op.move (Operand.tmp 9)
      intro Q
      have e9 := (hk.at 9 (by decide +kernel)).trans he9
      exact wp_value _ (by simp only [execOp, e9]; rfl) (SV_mk rfl rfl)
    · -- 3: Op.binOp BinOp.lss 3 (Operand.tmp 29) (Operand.tmp 30) 3
      intro Q
      have xe29 := SV_val (hd.val 1 29 (by decide +kernel)) rfl
      have e29 : a'.eval (.tmp 29) = .int .i64 (l.length : Int) := xe29
      have xe30 := SV_val (hd.val 2 30 (by decide +kernel)) rfl
      have e30 : a'.eval (.tmp 30) = .int .i64 (Z : Int) := xe30
      clear hd hk he8 he9 hE hZ
      exact wp_value (.bool true) (by simp only [execOp, e29, e30]; go_simp) (SV_mk rfl rfl)
    · -- 4: Op.move (Operand.tmp 31)
      intro Q
      have xe31 := SV_val (hd.val 3 31 (by decide +kernel)) rfl
      have e31 : a'.eval (.tmp 31) = .bool true := xe31
      exact wp_value _ (by simp only [execOp, e31]; rfl) (SV_mk rfl rfl)
    · -- 5: Op.move (Operand.tmp 0)
      have eg : a'.eval (.tmp 32) = .bool true := SV_val (hd.val 4 32 (by decide +kernel)) rfl
      exact ⟨32, true, rfl, eg, fun h => absurd h (by decide), fun _ => SV_mk rfl rfl⟩
    · -- 6: Op.move (Operand.tmp 8)
      have eg : a'.eval (.tmp 32) = .bool true := SV_val (hd.val 4 32 (by decide +kernel)) rfl
      exact ⟨32, true, rfl, eg, fun h => absurd h (by decide), fun _ => SV_mk rfl rfl⟩
    · -- 7: Op.slice 22 (Operand.tmp 33) none (some (Operand.tmp 34)) no
      have eg : a'.eval (.tmp 32) = .bool true := SV_val (hd.val 4 32 (by decide +kernel)) rfl
      exact ⟨32, true, rfl, eg, fun h => absurd h (by decide), fun _ => SV_mk rfl rfl⟩
    · -- 8: Op.call ( callee := Callee.value (Operand.func 23), args := 
      have eg : a'.eval (.tmp 32) = .bool true := SV_val (hd.val 4 32 (by decide +kernel)) rfl
      exact ⟨32, true, rfl, eg, fun h => absurd h (by decide), fun _ => SV_mk rfl rfl⟩
    · -- 9: Op.move (Operand.tmp 0)
      have eg : a'.eval (.tmp 32) = .bool true := SV_val (hd.val 4 32 (by decide +kernel)) rfl
      exact ⟨32, true, rfl, eg, fun h => absurd h (by decide), fun _ => SV_mk rfl rfl⟩
    · -- 10: Op.move (Operand.tmp 8)
      have eg : a'.eval (.tmp 32) = .bool true := SV_val (hd.val 4 32 (by decide +kernel)) rfl
      exact ⟨32, true, rfl, eg, fun h => absurd h (by decide), fun _ => SV_mk rfl rfl⟩
    · -- 11: Op.move (Operand.tmp 9)
      have eg : a'.eval (.tmp 32) = .bool true := SV_val (hd.val 4 32 (by decide +kernel)) rfl
      exact ⟨32, true, rfl, eg, fun h => absurd h (by decide), fun _ => SV_mk rfl rfl⟩
    · -- 12: Op.slice 22 (Operand.tmp 37) (some (Operand.tmp 38)) (some (
      have eg : a'.eval (.tmp 32) = .bool true := SV_val (hd.val 4 32 (by decide +kernel)) rfl
      exact ⟨32, true, rfl, eg, fun h => absurd h (by decide), fun _ => SV_mk rfl rfl⟩
    · -- 13: Op.sliceToArrayPointer 44 (Operand.tmp 40)
      have eg : a'.eval (.tmp 32) = .bool true := SV_val (hd.val 4 32 (by decide +kernel)) rfl
      exact ⟨32, true, rfl, eg, fun h => absurd h (by decide), fun _ => SV_mk rfl rfl⟩
    · -- 14: Op.load 44 (Operand.tmp 41)
      have eg : a'.eval (.tmp 32) = .bool true := SV_val (hd.val 4 32 (by decide +kernel)) rfl
      exact ⟨32, true, rfl, eg, fun h => absurd h (by decide), fun _ => SV_mk rfl rfl⟩
    · -- 15: Op.binOp BinOp.neq 44 (Operand.tmp 36) (Operand.tmp 42) 44
      have eg : a'.eval (.tmp 32) = .bool true := SV_val (hd.val 4 32 (by decide +kernel)) rfl
      exact ⟨32, true, rfl, eg, fun h => absurd h (by decide), fun _ => SV_mk rfl rfl⟩
    · -- 16: Op.pick (Operand.tmp 32) (Operand.const (Value.bool true)) (
      intro Q
      have xe32 := SV_val (hd.val 4 32 (by decide +kernel)) rfl
      have e32 : a'.eval (.tmp 32) = .bool true := xe32
      have xe43 := SV_val (hd.val 15 43 (by decide +kernel)) rfl
      have e43 : a'.eval (.tmp 43) = undef := xe43
      clear hd hk he8 he9 hE hZ
      exact wp_value (.bool true) (by simp only [execOp, e32, e43]; go_simp) (SV_mk rfl rfl)
  · intro a' w' hsz' hdf hk hS hg
    have x44 := SV_val (hS 16 _ 44 rfl rfl) rfl
    have e44 : a'.eval (.tmp 44) = .bool true := x44
    have e0 : a'.eval (.tmp 0) = .slice (some ⟨b, off, none⟩) l.length cap := hk.at 0 (by decide +kernel)
    have e6 : a'.eval (.tmp 6) = .int .i64 (k : Int) := hk.at 6 (by decide +kernel)
    have e8 : a'.eval (.tmp 8) = .int .i64 (E : Int) := (hk.at 8 (by decide +kernel)).trans he8
    have e9 : a'.eval (.tmp 9) = .int .i64 (Z : Int) := (hk.at 9 (by decide +kernel)).trans he9
    obtain ⟨f, hf⟩ : ∃ f : Nat → Value, ∀ t, f t = a'.eval (.tmp t) := ⟨_, fun _ => rfl⟩
    have ha : a' = { tmps := #[f 0, f 1, f 2, f 3, f 4, f 5, f 6, f 7, f 8, f 9, f 10, f 11, f 12, f 13, f 14, f 15, f 16, f 17, f 18, f 19, f 20, f 21, f 22, f 23, f 24, f 25, f 26, f 27, f 28, f 29, f 30, f 31, f 32, f 33, f 34, f 35, f 36, f 37, f 38, f 39, f 40, f 41, f 42, f 43, f 44, f 45, f 46, f 47, f 48, f 49, f 50], defers := [] } := (act_litS a' 51 hsz').trans (by rw [hdf]; simp only [← hf]; rfl)
    rw [← hf] at e44 e0 e6 e8 e9
    rw [e44, e0, e6, e8, e9] at ha
    have hbg : Below w.heap.size w w' := hb1.trans (Below.mono hg hb1.size)
    have hr' := hr0.kept hbg
    clear he8 he9 hE hZ
    clear hf hk hS hsz' hdf hg x44 hr hT hT0 hr0 hb1
    subst ha
    go_wp2_with fail
    go_ret3
    exact ⟨rfl, hbg⟩

set_option maxRecDepth 100000 in
set_option maxHeartbeats 1000000 in
theorem open_fits (v : Value) (l : List UInt8) (w : World) (hT0 : Tab w) (hr : Rd w v l) (hl : l.length ≤ 140737488300000) (n k : Nat) (hgn : gn l = (n, k, true)) (h1 : n ≤ 8192) (h2 : k + n + 4 ≤ l.length) (q : Bool) (hq0 : (be4 (crc (l.take (k + n))) == (l.drop (k + n)).take 4) = q) :
    Calls Tryd.prog 61 #[v] w fun e w' => ∃ v', e = .returned (.tuple #[v', .int .i64 (if q then ((k + n + 4 : Nat) : Int) else 0), .bool q]) ∧ Own w' w.heap.size v' (if q then (l.drop k).take n else []) ∧ Below w.heap.size w w' := by
  have hr0 := hr
  obtain ⟨a, cap, rfl, hcap, -, -, h4⟩ := hr
  obtain ⟨hk1, hk9, hkl, -, -⟩ := gn_ok hgn
  obtain ⟨b, off, rfl, -⟩ := h4 (by omega)
  clear h4
  have h1' : ¬ (8192 : Int) < n := by omega
  obtain ⟨E, hE⟩ : ∃ E, E = k + n := ⟨_, rfl⟩
  obtain ⟨Z, hZ⟩ : ∃ Z, Z = k + n + 4 := ⟨_, rfl⟩
  have he8 : Value.int .i64 ((k : Int) + (n : Int)) = .int .i64 (E : Int) := by rw [hE]; rfl
  have he9 : Value.int .i64 ((k : Int) + (n : Int) + 4) = .int .i64 (Z : Int) := by rw [hZ]; rfl
  have HE : Hid (E = k + n) := hE
  have HZ : Hid (Z = E + 4) := (show _ = _ by omega)
  rw [← hE] at hq0
  have hq : Hid ((be4 (crc (l.take E)) == (l.drop E).take 4) = q) := hq0
  clear hq0
  have h2' : ¬ (l.length : Int) < (Z : Int) := by omega
  have h2n : Z ≤ l.length := by omega
  have H8 : Hid (Value.int .i64 ((k : Int) + (n : Int)) = .int .i64 (E : Int)) := he8
  have H9 : Hid (Value.int .i64 ((k : Int) + (n : Int) + 4) = .int .i64 (Z : Int)) := he9
  clear he8 he9 hE hZ
  go_enter Tryd.func61, Tryd.ntmps61
  go_wp2_with fail
  refine (getNum_any _ l _ hr0 hl).mono ?_
  rw [hgn]
  rintro e w1 ⟨rfl, hb1⟩
  clear hgn
  have hr := hr0.kept hb1
  have hT := hT0.kept hb1
  go_wp2_with fail
  have he8 := H8.out
  have he9 := H9.out
  have hE := HE.out
  have hZ := HZ.out
  refine wp_region_inv Tryd.mixed (SV (fun i => match i with
      | 1 => .int .i64 (l.length : Int)
      | 2 | 11 => .int .i64 (Z : Int)
      | 3 | 4 => .bool false
      | 6 | 10 => .int .i64 (E : Int)
      | 7 => .slice (some ⟨b, off, none⟩) E cap
      | 8 => .agg (By (be4 (crc (l.take E)))).toArray
      | 12 => .slice (some ⟨b, off + E, none⟩) 4 (cap - E)
      | 13 => .pointer (some ⟨b, off + E, none⟩)
      | 14 => .agg (By ((l.drop E).take 4)).toArray
      | 15 | 16 => .bool (!q)
      | _ => .slice (some ⟨b, off, none⟩) l.length cap) (fun i => match i with
      | _ => none)) 51 rfl (by decide +kernel) (SV_mono _ _) ?_ ?_
  · refine AllFrom.cons (fun a' w' hg hk hd => ?_) (AllFrom.cons (fun a' w' hg hk hd => ?_) (AllFrom.cons (fun a' w' hg hk hd => ?_) (AllFrom.cons (fun a' w' hg hk hd => ?_) (AllFrom.cons (fun a' w' hg hk hd => ?_) (AllFrom.cons (fun a' w' hg hk hd => ?_) (AllFrom.cons (fun a' w' hg hk hd => ?_) (AllFrom.cons (fun a' w' hg hk hd => ?_) (AllFrom.cons (fun a' w' hg hk hd => ?_) (AllFrom.cons (fun a' w' hg hk hd => ?_) (AllFrom.cons (fun a' w' hg hk hd => ?_) (AllFrom.cons (fun a' w' hg hk hd => ?_) (AllFrom.cons (fun a' w' hg hk hd => ?_) (AllFrom.cons (fun a' w' hg hk hd => ?_) (AllFrom.cons (fun a' w' hg hk hd => ?_) (AllFrom.cons (fun a' w' hg hk hd => ?_) (AllFrom.cons (fun a' w' hg hk hd => ?_) AllFrom.nil))))))))))))))))
    · -- 0: Op.move (Operand.tmp 0)
      intro Q
      have e0 := hk.at 0 (by decide +kernel)
      exact wp_value _ (by simp only [execOp, e0]; rfl) (SV_mk rfl rfl)
    · -- 1: Op.call ( callee := Callee.builtin Builtin.len, args := #[Op
      intro Q
      have xe28 := SV_val (hd.val 0 28 (by decide +kernel)) rfl
      have e28 : a'.eval (.tmp 28) = .slice (some ⟨b, off, none⟩) l.length cap := xe28
      clear hd hk he8 he9 hE hZ
      have y : a'.tmps[28]?.getD undef = .slice (some ⟨b, off, none⟩) l.length cap := by simpa [Act.eval] using e28
      exact wp_value (.int .i64 (l.length : Int)) (by simp only [execOp]; go_simp) (SV_mk rfl rfl)
    · -- 2: Op.move (Operand.tmp 9)
      intro Q
      have e9 := (hk.at 9 (by decide +kernel)).trans he9
      exact wp_value _ (by simp only [execOp, e9]; rfl) (SV_mk rfl rfl)
    · -- 3: Op.binOp BinOp.lss 3 (Operand.tmp 29) (Operand.tmp 30) 3
      intro Q
      have xe29 := SV_val (hd.val 1 29 (by decide +kernel)) rfl
      have e29 : a'.eval (.tmp 29) = .int .i64 (l.length : Int) := xe29
      have xe30 := SV_val (hd.val 2 30 (by decide +kernel)) rfl
      have e30 : a'.eval (.tmp 30) = .int .i64 (Z : Int) := xe30
      clear hd hk he8 he9 hE hZ
      exact wp_value (.bool false) (by simp only [execOp, e29, e30]; go_simp) (SV_mk rfl rfl)
    · -- 4: Op.move (Operand.tmp 31)
      intro Q
      have xe31 := SV_val (hd.val 3 31 (by decide +kernel)) rfl
      have e31 : a'.eval (.tmp 31) = .bool false := xe31
      exact wp_value _ (by simp only [execOp, e31]; rfl) (SV_mk rfl rfl)
    · -- 5: Op.move (Operand.tmp 0)
      have eg : a'.eval (.tmp 32) = .bool false := SV_val (hd.val 4 32 (by decide +kernel)) rfl
      refine ⟨32, false, rfl, eg, fun _ Q => ?_, fun h => absurd rfl h⟩
      have e0 := hk.at 0 (by decide +kernel)
      exact wp_value _ (by simp only [execOp, e0]; rfl) (SV_mk rfl rfl)
    · -- 6: Op.move (Operand.tmp 8)
      have eg : a'.eval (.tmp 32) = .bool false := SV_val (hd.val 4 32 (by decide +kernel)) rfl
      refine ⟨32, false, rfl, eg, fun _ Q => ?_, fun h => absurd rfl h⟩
      have e8 := (hk.at 8 (by decide +kernel)).trans he8
      exact wp_value _ (by simp only [execOp, e8]; rfl) (SV_mk rfl rfl)
    · -- 7: Op.slice 22 (Operand.tmp 33) none (some (Operand.tmp 34)) no
      have eg : a'.eval (.tmp 32) = .bool false := SV_val (hd.val 4 32 (by decide +kernel)) rfl
      refine ⟨32, false, rfl, eg, fun _ Q => ?_, fun h => absurd rfl h⟩
      have xe33 := SV_val (hd.val 5 33 (by decide +kernel)) rfl
      have e33 : a'.eval (.tmp 33) = .slice (some ⟨b, off, none⟩) l.length cap := xe33
      have xe34 := SV_val (hd.val 6 34 (by decide +kernel)) rfl
      have e34 : a'.eval (.tmp 34) = .int .i64 (E : Int) := xe34
      clear hd hk
      exact wp_value (.slice (some ⟨b, off, none⟩) E cap) (by have hs := slice_toS b off l.length cap E (by omega) hcap w'; simp only [execOp, e33, e34, Option.map]; simp [hs]) (SV_mk rfl rfl)
    · -- 8: Op.call ( callee := Callee.value (Operand.func 23), args := 
      have eg : a'.eval (.tmp 32) = .bool false := SV_val (hd.val 4 32 (by decide +kernel)) rfl
      refine ⟨32, false, rfl, eg, fun _ Q => ?_, fun h => absurd rfl h⟩
      have xe35 := SV_val (hd.val 7 35 (by decide +kernel)) rfl
      have e35 : a'.eval (.tmp 35) = .slice (some ⟨b, off, none⟩) E cap := xe35
      refine wp_call 66 _ (run_enter 66 _ _ rfl (by kernel_rfl)) ?_
      simp only [List.map_toArray, List.map_nil, List.map_cons, e35]
      refine (sealOf_any _ (l.take E) _ (hT.kept hg) ((hr.kept hg).take E (by omega)) (by simp; omega)).mono ?_
      rintro e w5 ⟨rfl, hb5⟩
      exact ⟨_, rfl, SV_mk rfl rfl, hb5⟩
    · -- 9: Op.move (Operand.tmp 0)
      have eg : a'.eval (.tmp 32) = .bool false := SV_val (hd.val 4 32 (by decide +kernel)) rfl
      refine ⟨32, false, rfl, eg, fun _ Q => ?_, fun h => absurd rfl h⟩
      have e0 := hk.at 0 (by decide +kernel)
      exact wp_value _ (by simp only [execOp, e0]; rfl) (SV_mk rfl rfl)
    · -- 10: Op.move (Operand.tmp 8)
      have eg : a'.eval (.tmp 32) = .bool false := SV_val (hd.val 4 32 (by decide +kernel)) rfl
      refine ⟨32, false, rfl, eg, fun _ Q => ?_, fun h => absurd rfl h⟩
      have e8 := (hk.at 8 (by decide +kernel)).trans he8
      exact wp_value _ (by simp only [execOp, e8]; rfl) (SV_mk rfl rfl)
    · -- 11: Op.move (Operand.tmp 9)
      have eg : a'.eval (.tmp 32) = .bool false := SV_val (hd.val 4 32 (by decide +kernel)) rfl
      refine ⟨32, false, rfl, eg, fun _ Q => ?_, fun h => absurd rfl h⟩
      have e9 := (hk.at 9 (by decide +kernel)).trans he9
      exact wp_value _ (by simp only [execOp, e9]; rfl) (SV_mk rfl rfl)
    · -- 12: Op.slice 22 (Operand.tmp 37) (some (Operand.tmp 38)) (some (
      have eg : a'.eval (.tmp 32) = .bool false := SV_val (hd.val 4 32 (by decide +kernel)) rfl
      refine ⟨32, false, rfl, eg, fun _ Q => ?_, fun h => absurd rfl h⟩
      have xe37 := SV_val (hd.val 9 37 (by decide +kernel)) rfl
      have e37 : a'.eval (.tmp 37) = .slice (some ⟨b, off, none⟩) l.length cap := xe37
      have xe38 := SV_val (hd.val 10 38 (by decide +kernel)) rfl
      have e38 : a'.eval (.tmp 38) = .int .i64 (E : Int) := xe38
      have xe39 := SV_val (hd.val 11 39 (by decide +kernel)) rfl
      have e39 : a'.eval (.tmp 39) = .int .i64 (Z : Int) := xe39
      clear hd hk
      exact wp_value (.slice (some ⟨b, off + E, none⟩) 4 (cap - E)) (by have hs := slice_midS b off l.length cap E Z (by omega) (by omega) hcap (by omega) w'; rw [show Z - E = 4 from by omega] at hs; simp only [execOp, e37, e38, e39, Option.map]; simp [hs]) (SV_mk rfl rfl)
    · -- 13: Op.sliceToArrayPointer 44 (Operand.tmp 40)
      have eg : a'.eval (.tmp 32) = .bool false := SV_val (hd.val 4 32 (by decide +kernel)) rfl
      refine ⟨32, false, rfl, eg, fun _ Q => ?_, fun h => absurd rfl h⟩
      have xe40 := SV_val (hd.val 12 40 (by decide +kernel)) rfl
      have e40 : a'.eval (.tmp 40) = .slice (some ⟨b, off + E, none⟩) 4 (cap - E) := xe40
      clear hd hk
      exact wp_value (.pointer (some ⟨b, off + E, none⟩)) (by have hs := arrayAtSeal (some ⟨b, off + E, none⟩) (cap - E) w'; simp only [execOp, e40]; simp [hs]) (SV_mk rfl rfl)
    · -- 14: Op.load 44 (Operand.tmp 41)
      have eg : a'.eval (.tmp 32) = .bool false := SV_val (hd.val 4 32 (by decide +kernel)) rfl
      refine ⟨32, false, rfl, eg, fun _ Q => ?_, fun h => absurd rfl h⟩
      have xe41 := SV_val (hd.val 13 41 (by decide +kernel)) rfl
      have e41 : a'.eval (.tmp 41) = .pointer (some ⟨b, off + E, none⟩) := xe41
      have hs := loadSeal (L := (l.drop E).take 4) (by simp; omega) (cells_mid (hr.kept hg) E 4 (by omega))
      clear hd hk
      exact wp_value (.agg (By ((l.drop E).take 4)).toArray) (by simp only [execOp, e41]; simp [hs]) (SV_mk rfl rfl)
    · -- 15: Op.binOp BinOp.neq 44 (Operand.tmp 36) (Operand.tmp 42) 44
      have eg : a'.eval (.tmp 32) = .bool false := SV_val (hd.val 4 32 (by decide +kernel)) rfl
      refine ⟨32, false, rfl, eg, fun _ Q => ?_, fun h => absurd rfl h⟩
      have xe36 := SV_val (hd.val 8 36 (by decide +kernel)) rfl
      have e36 : a'.eval (.tmp 36) = .agg (By (be4 (crc (l.take E)))).toArray := xe36
      have xe42 := SV_val (hd.val 14 42 (by decide +kernel)) rfl
      have e42 : a'.eval (.tmp 42) = .agg (By ((l.drop E).take 4)).toArray := xe42
      have hs := neqSeal (be4 (crc (l.take E))) ((l.drop E).take 4) rfl (by simp; omega) w'
      rw [hq.out] at hs
      clear hd hk
      exact wp_value (.bool (!q)) (by simp only [execOp, e36, e42]; simp [hs, guardSeal]) (SV_mk rfl rfl)
    · -- 16: Op.pick (Operand.tmp 32) (Operand.const (Value.bool true)) (
      intro Q
      have xe32 := SV_val (hd.val 4 32 (by decide +kernel)) rfl
      have e32 : a'.eval (.tmp 32) = .bool false := xe32
      have xe43 := SV_val (hd.val 15 43 (by decide +kernel)) rfl
      have e43 : a'.eval (.tmp 43) = .bool (!q) := xe43
      clear hd hk he8 he9 hE hZ
      exact wp_value (.bool (!q)) (by simp only [execOp, e32, e43]; go_simp) (SV_mk rfl rfl)
  · intro a' w' hsz' hdf hk hS hg
    have x44 := SV_val (hS 16 _ 44 rfl rfl) rfl
    have e44 : a'.eval (.tmp 44) = .bool (!q) := x44
    have e0 : a'.eval (.tmp 0) = .slice (some ⟨b, off, none⟩) l.length cap := hk.at 0 (by decide +kernel)
    have e6 : a'.eval (.tmp 6) = .int .i64 (k : Int) := hk.at 6 (by decide +kernel)
    have e8 : a'.eval (.tmp 8) = .int .i64 (E : Int) := (hk.at 8 (by decide +kernel)).trans he8
    have e9 : a'.eval (.tmp 9) = .int .i64 (Z : Int) := (hk.at 9 (by decide +kernel)).trans he9
    obtain ⟨f, hf⟩ : ∃ f : Nat → Value, ∀ t, f t = a'.eval (.tmp t) := ⟨_, fun _ => rfl⟩
    have ha : a' = { tmps := #[f 0, f 1, f 2, f 3, f 4, f 5, f 6, f 7, f 8, f 9, f 10, f 11, f 12, f 13, f 14, f 15, f 16, f 17, f 18, f 19, f 20, f 21, f 22, f 23, f 24, f 25, f 26, f 27, f 28, f 29, f 30, f 31, f 32, f 33, f 34, f 35, f 36, f 37, f 38, f 39, f 40, f 41, f 42, f 43, f 44, f 45, f 46, f 47, f 48, f 49, f 50], defers := [] } := (act_litS a' 51 hsz').trans (by rw [hdf]; simp only [← hf]; rfl)
    rw [← hf] at e44 e0 e6 e8 e9
    rw [e44, e0, e6, e8, e9] at ha
    have hbg : Below w.heap.size w w' := hb1.trans (Below.mono hg hb1.size)
    have hr' := hr0.kept hbg
    clear he8 he9 hE hZ
    clear hf hk hS hsz' hdf hg x44 hr hT hT0 hr0 hb1
    subst ha
    cases q
    · go_wp2_with fail
      go_ret3
      exact ⟨_, rfl, own_nil _ _, hbg⟩
    · have hs := slice_midS b off l.length cap k E (by have := HE.out; omega) (by have := HE.out; omega) hcap (by omega)
      rw [show E - k = n from by have := HE.out; omega] at hs
      have hd := (hr'.drop k hkl (off + k) (.inl rfl)).take n (by omega)
      go_wp2_with fail
      refine (clone_any b (off + k) n (cap - k) _ w' hd (by simp; omega)).mono ?_
      rintro e w5 ⟨v5, rfl, ho5, hb5⟩
      go_wp2_with fail
      go_ret3
      exact ⟨_, by rw [HZ.out, HE.out]; rfl, ho5.mono hbg.size, hbg.trans (hb5.mono hbg.size)⟩
#print axioms open_fits
end Go.Proofs.YtgdhjgfoalianaaDoor

/-
  sum.Open and that of indentureref02, whatever bytes come in.
-/
namespace Go.Proofs.YtgdhjgfoalianaaDoor
open Go.RowKit

/-- What both calls of the name Open do. -/
def OpenPost (l : List UInt8) (w : World) (e : Ending) (w' : World) : Prop :=
  ∃ v', e = .returned (.tuple #[v', .int .i64 ((opn l).2.1 : Int), .bool (opn l).2.2]) ∧ Own w' w.heap.size v' (opn l).1 ∧ Below w.heap.size w w'
theorem openPost_no {l : List UInt8} {w w' : World} (h : opn l = ([], 0, false)) (hb : Below w.heap.size w w') : OpenPost l w (.returned (.tuple #[.slice none 0 0, .int .i64 0, .bool false])) w' :=
  ⟨.slice none 0 0, by rw [h]; rfl, by rw [h]; exact own_nil _ _, hb⟩

set_option maxRecDepth 100000 in
theorem open_any (v : Value) (l : List UInt8) (w : World) (hT : Tab w) (hr : Rd w v l) (hl : l.length ≤ 140737488300000) :
    Calls Tryd.prog 61 #[v] w (OpenPost l w) := by
  rcases gn_cases l with hg | ⟨n, k, hg⟩
  · have HO : Hid (opn l = ([], 0, false)) := opn_no hg (by simp)
    go_enter Tryd.func61, Tryd.ntmps61
    go_wp2_with fail
    refine (getNum_any _ l _ hr hl).mono ?_
    rw [hg]
    rintro e w1 ⟨rfl, hb1⟩
    go_wp2_with fail
    go_ret3
    exact openPost_no HO.out hb1
  · by_cases h1 : n ≤ 8192
    · by_cases h2 : k + n + 4 ≤ l.length
      · refine (open_fits v l w hT hr hl n k hg h1 h2 _ rfl).mono ?_
        rintro e w' ⟨v', rfl, hr', hb'⟩
        by_cases h3 : be4 (crc (l.take (k + n))) = (l.drop (k + n)).take 4
        · have e3 : (be4 (crc (l.take (k + n))) == (l.drop (k + n)).take 4) = true := by simpa using h3
          have HO := opn_yes hg h1 h2 h3
          rw [e3] at hr' ⊢
          exact ⟨v', by rw [HO]; rfl, by rw [HO]; exact hr', hb'⟩
        · have e3 : (be4 (crc (l.take (k + n))) == (l.drop (k + n)).take 4) = false := by simpa using h3
          have HO := opn_no hg (fun h => h3 h.2.2.2)
          rw [e3] at hr' ⊢
          exact ⟨v', by rw [HO]; rfl, by rw [HO]; exact hr', hb'⟩
      · refine (open_short v l w hT hr hl n k hg h1 h2).mono ?_
        rintro e w' ⟨rfl, hb'⟩
        exact openPost_no (opn_no hg (fun h => h2 h.2.2.1)) hb'
    · have HO : Hid (opn l = ([], 0, false)) := opn_no hg (fun h => h1 h.2.1)
      have h1' : (8192 : Int) < n := by omega
      clear h1
      go_enter Tryd.func61, Tryd.ntmps61
      go_wp2_with fail
      refine (getNum_any _ l _ hr hl).mono ?_
      rw [hg]
      rintro e w1 ⟨rfl, hb1⟩
      clear hg
      go_wp2_with fail
      go_ret3
      exact openPost_no HO.out hb1
#print axioms open_any

theorem heads_eq {S R : List UInt8} (hS : S.length = 4) (hR : R.length = 4) (h : ∀ j, j < 4 → S[j]? = R[j]?) : S = R := by
  apply List.ext_getElem?
  intro j
  by_cases hj : j < 4
  · exact h j hj
  · rw [List.getElem?_eq_none (by omega), List.getElem?_eq_none (by omega)]
theorem byte_nat (x : UInt8) (m : Nat) : UInt8.ofNat m = x ↔ (x.toNat : Int) = (m : Int) % 256 := by
  rw [← UInt8.toNat_inj]
  simp
  omega
theorem mid_get (l : List UInt8) (e i : Nat) (hi : i < 4) (h : e + i < l.length) : ((l.drop e).take 4)[i]? = some l[e + i] := by
  rw [List.getElem?_take_of_lt hi, List.getElem?_drop, List.getElem?_eq_getElem h]
theorem same_byte {S l : List UInt8} {e i m : Nat} (hS : S[i]? = some (UInt8.ofNat m)) (hi : i < 4) (h : e + i < l.length) : S[i]? = ((l.drop e).take 4)[i]? ↔ (l[e + i].toNat : Int) = (m : Int) % 256 := by
  rw [mid_get l e i hi h, hS, ← byte_nat]
  simp
theorem upto_succ {S R : List UInt8} {i : Nat} (h : ∀ j, j < i → S[j]? = R[j]?) (hi : S[i]? = R[i]?) : ∀ j, j < i + 1 → S[j]? = R[j]? := by
  intro j hj
  by_cases e : j = i
  · subst e; exact hi
  · exact h j (by omega)

set_option maxRecDepth 100000 in
set_option maxHeartbeats 1000000 in
theorem refOpen_any (v : Value) (l : List UInt8) (w : World) (hr : Rd w v l) (hl : l.length ≤ 140737488300000) :
    Calls Tryd.prog 52 #[v] w (OpenPost l w) := by
  obtain ⟨i0, hi, hz0, hz1, hz2⟩ := info_parts Tryd.info5S
  rcases gn_cases l with hg | ⟨n, k, hg⟩
  · have HO : Hid (opn l = ([], 0, false)) := opn_no hg (by simp)
    go_enter Tryd.func52, Tryd.ntmps52
    go_wp2_with fail
    refine (refGetNum_any _ l _ hr hl).mono ?_
    rw [hg]
    rintro e w1 ⟨rfl, hb1⟩
    go_wp2_with fail
    go_ret3
    exact openPost_no HO.out hb1
  · obtain ⟨hk1, hk9, hkl, hn8, -⟩ := gn_ok hg
    by_cases h1 : n ≤ 8192
    · have hr0 := hr
      obtain ⟨a, cap, rfl, hcap, -, -, h4⟩ := hr
      obtain ⟨b, off, rfl, hbw, hc⟩ := h4 (by omega)
      clear h4
      have h1' : ¬ (8192 : Int) < n := by omega
      by_cases h2 : k + n + 4 ≤ l.length
      · have h2' : ¬ (l.length : Int) - k < (n : Int) + 4 := by omega
        obtain ⟨E, hE⟩ : ∃ E, E = k + n := ⟨_, rfl⟩
        have HE : Hid (E = k + n) := hE
        go_enter Tryd.func52, Tryd.ntmps52
        go_wp2_with fail
        refine (refGetNum_any _ l _ hr0 hl).mono ?_
        rw [hg]
        rintro e w1 ⟨rfl, hb1⟩
        have HG : Hid (gn l = (n, k, true)) := hg
        clear hg
        go_wp2_with fail
        have hcap2 := hr0.kept hb1
        refine (refOf_any _ (l.take (k + n)) _ (hcap2.take (k + n) (by omega)) (by simp; omega)).mono ?_
        rintro e w2 ⟨rfl, hw2⟩
        subst hw2
        obtain ⟨s, HS⟩ : ∃ s, Hid (s = crc (l.take (k + n))) := ⟨_, rfl⟩
        rw [← HS.out]
        have hs := s.isLt
        have HC : Hid (∀ j u, (By l)[j]? = some u → w2.cell? ⟨b, off + j, none⟩ = some u) := (show ∀ j u, _ → _ from fun j u hj => (hb1.cell (p := ⟨b, off + j, none⟩) hbw).trans (hc j u hj))
        clear hc
        go_wp2_with fail
        go_loopg [10] 5 (fun g z wr => wr = w2 ∧ ∃ i : Nat, i ≤ 4 ∧ g + i = 5 ∧ z = .int .i64 i ∧ Hid (∀ j, j < i → (be4 s)[j]? = ((l.drop (k + n)).take 4)[j]?))
        case atStart => exact ⟨rfl, 0, by omega, rfl, rfl, fun j hj => by omega⟩
        case round =>
          obtain ⟨hw, i, hi4, hgi, rfl, HJ⟩ := hrel
          subst hw
          by_cases hlt : i < 4
          · obtain rfl | rfl | rfl | rfl : i = 0 ∨ i = 1 ∨ i = 2 ∨ i = 3 := by omega
            · have hx : k + n + 0 < l.length := by omega
              have hcell : wr.cell? ⟨b, off + (k + n), none⟩ = _ := HC.out (k + n + 0) _ (By_get hx)
              have HB : Hid ((be4 s)[0]? = ((l.drop (k + n)).take 4)[0]? ↔ (l[k + n + 0].toNat : Int) = ((s.toNat / 16777216 : Nat) : Int) % 256) := same_byte (m := s.toNat / 16777216) rfl (by decide) hx
              generalize l[k + n + 0].toNat = x at *
              by_cases hq : (x : Int) = (s.toNat : Int) / 16777216
              · have hq' : ((x : Int) != (s.toNat : Int) / 16777216) = false := by simpa using hq
                have HJ2 : Hid (∀ j, j < 0 + 1 → (be4 s)[j]? = ((l.drop (k + n)).take 4)[j]?) := upto_succ HJ.out (HB.out.2 (by omega))
                clear hq
                go_wp2_with fail
                go_roundg 4
                case measure => omega
                case rel => exact ⟨rfl, 1, by omega, by omega, rfl, HJ2⟩
              · have hq' : ((x : Int) != (s.toNat : Int) / 16777216) = true := by simpa using hq
                have HO : Hid (opn l = ([], 0, false)) := opn_no HG.out (fun h => hq (by
                  have h1 := HB.out.1 (by rw [HS.out, h.2.2.2])
                  omega))
                clear hq
                go_wp2_with fail
                go_ret3
                exact openPost_no HO.out hb1
            · have hx : k + n + 1 < l.length := by omega
              have hcell := HC.out (k + n + 1) _ (By_get hx)
              have HB : Hid ((be4 s)[1]? = ((l.drop (k + n)).take 4)[1]? ↔ (l[k + n + 1].toNat : Int) = ((s.toNat / 65536 : Nat) : Int) % 256) := same_byte (m := s.toNat / 65536) rfl (by decide) hx
              generalize l[k + n + 1].toNat = x at *
              by_cases hq : (x : Int) = (s.toNat : Int) / 65536 % 256
              · have hq' : ((x : Int) != (s.toNat : Int) / 65536 % 256) = false := by simpa using hq
                have HJ2 : Hid (∀ j, j < 1 + 1 → (be4 s)[j]? = ((l.drop (k + n)).take 4)[j]?) := upto_succ HJ.out (HB.out.2 (by omega))
                clear hq
                go_wp2_with fail
                go_roundg 3
                case measure => omega
                case rel => exact ⟨rfl, 2, by omega, by omega, rfl, HJ2⟩
              · have hq' : ((x : Int) != (s.toNat : Int) / 65536 % 256) = true := by simpa using hq
                have HO : Hid (opn l = ([], 0, false)) := opn_no HG.out (fun h => hq (by
                  have h1 := HB.out.1 (by rw [HS.out, h.2.2.2])
                  omega))
                clear hq
                go_wp2_with fail
                go_ret3
                exact openPost_no HO.out hb1
            · have hx : k + n + 2 < l.length := by omega
              have hcell := HC.out (k + n + 2) _ (By_get hx)
              have HB : Hid ((be4 s)[2]? = ((l.drop (k + n)).take 4)[2]? ↔ (l[k + n + 2].toNat : Int) = ((s.toNat / 256 : Nat) : Int) % 256) := same_byte (m := s.toNat / 256) rfl (by decide) hx
              generalize l[k + n + 2].toNat = x at *
              by_cases hq : (x : Int) = (s.toNat : Int) / 256 % 256
              · have hq' : ((x : Int) != (s.toNat : Int) / 256 % 256) = false := by simpa using hq
                have HJ2 : Hid (∀ j, j < 2 + 1 → (be4 s)[j]? = ((l.drop (k + n)).take 4)[j]?) := upto_succ HJ.out (HB.out.2 (by omega))
                clear hq
                go_wp2_with fail
                go_roundg 2
                case measure => omega
                case rel => exact ⟨rfl, 3, by omega, by omega, rfl, HJ2⟩
              · have hq' : ((x : Int) != (s.toNat : Int) / 256 % 256) = true := by simpa using hq
                have HO : Hid (opn l = ([], 0, false)) := opn_no HG.out (fun h => hq (by
                  have h1 := HB.out.1 (by rw [HS.out, h.2.2.2])
                  omega))
                clear hq
                go_wp2_with fail
                go_ret3
                exact openPost_no HO.out hb1
            · have hx : k + n + 3 < l.length := by omega
              have hcell := HC.out (k + n + 3) _ (By_get hx)
              have HB : Hid ((be4 s)[3]? = ((l.drop (k + n)).take 4)[3]? ↔ (l[k + n + 3].toNat : Int) = ((s.toNat : Nat) : Int) % 256) := same_byte (m := s.toNat) rfl (by decide) hx
              generalize l[k + n + 3].toNat = x at *
              by_cases hq : (x : Int) = (s.toNat : Int) % 256
              · have hq' : ((x : Int) != (s.toNat : Int) % 256) = false := by simpa using hq
                have HJ2 : Hid (∀ j, j < 3 + 1 → (be4 s)[j]? = ((l.drop (k + n)).take 4)[j]?) := upto_succ HJ.out (HB.out.2 (by omega))
                clear hq
                go_wp2_with fail
                go_roundg 1
                case measure => omega
                case rel => exact ⟨rfl, 4, by omega, by omega, rfl, HJ2⟩
              · have hq' : ((x : Int) != (s.toNat : Int) % 256) = true := by simpa using hq
                have HO : Hid (opn l = ([], 0, false)) := opn_no HG.out (fun h => hq (by
                  have h1 := HB.out.1 (by rw [HS.out, h.2.2.2])
                  omega))
                clear hq
                go_wp2_with fail
                go_ret3
                exact openPost_no HO.out hb1
          · obtain rfl : i = 4 := by omega
            have HO : Hid (opn l = ((l.drop k).take n, k + n + 4, true)) := opn_yes HG.out h1 h2 (by rw [← HS.out]; exact heads_eq rfl (by simp; omega) HJ.out)
            have hd := ((hcap2.kept ((Below.refl _ _).alloc (Nat.le_refl _) (.cells #[] 5 (0, 0)))).drop k hkl (off + k) (.inl rfl)).take n (by omega)
            have hs : ∀ W, (Instr.sliceAt 33 (.slice (some ⟨b, off, none⟩) l.length cap) (some (.int .i64 (k : Int))) (some (.int .i64 ((k : Int) + (n : Int)))) none).run Tryd.prog W = .ok (.slice (some ⟨b, off + k, none⟩) n (cap - k)) W := fun W => by
              have := slice_midS b off l.length cap k (k + n) (by omega) (by omega) hcap (by omega) W
              rw [Nat.add_sub_cancel_left] at this
              exact this
            go_wp2_with (first
              | (at_builtin; refine wpList_append_bytes _ rfl (.tmp 59) (.tmp 63) 33 33 rfl wr.heap.size i0 Tryd.underlying33 hi hz0 hz1 hz2 _ [] rfl (own_noneS wr _ (Nat.le_refl _)) _ ((l.drop k).take n) rfl (by exact hd.src 33 Tryd.underlying33) (by simp; omega) (by simp) ?_; intro v5 w5 ho5 hb5; simp only [List.nil_append] at ho5))
            go_ret3
            have hbo : Below w.heap.size w w5 := (hb1.trans ((Below.refl _ _).alloc hb1.size _)).trans (hb5.mono hb1.size)
            exact ⟨v5, by rw [HO.out]; rfl, by rw [HO.out]; exact ho5.mono hb1.size, hbo⟩
      · have HO : Hid (opn l = ([], 0, false)) := opn_no hg (fun h => h2 h.2.2.1)
        have h2' : (l.length : Int) - k < (n : Int) + 4 := by omega
        have h3' : (k : Int) ≤ l.length := by omega
        go_enter Tryd.func52, Tryd.ntmps52
        go_wp2_with fail
        refine (refGetNum_any _ l _ hr0 hl).mono ?_
        rw [hg]
        rintro e w1 ⟨rfl, hb1⟩
        clear hg
        go_wp2_with fail
        go_ret3
        exact openPost_no HO.out hb1
    · have HO : Hid (opn l = ([], 0, false)) := opn_no hg (fun h => h1 h.2.1)
      have h1' : (8192 : Int) < n := by omega
      have HN : Hid (n < 256 ^ 8) := hn8
      clear h1 hn8
      go_enter Tryd.func52, Tryd.ntmps52
      go_wp2_with fail
      refine (refGetNum_any _ l _ hr hl).mono ?_
      rw [hg]
      rintro e w1 ⟨rfl, hb1⟩
      clear hg
      go_wp2_with fail
      go_ret3
      exact openPost_no HO.out hb1
#print axioms refOpen_any
end Go.Proofs.YtgdhjgfoalianaaDoor

/-
  Plain mathematics: what was put is got again; what was got is written as it was.
-/
namespace Go.Proofs.YtgdhjgfoalianaaDoor

theorem gn_enc (n : Nat) (r : List UInt8) (hn : n < 256 ^ 8) : gn (enc n ++ r) = (n, (enc n).length, true) := by
  rcases Nat.lt_or_ge n 248 with h | h
  · rw [enc_short h]
    have e : (UInt8.ofNat n).toNat = n := by simp; omega
    simp only [List.cons_append, List.nil_append, gn, e]
    rw [if_pos h]
    rfl
  · have hk := dg_length_le 8 n
    have hne := dg_ne_nil 8 n hn (by omega)
    have hk1 : 1 ≤ (dg 8 n).length := by
      rcases hd : dg 8 n with _ | ⟨y, t⟩
      · exact absurd hd hne
      · simp
    have ex : (UInt8.ofNat (247 + (dg 8 n).length)).toNat = 247 + (dg 8 n).length := by simp; omega
    rw [enc_long h, List.cons_append]
    rw [gn_long (d := dg 8 n) (k := (dg 8 n).length) (n := n) ex hk1 (by simp) (by simp) (val_dg 8 n hn)]
    rw [if_pos (enc_long h)]
    rfl

theorem gs_enc (t r : List UInt8) (m : Nat) (ht : t.length ≤ m) (h8 : t.length < 256 ^ 8) : gs (encS t ++ r) m = (t, (encS t).length, true) := by
  have hg : gn (encS t ++ r) = (t.length, (enc t.length).length, true) := by
    unfold encS
    rw [List.append_assoc]
    exact gn_enc _ _ h8
  rw [gs_yes hg ht (by simp [encS]; omega)]
  unfold encS
  simp [List.append_assoc]

theorem gl_enc (pre r : List UInt8) (ts : List (List UInt8)) (m : Nat) (hm : ∀ t ∈ ts, t.length ≤ m ∧ t.length < 256 ^ 8) : ∀ i, i ≤ ts.length → gl (pre ++ encT ts ++ r) m pre.length i = some (ts.take i, pre.length + (encT (ts.take i)).length)
  | 0, _ => by simp [gl, encT]
  | i + 1, hi => by
    have ih := gl_enc pre r ts m hm i (by omega)
    have hlt : i < ts.length := by omega
    have hd : (pre ++ encT ts ++ r).drop (pre.length + (encT (ts.take i)).length) = encS ts[i] ++ (encT (ts.drop (i + 1)) ++ r) := by
      have e : encT ts = encT (ts.take i) ++ (encS ts[i] ++ encT (ts.drop (i + 1))) := by
        conv => lhs; rw [← List.take_append_drop i ts, encT_append, List.drop_eq_getElem_cons hlt]
        rfl
      rw [e]
      simp only [List.append_assoc]
      rw [← List.append_assoc pre, show pre.length + (encT (ts.take i)).length = (pre ++ encT (ts.take i)).length from by simp, List.drop_left]
    have hmem := hm ts[i] (List.getElem_mem hlt)
    have hg : gs ((pre ++ encT ts ++ r).drop (pre.length + (encT (ts.take i)).length)) m = (ts[i], (encS ts[i]).length, true) := by
      rw [hd]
      exact gs_enc _ _ m hmem.1 hmem.2
    rw [gl_yes ih hg, List.take_succ_eq_append_getElem hlt, encT_append]
    simp [encT]
    omega

theorem gL_enc (ts : List (List UInt8)) (r : List UInt8) (c m : Nat) (hc : ts.length ≤ c) (h8 : ts.length < 256 ^ 8) (hm : ∀ t ∈ ts, t.length ≤ m ∧ t.length < 256 ^ 8) : gL (encL ts ++ r) c m = (ts, (encL ts).length, true) := by
  have hg : gn (encL ts ++ r) = (ts.length, (enc ts.length).length, true) := by
    unfold encL
    rw [List.append_assoc]
    exact gn_enc _ _ h8
  have hgl := gl_enc (enc ts.length) r ts m hm ts.length (Nat.le_refl _)
  rw [List.take_length] at hgl
  rw [gL_yes hg hc hgl]
  simp [encL]

theorem gL_spec {l : List UInt8} {c m x : Nat} {ts : List (List UInt8)} (h : gL l c m = (ts, x, true)) : l.take x = encL ts ∧ x ≤ l.length ∧ ts.length ≤ c ∧ ts.length < 256 ^ 8 ∧ ∀ t ∈ ts, t.length ≤ m := by
  unfold gL at h
  rcases gn_cases l with hg | ⟨n, k, hg⟩
  · rw [hg] at h
    simp at h
  · obtain ⟨hk1, hk9, hkl, hn8, he⟩ := gn_ok hg
    rw [hg] at h
    simp only [true_and] at h
    split at h
    · cases hgl : gl l m k n with
      | none => rw [hgl] at h; simp at h
      | some q =>
        obtain ⟨us, y⟩ := q
        rw [hgl] at h
        simp at h
        obtain ⟨rfl, rfl⟩ := h
        obtain ⟨h1, h2, h3, h4, h5, h6⟩ := gl_ok hkl hk1 hgl
        refine ⟨?_, h1, by omega, by omega, h6⟩
        unfold encL
        rw [h5, h3, he]
    · simp at h

/-- Bytes that a list's are cut off of are none. -/
theorem gL_short (ts : List (List UInt8)) (c m : Nat) (hc : ts.length ≤ c) (h8 : ts.length < 256 ^ 8) (hm : ∀ t ∈ ts, t.length ≤ m ∧ t.length < 256 ^ 8) (hm8 : m < 256 ^ 8) (p : Nat) (hp : p < (encL ts).length) : (gL ((encL ts).take p) c m).2.2 = false := by
  rcases hg : gL ((encL ts).take p) c m with ⟨us, x, ok⟩
  cases ok with
  | false => rfl
  | true =>
    exfalso
    obtain ⟨h1, h2, h3, h4, h5⟩ := gL_spec hg
    simp only [List.length_take] at h2
    have e1 : (encL ts).take x = encL us := by
      rw [List.take_take] at h1
      rwa [Nat.min_eq_left (by omega)] at h1
    have e2 : encL ts = encL us ++ (encL ts).drop x := by rw [← e1, List.take_append_drop]
    have g1 := gL_enc ts [] c m hc h8 hm
    have g2 := gL_enc us ((encL ts).drop x) c m h3 h4 (fun t ht => ⟨h5 t ht, by have := h5 t ht; omega⟩)
    rw [List.append_nil, e2, g2] at g1
    simp only [Prod.mk.injEq, and_true] at g1
    have hl := congrArg List.length e1
    simp only [List.length_take] at hl
    have h6 := g1.2
    rw [← e2] at h6
    omega

/-- Two lists have the same bytes just if they are the same. -/
theorem encL_inj {ts us : List (List UInt8)} (h8 : ts.length < 256 ^ 8) (h8' : us.length < 256 ^ 8) (hm : ∀ t ∈ ts, t.length < 256 ^ 8) (hm' : ∀ t ∈ us, t.length < 256 ^ 8) (h : encL ts = encL us) : ts = us := by
  have g1 := gL_enc ts [] (256 ^ 8) (256 ^ 8) (by omega) h8 (fun t ht => ⟨by have := hm t ht; omega, hm t ht⟩)
  have g2 := gL_enc us [] (256 ^ 8) (256 ^ 8) (by omega) h8' (fun t ht => ⟨by have := hm' t ht; omega, hm' t ht⟩)
  rw [h, g2] at g1
  simp only [Prod.mk.injEq, and_true] at g1
  exact g1.symm

theorem enc_inj {n m : Nat} (hn : n < 256 ^ 8) (hm : m < 256 ^ 8) (h : enc n = enc m) : n = m := by
  have g1 := gn_enc n [] hn
  have g2 := gn_enc m [] hm
  rw [h, g2] at g1
  simp only [Prod.mk.injEq, and_true] at g1
  exact g1.symm
end Go.Proofs.YtgdhjgfoalianaaDoor

/-
  Plain mathematics of frames: what was framed is opened; cut off it is none; with one byte turned it is none of as many bytes.
-/
namespace Go.Proofs.YtgdhjgfoalianaaDoor

theorem small_pow' {n : Nat} (h : n ≤ 8192) : n < 256 ^ 8 := by
  have : (256 : Nat) ^ 8 = 18446744073709551616 := by decide
  omega
theorem framed_length (l : List UInt8) : (framed l).length = (enc l.length).length + l.length + 4 := by
  simp [framed, headed, be4_length]; omega
theorem gn_framed (l r : List UInt8) (h : l.length ≤ 8192) : gn (framed l ++ r) = (l.length, (enc l.length).length, true) := by
  unfold framed headed
  rw [List.append_assoc, List.append_assoc]
  exact gn_enc _ _ (small_pow' h)
theorem opn_framed (l r : List UInt8) (h : l.length ≤ 8192) : opn (framed l ++ r) = (l, (framed l).length, true) := by
  have hg := gn_framed l r h
  have hL := framed_length l
  have hhl : (headed l).length = (enc l.length).length + l.length := by simp [headed]
  have e1 : (framed l ++ r).take ((enc l.length).length + l.length) = headed l := by
    rw [← hhl]; unfold framed; rw [List.append_assoc]; exact List.take_left
  have e2 : (framed l ++ r).drop ((enc l.length).length + l.length) = be4 (crc (headed l)) ++ r := by
    rw [← hhl]; unfold framed; rw [List.append_assoc]; exact List.drop_left
  rw [opn_yes hg h (by simp [hL]) (by rw [e1, e2]; exact (List.take_left (l₁ := be4 (crc (headed l)))).symm), hL]
  have e3 : ((framed l ++ r).drop (enc l.length).length).take l.length = l := by
    unfold framed headed
    rw [List.append_assoc, List.append_assoc, List.drop_left, List.take_left]
  rw [e3]
theorem gn_prefix {l : List UInt8} {c n k : Nat} (h : gn (l.take c) = (n, k, true)) : gn l = (n, k, true) := by
  obtain ⟨h1, h2, h3, h4, h5⟩ := gn_ok h
  have hk : k ≤ l.length := by have := h3; simp at this; omega
  have e : l = enc n ++ l.drop k := by
    rw [h5, List.take_take, Nat.min_eq_left (by have := h3; simp at this; omega), List.take_append_drop]
  have hl : (enc n).length = k := by rw [h5]; simp; simp at h3; omega
  rw [e, gn_enc n _ h4, hl]
theorem opn_cut (l : List UInt8) (c : Nat) (h : l.length ≤ 8192) (hc : c < (framed l).length) : opn ((framed l).take c) = ([], 0, false) := by
  have hg := gn_framed l [] h
  rw [List.append_nil] at hg
  rcases gn_cases ((framed l).take c) with h0 | ⟨n, k, h0⟩
  · exact opn_no h0 (by simp)
  · have := gn_prefix h0
    rw [hg] at this
    simp only [Prod.mk.injEq, and_true] at this
    obtain ⟨rfl, rfl⟩ := this
    refine opn_no h0 (fun hh => ?_)
    have := hh.2.2.1
    rw [framed_length] at hc
    simp at this
    omega

theorem byt_inj {a b : BitVec 32} {x : UInt8} (h : byt a x = byt b x) : a = b := by
  have := steps_inj 8 h
  have h2 := congrArg (· ^^^ BitVec.ofNat 32 x.toNat) this
  simpa [BitVec.xor_assoc] using h2
theorem runs_inj (l : List UInt8) : ∀ {a b : BitVec 32}, runs a l = runs b l → a = b := by
  induction l with
  | nil => intro a b h; exact h
  | cons x l ih => intro a b h; exact byt_inj (ih h)
theorem byt_byte {a : BitVec 32} {x y : UInt8} (h : byt a x = byt a y) : x = y := by
  have := steps_inj 8 h
  have h2 := congrArg (a ^^^ ·) this
  have h3 : BitVec.ofNat 32 x.toNat = BitVec.ofNat 32 y.toNat := by simpa [← BitVec.xor_assoc] using h2
  have h4 := congrArg BitVec.toNat h3
  rw [BitVec.toNat_ofNat, BitVec.toNat_ofNat, Nat.mod_eq_of_lt (by have := x.toNat_lt; omega), Nat.mod_eq_of_lt (by have := y.toNat_lt; omega)] at h4
  exact UInt8.toNat_inj.1 h4
/-- Bytes that differ in one byte have other sums. -/
theorem crc_byte (A B : List UInt8) (x y : UInt8) (h : crc (A ++ x :: B) = crc (A ++ y :: B)) : x = y := by
  unfold crc crcAdd at h
  have h1 := congrArg (fun z => ~~~ z) h
  simp only [BitVec.not_not] at h1
  rw [runs_append, runs_append] at h1
  exact byt_byte (runs_inj B h1)
theorem set_split (l : List UInt8) (p : Nat) (y : UInt8) (h : p < l.length) : l.set p y = l.take p ++ y :: l.drop (p + 1) := by
  rw [List.set_eq_take_append_cons_drop, if_pos h]
theorem crc_set (l : List UInt8) (p : Nat) (y : UInt8) (h : p < l.length) (hy : y ≠ l[p]) : crc (l.set p y) ≠ crc l := by
  intro e
  rw [set_split l p y h] at e
  have e2 : l = l.take p ++ l[p] :: l.drop (p + 1) := by
    conv => lhs; rw [← List.take_append_drop p l, List.drop_eq_getElem_cons h]
  rw [e2] at e
  have h3 := crc_byte _ _ _ _ (show crc (l.take p ++ y :: l.drop (p + 1)) = crc (l.take p ++ l[p] :: l.drop (p + 1)) from by
    rw [← e2]
    rw [← e2] at e
    exact e)
  exact hy h3
theorem be4_inj {a b : BitVec 32} (h : be4 a = be4 b) : a = b := by
  simp only [be4, List.cons.injEq, and_true] at h
  obtain ⟨h1, h2, h3, h4⟩ := h
  have f : ∀ m n : Nat, UInt8.ofNat m = UInt8.ofNat n → m % 256 = n % 256 := fun m n e => by simpa using congrArg UInt8.toNat e
  have g1 := f _ _ h1
  have g2 := f _ _ h2
  have g3 := f _ _ h3
  have g4 := f _ _ h4
  have ha := a.isLt
  have hb := b.isLt
  apply BitVec.eq_of_toNat_eq
  omega
/-- A frame one byte of which is another is none of as many bytes. -/
theorem opn_turned (l : List UInt8) (p : Nat) (y : UInt8) (h : p < (framed l).length) (hy : y ≠ (framed l)[p]) : ¬ ((opn ((framed l).set p y)).2.2 = true ∧ (opn ((framed l).set p y)).2.1 = (framed l).length) := by
  rintro ⟨h1, h2⟩
  have hF : framed l = headed l ++ be4 (crc (headed l)) := rfl
  have hL : (framed l).length = (headed l).length + 4 := by rw [hF]; simp [be4_length]
  rcases gn_cases ((framed l).set p y) with h0 | ⟨n, k, h0⟩
  · rw [opn_no h0 (by simp)] at h1
    exact absurd h1 (by decide)
  · by_cases hc : n ≤ 8192 ∧ k + n + 4 ≤ ((framed l).set p y).length ∧ be4 (crc (((framed l).set p y).take (k + n))) = (((framed l).set p y).drop (k + n)).take 4
    · rw [opn_yes h0 hc.1 hc.2.1 hc.2.2] at h2
      simp only at h2
      have hkn : k + n = (headed l).length := by omega
      have h3 := hc.2.2
      rw [hkn] at h3
      by_cases hp : p < (headed l).length
      · have e1 : ((framed l).set p y).take (headed l).length = (headed l).set p y := by
          rw [List.take_set, hF, List.take_left]
        have e2 : (((framed l).set p y).drop (headed l).length).take 4 = be4 (crc (headed l)) := by
          rw [List.drop_set_of_lt hp, hF, List.drop_left]
          rfl
        rw [e1, e2] at h3
        refine crc_set (headed l) p y hp ?_ (be4_inj h3)
        have : (framed l)[p] = (headed l)[p] := by simp only [hF]; exact List.getElem_append_left hp
        rwa [this] at hy
      · have hp' : (headed l).length ≤ p := by omega
        have e1 : ((framed l).set p y).take (headed l).length = headed l := by
          rw [List.take_set_of_le hp', hF, List.take_left]
        have e2 : (((framed l).set p y).drop (headed l).length).take 4 = (be4 (crc (headed l))).set (p - (headed l).length) y := by
          rw [List.drop_set, if_neg hp, hF, List.drop_left]
          rw [List.take_of_length_le (by simp [be4_length])]
        rw [e1, e2] at h3
        have h4 := congrArg (fun z => z[p - (headed l).length]?) h3
        have hq : p - (headed l).length < (be4 (crc (headed l))).length := by rw [be4_length]; omega
        simp only [List.getElem?_set_self hq] at h4
        rw [List.getElem?_eq_getElem hq] at h4
        have : (framed l)[p] = (be4 (crc (headed l)))[p - (headed l).length] := by simp only [hF]; exact List.getElem_append_right hp'
        rw [this] at hy
        exact hy (by simpa using h4.symm)
    · rw [opn_no h0 (fun hh => hc hh.2)] at h1
      exact absurd h1 (by decide)
end Go.Proofs.YtgdhjgfoalianaaDoor
