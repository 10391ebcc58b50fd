/-
  sum.byX, sum.times, sum.Add, sum.Of and those of indentureref02: what the calls do.
-/
import Derived.Test.YtmopfipkbjfhoaaDoorRefGet
import Derived.Test.YtmopfipkbjfhoaaDoorCrc
import Derived.Laws.BitsAllLaws
import Derived.Deep.LoopGhost
namespace Go.Proofs.YtmopfipkbjfhoaaDoor
open Go.RowKit

theorem u32_and_one (r : BitVec 32) : bits .and .u32 (r.toNat : Int) 1 = if r.getLsbD 0 then 1 else 0 := by
  have h := u32_and_nat r.toNat 1 r.isLt (by decide)
  rw [show ((1 : Nat) : Int) = 1 from rfl] at h
  rw [h, Nat.and_one_is_mod]
  have : r.getLsbD 0 = decide (r.toNat % 2 = 1) := by rw [BitVec.getLsbD, Nat.testBit_zero]
  rw [this]
  by_cases hx : r.toNat % 2 = 1
  · simp [hx]
  · simp [hx]; omega
theorem u32_xor_bv (a b : BitVec 32) : bits .xor .u32 (a.toNat : Int) (b.toNat : Int) = ((a ^^^ b).toNat : Int) := by
  rw [u32_xor_nat _ _ a.isLt b.isLt, BitVec.toNat_xor]
theorem shr_bv (a : BitVec 32) (k : Nat) : ((a.toNat : Int) / ((2 ^ k : Nat) : Int)) = ((a >>> k).toNat : Int) := by
  rw [BitVec.toNat_ushiftRight, Nat.shiftRight_eq_div_pow]; rfl

set_option maxRecDepth 100000 in
theorem step_any (r : BitVec 32) (w : World) : Calls Tryd.prog 20 #[.int .u32 r.toNat] w fun e w' => e = .returned (.int .u32 (step r).toNat) ∧ w' = w := by
  have h1 := u32_and_one r
  have HS : Hid (step r = if r.getLsbD 0 then (r >>> 1) ^^^ 2197175160#32 else r >>> 1) := rfl
  have hr := r.isLt
  cases hb : r.getLsbD 0
  · rw [hb] at h1 HS
    go_enter Tryd.func20, Tryd.ntmps20
    go_wp2
    go_ret
    rw [HS.out, if_neg (by decide), ← shr_bv r 1]
    exact ⟨rfl, rfl⟩
  · rw [hb] at h1 HS
    go_enter Tryd.func20, Tryd.ntmps20
    go_wp2
    go_ret
    rw [HS.out, if_pos (by decide), ← u32_xor_bv, ← shr_bv r 1]
    exact ⟨rfl, rfl⟩
set_option maxRecDepth 100000 in
theorem byX_any (r : BitVec 32) (w : World) : Calls Tryd.prog 28 #[.int .u32 r.toNat] w fun e w' => e = .returned (.int .u32 (step r).toNat) ∧ w' = w := by
  have h1 := u32_and_one r
  have HS : Hid (step r = if r.getLsbD 0 then (r >>> 1) ^^^ 2197175160#32 else r >>> 1) := rfl
  have hr := r.isLt
  cases hb : r.getLsbD 0
  · rw [hb] at h1 HS
    go_enter Tryd.func28, Tryd.ntmps28
    go_wp2
    go_ret
    rw [HS.out, if_neg (by decide), ← shr_bv r 1]
    exact ⟨rfl, rfl⟩
  · rw [hb] at h1 HS
    go_enter Tryd.func28, Tryd.ntmps28
    go_wp2
    go_ret
    rw [HS.out, if_pos (by decide), ← u32_xor_bv, ← shr_bv r 1]
    exact ⟨rfl, rfl⟩

theorem u32_shl_one (a : BitVec 32) : IntKind.u32.wrap ((a.toNat : Int) * 2) = ((a <<< 1).toNat : Int) := by
  rw [BitVec.toNat_shiftLeft, Nat.shiftLeft_eq, IntKind.wrap_u32']
  simp
theorem u32_top (a : BitVec 32) : bits .and .u32 (a.toNat : Int) 2147483648 = if a.getLsbD 31 then 2147483648 else 0 := by
  have h := u32_and_nat a.toNat 2147483648 a.isLt (by decide)
  rw [show ((2147483648 : Nat) : Int) = 2147483648 from rfl] at h
  rw [h]
  have e : a.toNat &&& 2147483648 = if a.getLsbD 31 then 2147483648 else 0 := by
    apply Nat.eq_of_testBit_eq
    intro i
    rw [Nat.testBit_and, show (2147483648 : Nat) = 2 ^ 31 from rfl, Nat.testBit_two_pow]
    by_cases h : 31 = i
    · subst h
      cases hh : a.getLsbD 31 <;> rw [BitVec.getLsbD] at hh <;> rw [hh] <;> decide
    · cases a.getLsbD 31
      · simp [h]
      · rw [if_pos rfl, Nat.testBit_two_pow]; simp [h]
  rw [e]
  cases a.getLsbD 31 <;> rfl

set_option maxRecDepth 100000 in
theorem times_any (a b : BitVec 32) (w : World) : Calls Tryd.prog 21 #[.int .u32 a.toNat, .int .u32 b.toNat] w fun e w' => e = .returned (.int .u32 (mul a b).toNat) ∧ w' = w := by
  go_enter Tryd.func21, Tryd.ntmps21
  go_wp2
  go_step3
  go_wp2
  go_step3
  go_wp2
  go_loopg [0, 1, 5] 33 (fun k x y z wr => wr = w ∧ ∃ (n : Nat) (c d p : BitVec 32), k = n + 1 ∧ x = .int .u32 c.toNat ∧ y = .int .u32 d.toNat ∧ z = .int .u32 p.toNat ∧ Hid (∀ i, i + n < 32 → c.getLsbD i = false) ∧ Hid (p ^^^ mulF n c d = mul a b))
  case atStart => exact ⟨rfl, 32, a, b, 0#32, rfl, rfl, rfl, rfl, fun i hi => by omega, (BitVec.zero_xor : _)⟩
  case round =>
    obtain ⟨hw, n, c, d, p, rfl, rfl, rfl, rfl, hc, hp⟩ := hrel
    subst hw
    by_cases h0 : c = 0#32
    · subst h0
      have HP : Hid (p = mul a b) := (show p = mul a b by rw [← hp.out, mulF_zero, BitVec.xor_zero])
      go_wp2
      try rw [Exit.noGoto_ret]
      go_ret
      rw [HP.out]
      exact ⟨rfl, rfl⟩
    · have h1 : ¬ (c.toNat : Int) = 0 := fun h => h0 (BitVec.eq_of_toNat_eq (by simpa using h))
      have h2 := u32_top c
      obtain ⟨m, rfl⟩ : ∃ m, n = m + 1 := by
        cases n with
        | zero => exact absurd (by apply BitVec.eq_of_getLsbD_eq; intro i hi; rw [hc.out i (by omega)]; simp) h0
        | succ m => exact ⟨m, rfl⟩
      have HM : Hid (mulF (m + 1) c d = (if c.getLsbD 31 then d else 0#32) ^^^ mulF m (c <<< 1) (step d)) := rfl
      have HC : Hid (∀ i, i + m < 32 → (c <<< 1).getLsbD i = false) := (show ∀ i, i + m < 32 → _ from fun i hi => by
        rw [BitVec.getLsbD_shiftLeft]
        by_cases h1 : i < 1
        · simp [h1]
        · rw [hc.out (i - 1) (by omega)]; simp)
      have h3 : Hid ((c.toNat : Int) * 2 % 4294967296 = ((c <<< 1).toNat : Int)) := by have := u32_shl_one c; rwa [IntKind.wrap_u32'] at this
      cases ht : c.getLsbD 31
      · rw [ht] at h2 HM
        have HP : Hid (p ^^^ mulF m (c <<< 1) (step d) = mul a b) := (show _ = _ by rw [← hp.out, HM.out, if_neg (by decide), BitVec.zero_xor])
        go_wp2_with fail
        refine (byX_any d _).mono ?_
        rintro e w1 ⟨rfl, rfl⟩
        go_wp2
        go_roundg (m + 1)
        case measure => omega
        case rel => exact ⟨rfl, m, c <<< 1, step d, p, rfl, congrArg (Value.int .u32) h3.out, rfl, rfl, HC, HP⟩
      · rw [ht] at h2 HM
        have HP : Hid ((p ^^^ d) ^^^ mulF m (c <<< 1) (step d) = mul a b) := (show _ = _ by rw [← hp.out, HM.out, if_pos rfl, BitVec.xor_assoc])
        go_wp2_with fail
        refine (byX_any d _).mono ?_
        rintro e w1 ⟨rfl, rfl⟩
        go_wp2
        go_roundg (m + 1)
        case measure => omega
        case rel => exact ⟨rfl, m, c <<< 1, step d, p ^^^ d, rfl, congrArg (Value.int .u32) h3.out, rfl, by rw [u32_xor_bv], HC, HP⟩

/-- The table lies where the program's variable lies. -/
def Tab (w : World) : Prop := 0 < w.heap.size ∧ ∀ i, i < 16 → w.cell? ⟨0, i, none⟩ = some (.int .u32 (tab i : Int))
theorem Tab.kept {w w' : World} (h : Tab w) (hb : Below w.heap.size w w') : Tab w' :=
  ⟨Nat.lt_of_lt_of_le h.1 hb.size, fun i hi => (hb.cell (p := ⟨0, i, none⟩) h.1).trans (h.2 i hi)⟩

theorem u32_low (r : BitVec 32) : bits .and .u32 (r.toNat : Int) 15 = ((r.toNat % 16 : Nat) : Int) := by
  have h := u32_and_nat r.toNat 15 r.isLt (by decide)
  rw [show ((15 : Nat) : Int) = 15 from rfl] at h
  rw [h, show (15 : Nat) = 2 ^ 4 - 1 from rfl, Nat.and_two_pow_sub_one_eq_mod]
/-- One step of four bits, as the walk spells it. -/
theorem u32_nibble (r : BitVec 32) : bits .xor .u32 ((r.toNat : Int) / 16) (tab (r.toNat % 16) : Int) = ((steps 4 r).toNat : Int) := by
  rw [← nibble, ← u32_xor_bv, ← shr_bv r 4]
  congr 1
  rw [BitVec.toNat_ofNat, Nat.mod_eq_of_lt (tab_lt _)]
theorem u32_not (r : BitVec 32) : bits .xor .u32 4294967295 (r.toNat : Int) = ((~~~ r).toNat : Int) := by
  rw [← BitVec.xor_allOnes, BitVec.xor_comm, ← u32_xor_bv]
  rfl
theorem u32_byte (r : BitVec 32) (x : UInt8) : bits .xor .u32 (r.toNat : Int) (x.toNat : Int) = ((r ^^^ BitVec.ofNat 32 x.toNat).toNat : Int) := by
  rw [← u32_xor_bv, BitVec.toNat_ofNat, Nat.mod_eq_of_lt (by have := x.toNat_lt; omega)]
theorem runs_take (r : BitVec 32) (l : List UInt8) (i : Nat) (h : i < l.length) : runs r (l.take (i + 1)) = byt (runs r (l.take i)) l[i] := by
  rw [List.take_succ_eq_append_getElem h, runs_append]; rfl

set_option maxRecDepth 100000 in
set_option maxHeartbeats 400000 in
theorem add_any (s : BitVec 32) (v : Value) (l : List UInt8) (w : World) (hT : Tab w) (h : Rd w v l) (hl : l.length ≤ 140737488355328) :
    Calls Tryd.prog 12 #[.int .u32 s.toNat, v] w fun e w' => e = .returned (.int .u32 (crcAdd s l).toNat) ∧ w' = w := by
  obtain ⟨a, cap, rfl, h1, h2, h3, h4⟩ := h
  have HN : Hid (bits .xor .u32 4294967295 (s.toNat : Int) = ((~~~ s).toNat : Int)) := u32_not s
  obtain ⟨hT0, hT1⟩ := hT
  have HT : Hid (∀ i, i < 16 → w.cell? ⟨0, i, none⟩ = some (.int .u32 (tab i : Int))) := hT1
  clear hT1
  have H4 : Hid (0 < l.length → ∃ b off, a = some ⟨b, off, none⟩ ∧ b < w.heap.size ∧ ∀ j u, (By l)[j]? = some u → w.cell? ⟨b, off + j, none⟩ = some u) := h4
  clear h4 h3
  go_enter Tryd.func12, Tryd.ntmps12
  go_wp2
  go_loopg [5, 12] (l.length + 1) (fun k y z wr => wr = w ∧ ∃ i : Nat, i ≤ l.length ∧ k + i = l.length + 1 ∧ z = .int .i64 i ∧ ∃ r : BitVec 32, y = .int .u32 r.toNat ∧ Hid (r = runs (~~~ s) (l.take i)))
  case atStart => exact ⟨rfl, 0, Nat.zero_le _, rfl, rfl, _, congrArg _ HN.out, rfl⟩
  case round =>
    obtain ⟨hw, i, hi, hk, rfl, r, rfl, HR⟩ := hrel
    subst hw
    by_cases hlt : i < l.length
    · obtain ⟨b, off, rfl, hb, hc⟩ := H4.out (by omega)
      have hcell := hc i _ (By_get hlt)
      clear hc
      have hlt' : (i : Int) < l.length := by omega
      have hx : l[i].toNat < 256 := l[i].toNat_lt
      have HB : Hid (runs (~~~ s) (l.take (i + 1)) = steps 4 (steps 4 (r ^^^ BitVec.ofNat 32 l[i].toNat))) := (show _ = _ by rw [runs_take _ _ _ hlt, ← HR.out]; rfl)
      have e1 := u32_byte r l[i]
      generalize l[i].toNat = x at *
      generalize r ^^^ BitVec.ofNat 32 x = q at *
      have e2 := u32_low q
      have e3 := u32_nibble q
      have n0 : q.toNat % 16 < 16 := Nat.mod_lt _ (by decide)
      have c0 := HT.out _ n0
      generalize q.toNat % 16 = n at *
      generalize tab n = t0 at *
      generalize steps 4 q = q1 at *
      have e4 := u32_low q1
      have e5 := u32_nibble q1
      have n1 : q1.toNat % 16 < 16 := Nat.mod_lt _ (by decide)
      have c1 := HT.out _ n1
      generalize q1.toNat % 16 = m at *
      generalize tab m = t1 at *
      generalize steps 4 q1 = q2 at *
      go_wp2
      go_roundg (gk - 1)
      case measure => omega
      case rel => exact ⟨rfl, i + 1, hlt, by omega, by go_num, q2, rfl, HB.out.symm⟩
    · obtain rfl : i = l.length := by omega
      have hlt' : ¬ (l.length : Int) < l.length := by omega
      have HE : Hid (r = runs (~~~ s) l) := (show _ = _ by rw [HR.out, List.take_length])
      go_wp2
      go_ret
      refine ⟨congrArg (fun x => Ending.returned (Value.int .u32 x)) ?_, rfl⟩
      show bits .xor .u32 4294967295 (r.toNat : Int) = _
      rw [u32_not, HE.out]
      rfl

set_option maxRecDepth 100000 in
theorem of_any (v : Value) (l : List UInt8) (w : World) (hT : Tab w) (h : Rd w v l) (hl : l.length ≤ 140737488355328) :
    Calls Tryd.prog 10 #[v] w fun e w' => e = .returned (.int .u32 (crc l).toNat) ∧ w' = w := by
  go_enter Tryd.func10, Tryd.ntmps10
  go_wp2_with fail
  refine (add_any 0#32 v l w hT h hl).mono ?_
  rintro e w1 ⟨rfl, rfl⟩
  go_wp2
  go_ret
  exact ⟨rfl, rfl⟩

set_option maxRecDepth 100000 in
set_option maxHeartbeats 400000 in
theorem refAdd_any (s : BitVec 32) (v : Value) (l : List UInt8) (w : World) (h : Rd w v l) (hl : l.length ≤ 140737488355328) :
    Calls Tryd.prog 13 #[.int .u32 s.toNat, v] w fun e w' => e = .returned (.int .u32 (crcAdd s l).toNat) ∧ w' = w := by
  obtain ⟨a, cap, rfl, h1, h2, h3, h4⟩ := h
  have HN : Hid (bits .xor .u32 4294967295 (s.toNat : Int) = ((~~~ s).toNat : Int)) := u32_not s
  have H4 : Hid (0 < l.length → ∃ b off, a = some ⟨b, off, none⟩ ∧ b < w.heap.size ∧ ∀ j u, (By l)[j]? = some u → w.cell? ⟨b, off + j, none⟩ = some u) := h4
  clear h4 h3
  go_enter Tryd.func13, Tryd.ntmps13
  go_wp2
  go_loopg [0, 12] (l.length + 1) (fun k y z wr => wr = w ∧ ∃ i : Nat, i ≤ l.length ∧ k + i = l.length + 1 ∧ z = .int .i64 i ∧ ∃ r : BitVec 32, y = .int .u32 r.toNat ∧ Hid (r = runs (~~~ s) (l.take i)))
  case atStart => exact ⟨rfl, 0, Nat.zero_le _, rfl, rfl, _, congrArg _ HN.out, rfl⟩
  case round =>
    obtain ⟨hw, i, hi, hk, rfl, r, rfl, HR⟩ := hrel
    subst hw
    by_cases hlt : i < l.length
    · obtain ⟨b, off, rfl, hb, hc⟩ := H4.out (by omega)
      have hcell := hc i _ (By_get hlt)
      clear hc
      have hlt' : (i : Int) < l.length := by omega
      have hx : l[i].toNat < 256 := l[i].toNat_lt
      have HB : Hid (runs (~~~ s) (l.take (i + 1)) = steps 8 (r ^^^ BitVec.ofNat 32 l[i].toNat)) := (show _ = _ by rw [runs_take _ _ _ hlt, ← HR.out]; rfl)
      have e1 := u32_byte r l[i]
      generalize l[i].toNat = x at *
      generalize r ^^^ BitVec.ofNat 32 x = q at *
      go_wp2
      go_loopg [0, 7] 9 (fun k y z wt => wt = wr ∧ ∃ j : Nat, j ≤ 8 ∧ k + j = 9 ∧ z = .int .i64 j ∧ ∃ c : BitVec 32, y = .int .u32 c.toNat ∧ Hid (steps 8 q = steps (8 - j) c))
      case atStart => exact ⟨rfl, 0, by omega, rfl, rfl, q, rfl, rfl⟩
      case round =>
        obtain ⟨hw, j, hj, hk2, rfl, c, rfl, HC⟩ := hrel
        subst hw
        by_cases hj8 : j < 8
        · have hj8' : (j : Int) < 8 := by omega
          have HC2 : Hid (steps 8 q = steps (8 - (j + 1)) (step c)) := (show _ = _ by
            rw [HC.out, show 8 - j = (8 - (j + 1)) + 1 from by omega]; rfl)
          go_wp2_with fail
          refine (step_any c _).mono ?_
          rintro e w1 ⟨rfl, rfl⟩
          go_wp2
          go_roundg (gk - 1)
          case measure => omega
          case rel => exact ⟨rfl, j + 1, by omega, by omega, by go_num, step c, rfl, HC2⟩
        · obtain rfl : j = 8 := by omega
          have HB2 : Hid (c = runs (~~~ s) (l.take (i + 1))) := (show _ = _ by rw [HB.out, HC.out]; rfl)
          go_wp2
          go_roundg (l.length - i)
          case measure => omega
          case rel => exact ⟨rfl, i + 1, hlt, by omega, by go_num, c, rfl, HB2⟩
    · obtain rfl : i = l.length := by omega
      have hlt' : ¬ (l.length : Int) < l.length := by omega
      have HE : Hid (r = runs (~~~ s) l) := (show _ = _ by rw [HR.out, List.take_length])
      go_wp2
      go_ret
      refine ⟨congrArg (fun x => Ending.returned (Value.int .u32 x)) ?_, rfl⟩
      show bits .xor .u32 4294967295 (r.toNat : Int) = _
      rw [u32_not, HE.out]
      rfl

set_option maxRecDepth 100000 in
theorem refOf_any (v : Value) (l : List UInt8) (w : World) (h : Rd w v l) (hl : l.length ≤ 140737488355328) :
    Calls Tryd.prog 11 #[v] w fun e w' => e = .returned (.int .u32 (crc l).toNat) ∧ w' = w := by
  go_enter Tryd.func11, Tryd.ntmps11
  go_wp2_with fail
  refine (refAdd_any 0#32 v l w h hl).mono ?_
  rintro e w1 ⟨rfl, rfl⟩
  go_wp2
  go_ret
  exact ⟨rfl, rfl⟩
#print axioms times_any
#print axioms of_any
#print axioms refOf_any
end Go.Proofs.YtmopfipkbjfhoaaDoor
