/-
  mountain.Bits and the reference's, indenturelaw09.ints and lives: what the calls do.
-/
import Derived.Test.YtinlpaabmojmkaaDoorMtL
namespace Go.Proofs.YtinlpaabmojmkaaDoor
open Go.RowKit

/-- Numbers as cells. -/
def NE : Enc Nat := ⟨fun n => [.int .i64 (n : Int)], 1, fun _ => rfl, fun x u h => by simp at h; subst h; rfl⟩
theorem Tryd.info3 : (Tryd.prog.info? 3).map (fun i => (i.zero, i.size, i.bytes)) = some (some (.int .i64 0), NE.n, 8) := by kernel_rfl
/-- The power of two that is looked at, of j that are left. -/
def pw (j : Nat) : Nat := if j = 0 then 0 else 2 ^ (j - 1)
theorem pw_half (j : Nat) : pw j / 2 = pw (j - 1) := by
  match j with
  | 0 => rfl
  | 1 => rfl
  | j + 2 =>
    show 2 ^ (j + 1) / 2 = 2 ^ j
    rw [Nat.pow_succ]
    omega
theorem pw_le {j : Nat} (h : j ≤ 63) : pw j ≤ 4611686018427387904 := by
  unfold pw
  split
  · omega
  · exact (pow_fits (by omega)).2
theorem pw_pos {j : Nat} (h : 0 < j) : 0 < pw j := by
  unfold pw
  rw [if_neg (by omega)]
  exact Nat.pow_pos (by decide)
theorem bits_step {j m : Nat} (h : 0 < j) : bitsFrom j m = if pw j ≤ m then pw j :: bitsFrom (j - 1) (m - pw j) else bitsFrom (j - 1) m := by
  obtain ⟨k, rfl⟩ : ∃ k, j = k + 1 := ⟨j - 1, by omega⟩
  rfl
set_option maxHeartbeats 1000000 in
set_option maxRecDepth 100000 in
theorem mbits_none (n : Int) (hn : n ≤ 0) (w : World) :
    Calls Tryd.prog 21 #[.int .i64 n] w fun e w' => e = .returned (.slice none 0 0) ∧ w' = w := by
  go_enter Tryd.func21, Tryd.ntmps21
  go_wp2
  go_step3
  go_wp2
  go_step3
  go_wp2
  go_loopg [0, 3, 4] 2 (fun g x y z wr => wr = w ∧ g = 2 ∧ x = .int .i64 n ∧ y = .slice none 0 0 ∧ z = .int .i64 4611686018427387904)
  case atStart => exact ⟨rfl, rfl, rfl, rfl, rfl⟩
  case round =>
    obtain ⟨hw, rfl, rfl, rfl, rfl⟩ := hrel
    subst hw
    go_wp2
    try rw [Exit.noGoto_ret]
    go_ret
    exact ⟨rfl, rfl⟩
set_option maxHeartbeats 1000000 in
set_option maxRecDepth 100000 in
theorem mbits_some (n : Nat) (hn2 : n < 9223372036854775808) (w : World) :
    Calls Tryd.prog 21 #[.int .i64 (n : Int)] w fun e w' => ∃ v, e = .returned v ∧ OwnG NE w' w.heap.size 3 v (bitsFrom 63 n) ∧ Below w.heap.size w w' := by
  have H2 := hide hn2
  clear hn2
  go_enter Tryd.func21, Tryd.ntmps21
  go_wp2
  go_step3
  go_wp2
  go_step3
  go_wp2
  go_loopg [0, 3, 4] 64 (fun g x y z wr => ∃ (j m : Nat) (l : List Nat), g = j + 1 ∧ j ≤ 63 ∧ x = .int .i64 (m : Int) ∧ z = .int .i64 (pw j : Int) ∧ Hid (m < 2 ^ j) ∧ Hid (l ++ bitsFrom j m = bitsFrom 63 n) ∧ Hid (OwnG NE wr w.heap.size 3 y l) ∧ Hid (l.length + j ≤ 63) ∧ Hid (Below w.heap.size w wr))
  case atStart => exact ⟨63, n, [], rfl, by omega, rfl, rfl, H2.out, (rfl : _ = _), ownG_nil w _ 3, (by decide : 0 + 63 ≤ 63), Below.refl _ _⟩
  case round =>
    obtain ⟨j, m, l, rfl, hj, rfl, rfl, HM, HE, HO, HL, HB⟩ := hrel
    have hpl := pw_le hj
    by_cases h0 : j = 0
    · subst h0
      have hp0 : pw 0 = 0 := rfl
      rw [hp0]
      have HE' : Hid (l = bitsFrom 63 n) := (show l = bitsFrom 63 n by rw [← HE.out]; simp [bitsFrom])
      go_wp2
      try rw [Exit.noGoto_ret]
      go_ret
      exact ⟨_, rfl, by rw [← HE'.out]; exact HO.out, HB.out⟩
    · have hst := bits_step (j := j) (m := m) (by omega)
      have hpp := pw_pos (j := j) (by omega)
      have hph := pw_half j
      have HH := hide (pow_fits (L := j - 1) (by omega))
      have HP : Hid (pw j = 2 ^ (j - 1)) := (show _ = _ by unfold pw; rw [if_neg h0])
      have HJ : Hid (2 ^ j = 2 * 2 ^ (j - 1)) := (show _ = _ by obtain ⟨k, rfl⟩ : ∃ k, j = k + 1 := ⟨j - 1, by omega⟩; rw [Nat.add_sub_cancel, Nat.pow_succ]; omega)
      have hm2 : m < 2 * pw j := by rw [HP.out, ← HJ.out]; exact HM.out
      generalize pw j = p at *
      generalize hq : pw (j - 1) = q at *
      have HQ := hide hq
      have HST := hide hst
      have HPH := hide hph
      clear hst hq hph
      have e2 : (p : Int) / 2 = (q : Int) := by have := HPH.out; omega
      by_cases hm0 : m = 0
      · subst hm0
        have HE' : Hid (l = bitsFrom 63 n) := (show l = bitsFrom 63 n by rw [← HE.out, bits_zero]; simp)
        go_wp2
        try rw [Exit.noGoto_ret]
        go_ret
        exact ⟨_, rfl, by rw [← HE'.out]; exact HO.out, HB.out⟩
      · by_cases hc : p ≤ m
        · have HE2 : Hid (l ++ [p] ++ bitsFrom (j - 1) (m - p) = bitsFrom 63 n) := (show _ = _ by rw [← HE.out, HST.out, if_pos hc]; simp)
          have q1 : ¬ (m : Int) < (p : Int) := by omega
          have hlen : (l.length + 1) * 8 ≤ 140737488355328 ∧ l.length + 1 ≤ maxLen := by have := HL.out; simp only [maxLen]; omega
          have HLEN := hide hlen
          clear hlen
          obtain ⟨M, HMs⟩ : ∃ M, Hid (wr.heap.size = M) := ⟨_, rfl⟩
          go_wp2_with (at_builtin; rw [HMs.out]; refine wpList_append_G (E := NE) _ rfl (.tmp 16) (.tmp 18) 42 42 rfl w.heap.size 3 (.int .i64 0) 8 Tryd.underlying42 Tryd.info3 rfl _ l rfl (HO.out.kept ((Below.refl _ _).alloc (Nat.le_refl _) _)) _ [p] rfl (by rw [← HMs.out]; exact rdG_one wr 3 p) 3 Tryd.underlying42 HLEN.out.1 HLEN.out.2 (by have := HB.out.size; simp; omega) ?_; intro v3 w3 ho3 hg3; have HO3 := hide ho3; have HG3 := hide hg3; clear ho3 hg3)
          go_roundg j
          case measure => omega
          case rel => 
            have hb3 : Below w.heap.size w w3 := by
              refine (HB.out.alloc HB.out.size _).grown HG3.out (by have := HB.out.size; simp; omega) (fun k hk => (HO.out.block hk).1)
            exact ⟨j - 1, m - p, l ++ [p], by omega, by omega, by go_num, by rw [HQ.out], (show _ < _ by rw [← HP.out]; omega), HE2.out, HO3.out, (show _ ≤ _ by rw [List.length_append]; have := HL.out; simp; omega), hb3⟩
        · have HE2 : Hid (l ++ bitsFrom (j - 1) m = bitsFrom 63 n) := (show _ = _ by rw [← HE.out, HST.out, if_neg hc])
          have q1 : (m : Int) < (p : Int) := by omega
          go_wp2
          go_roundg j
          case measure => omega
          case rel => exact ⟨j - 1, m, l, by omega, by omega, rfl, by rw [HQ.out], (show _ < _ by rw [← HP.out]; omega), HE2.out, HO.out, (show _ ≤ _ by have := HL.out; omega), HB.out⟩
/-- mountain.Bits. -/
theorem mbits_any (n : Int) (hn : n ≤ 9223372036854775807) (w : World) :
    Calls Tryd.prog 21 #[.int .i64 n] w fun e w' => ∃ v, e = .returned v ∧ OwnG NE w' w.heap.size 3 v (bitsFrom 63 n.toNat) ∧ Below w.heap.size w w' := by
  by_cases h : n ≤ 0
  · refine (mbits_none n h w).mono ?_
    rintro e w' ⟨rfl, rfl⟩
    exact ⟨_, rfl, by rw [show n.toNat = 0 by omega, bits_zero]; exact ownG_nil w' _ 3, Below.refl _ _⟩
  · have := mbits_some n.toNat (by omega) w
    rwa [show ((n.toNat : Nat) : Int) = n by omega] at this
/-- The lowest bit. -/
theorem and_one (z : Int) : bits .and .i64 z 1 = z % 2 := by
  have e1 : (BitVec.ofInt 64 1).toNat = 2 ^ 1 - 1 := by decide
  have e : (BitVec.ofInt 64 z &&& BitVec.ofInt 64 1).toNat = (z % ((2 ^ 64 : Nat) : Int)).toNat % 2 ^ 1 := by
    rw [BitVec.toNat_and, BitVec.toNat_ofInt, e1, Nat.and_two_pow_sub_one_eq_mod]
  show IntKind.i64.wrap (((BitVec.ofInt 64 z &&& BitVec.ofInt 64 1).toNat : Nat) : Int) = z % 2
  rw [e, IntKind.wrap_i64]
  omega
set_option maxHeartbeats 1000000 in
set_option maxRecDepth 100000 in
theorem nbits_some (n : Nat) (hn : 0 < n) (hn2 : n < 9223372036854775808) (w : World) :
    Calls Tryd.prog 27 #[.int .i64 (n : Int)] w fun e w' => ∃ v, e = .returned v ∧ OwnG NE w' w.heap.size 3 v (bitsFrom 63 n) ∧ Below w.heap.size w w' := by
  have H2 := hide hn2
  clear hn2
  go_enter Tryd.func27, Tryd.ntmps27
  go_wp2
  go_loopg [3, 4] 64 (fun g y z wr => ∃ (j : Nat) (l : List Nat), g = j + 1 ∧ j ≤ 63 ∧ z = .int .i64 ((j : Int) - 1) ∧ Hid (l ++ bitsFrom j (n % 2 ^ j) = bitsFrom 63 n) ∧ Hid (OwnG NE wr w.heap.size 3 y l) ∧ Hid (l.length + j ≤ 63) ∧ Hid (Below w.heap.size w wr))
  case atStart => exact ⟨63, [], rfl, by omega, rfl, (show _ = _ by rw [Nat.mod_eq_of_lt H2.out]; rfl), ownG_nil w _ 3, (by decide : 0 + 63 ≤ 63), Below.refl _ _⟩
  case round =>
    obtain ⟨j, l, rfl, hj, rfl, HE, HO, HL, HB⟩ := hrel
    by_cases h0 : j = 0
    · subst h0
      have HE' : Hid (l = bitsFrom 63 n) := (show l = bitsFrom 63 n by rw [← HE.out]; simp [bitsFrom])
      go_wp2
      go_ret
      exact ⟨_, rfl, by rw [← HE'.out]; exact HO.out, HB.out⟩
    · obtain ⟨k, rfl⟩ : ∃ k, j = k + 1 := ⟨j - 1, by omega⟩
      have HST := hide (bits_test k n)
      have hp := pow_fits (L := k) (by omega)
      have hw2 := wrap_pow (L := k) (by omega)
      have e1 : (n : Int) / 2 ^ k = ((n / 2 ^ k : Nat) : Int) := by rw [Int.natCast_ediv, Int.natCast_pow]; rfl
      have hle : n / 2 ^ k ≤ n := Nat.div_le_self _ _
      have ha := and_one ((n / 2 ^ k : Nat) : Int)
      generalize hy : n / 2 ^ k = y at *
      generalize hpp : 2 ^ k = p at *
      have HP := hide hpp
      have HY := hide hy
      have HLE := hide hle
      have HPB := hide hp
      clear hpp hy hle hp
      have hlen : (l.length + 1) * 8 ≤ 140737488355328 ∧ l.length + 1 ≤ maxLen := by have := HL.out; simp only [maxLen]; omega
      have HLEN := hide hlen
      clear hlen
      obtain ⟨M, HMs⟩ : ∃ M, Hid (wr.heap.size = M) := ⟨_, rfl⟩
      by_cases hc : y % 2 = 1
      · have HE2 : Hid (l ++ [p] ++ bitsFrom k (n % p) = bitsFrom 63 n) := (show _ = _ by rw [← HE.out, HST.out, if_pos hc]; simp)
        have ha1 : bits .and .i64 (y : Int) 1 = 1 := by rw [ha]; omega
        clear ha hc
        go_wp2_with (at_builtin; rw [HMs.out]; refine wpList_append_G (E := NE) _ rfl (.tmp 19) (.tmp 23) 42 42 rfl w.heap.size 3 (.int .i64 0) 8 Tryd.underlying42 Tryd.info3 rfl _ l rfl (HO.out.kept ((Below.refl _ _).alloc (Nat.le_refl _) _)) _ [p] rfl (by rw [← HMs.out]; exact rdG_one wr 3 p) 3 Tryd.underlying42 HLEN.out.1 HLEN.out.2 (by have := HB.out.size; simp; omega) ?_; intro v3 w3 ho3 hg3; have HO3 := hide ho3; have HG3 := hide hg3; clear ho3 hg3)
        go_roundg (k + 1)
        case measure => omega
        case rel =>
          have hb3 : Below w.heap.size w w3 := by
            refine (HB.out.alloc HB.out.size _).grown HG3.out (by have := HB.out.size; simp; omega) (fun k hk => (HO.out.block hk).1)
          exact ⟨k, l ++ [p], by omega, by omega, by go_num, (show _ = _ by rw [HP.out]; exact HE2.out), HO3.out, (show _ ≤ _ by rw [List.length_append]; have := HL.out; simp; omega), hb3⟩
      · have HE2 : Hid (l ++ bitsFrom k (n % p) = bitsFrom 63 n) := (show _ = _ by rw [← HE.out, HST.out, if_neg hc])
        have ha1 : bits .and .i64 (y : Int) 1 = 0 := by rw [ha]; omega
        clear ha hc
        go_wp2
        go_roundg (k + 1)
        case measure => omega
        case rel => exact ⟨k, l, by omega, by omega, by go_num, (show _ = _ by rw [HP.out]; exact HE2.out), HO.out, (show _ ≤ _ by have := HL.out; omega), HB.out⟩
set_option maxHeartbeats 1000000 in
set_option maxRecDepth 100000 in
theorem nbits_none (n : Int) (hn : n ≤ 0) (w : World) :
    Calls Tryd.prog 27 #[.int .i64 n] w fun e w' => e = .returned (.slice none 0 0) ∧ w' = w := by
  go_enter Tryd.func27, Tryd.ntmps27
  go_wp2
  go_loopg [3, 4] 64 (fun g y z wr => wr = w ∧ ∃ j : Nat, g = j + 1 ∧ j ≤ 63 ∧ y = .slice none 0 0 ∧ z = .int .i64 ((j : Int) - 1))
  case atStart => exact ⟨rfl, 63, rfl, by omega, rfl, rfl⟩
  case round =>
    obtain ⟨hw, j, rfl, hj, rfl, rfl⟩ := hrel
    subst hw
    by_cases h0 : j = 0
    · subst h0
      go_wp2
      go_ret
      exact ⟨rfl, rfl⟩
    · obtain ⟨k, rfl⟩ : ∃ k, j = k + 1 := ⟨j - 1, by omega⟩
      go_wp2
      go_roundg (k + 1)
      case measure => omega
      case rel => exact ⟨rfl, k, by omega, by omega, rfl, by go_num⟩
/-- The reference's Bits. -/
theorem nbits_any (n : Int) (hn : n ≤ 9223372036854775807) (w : World) :
    Calls Tryd.prog 27 #[.int .i64 n] w fun e w' => ∃ v, e = .returned v ∧ OwnG NE w' w.heap.size 3 v (bitsFrom 63 n.toNat) ∧ Below w.heap.size w w' := by
  by_cases h : n ≤ 0
  · refine (nbits_none n h w).mono ?_
    rintro e w' ⟨rfl, rfl⟩
    exact ⟨_, rfl, by rw [show n.toNat = 0 by omega, bits_zero]; exact ownG_nil w' _ 3, Below.refl _ _⟩
  · have := nbits_some n.toNat (by omega) (by omega) w
    rwa [show ((n.toNat : Nat) : Int) = n by omega] at this
set_option maxHeartbeats 1000000 in
set_option maxRecDepth 100000 in
/-- The reference's Split. -/
theorem nsplit_any (n : Int) (hn : n ≤ 9223372036854775807) (w : World) :
    Calls Tryd.prog 25 #[.int .i64 n] w fun e w' => e = .returned (.int .i64 (spl n.toNat : Int)) ∧ w' = w := by
  by_cases h2 : n < 2
  · have e : spl n.toNat = 0 := spl_small (by omega)
    rw [e]
    go_enter Tryd.func25, Tryd.ntmps25
    go_wp2
    go_ret
    exact ⟨rfl, rfl⟩
  · go_enter Tryd.func25, Tryd.ntmps25
    go_wp2
    go_loopg [3] 63 (fun g z wr => wr = w ∧ ∃ j : Nat, g + j = 63 ∧ z = .int .i64 ((2 ^ j : Nat) : Int) ∧ ((2 ^ j : Nat) : Int) < n)
    case atStart => exact ⟨rfl, 0, rfl, rfl, by simp; omega⟩
    case round =>
      obtain ⟨hw, j, hj, rfl, hjn⟩ := hrel
      subst hw
      have e2 : 2 ^ (j + 1) = 2 * 2 ^ j := by rw [Nat.pow_succ]; omega
      have hpos : 0 < 2 ^ j := Nat.pow_pos (by decide)
      by_cases hc : n ≤ 2 * ((2 ^ j : Nat) : Int)
      · have HS : Hid (spl n.toNat = 2 ^ j) := (spl_pow (by omega) (by omega))
        have HE := hide e2
        clear e2
        generalize 2 ^ j = p at *
        go_wp2
        go_ret
        exact ⟨by rw [HS.out]; rfl, rfl⟩
      · have hj2 : j < 62 := by
          rcases Nat.lt_or_ge j 62 with h | h
          · exact h
          · have := Nat.pow_le_pow_right (n := 2) (by decide) h
            omega
        have HE := hide e2
        clear e2
        generalize hp : 2 ^ j = p at *
        have HP := hide hp
        clear hp
        go_wp2
        go_roundg (gk - 1)
        case measure => omega
        case rel => exact ⟨rfl, j + 1, by omega, by rw [HE.out]; go_num, by rw [HE.out]; omega⟩
theorem RdG.num {w : World} {a : Option Addr} {n cap : Nat} {L : List Nat} (h : RdG NE w (.slice a n cap) L) (hp : 0 < n) :
    ∃ b off, a = some ⟨b, off, none⟩ ∧ ∀ j (hj : j < L.length), w.cell? ⟨b, off + j, none⟩ = some (.int .i64 (L[j] : Int)) := by
  obtain ⟨b, off, rfl, _, hc⟩ := h.nth hp
  refine ⟨b, off, rfl, fun j hj => ?_⟩
  have := hc j hj 0 _ rfl
  simpa [NE] using this
set_option maxHeartbeats 2000000 in
set_option maxRecDepth 100000 in
/-- The document's examples are as it says. -/
theorem mlives_any (w : World) : Calls Tryd.prog 7 #[] w fun e w' => e = .returned (.bool true) ∧ Below w.heap.size w w' := by
  go_enter Tryd.func7, Tryd.ntmps7
  go_wp2_with fail
  refine (mbits_any 6 (by decide) w).mono ?_
  rintro e w1 ⟨v1, rfl, ho1, hb1⟩
  have e6 : bitsFrom 63 (6 : Int).toNat = [4, 2] := by decide +kernel
  rw [e6] at ho1
  have s6 : spl (6 : Int).toNat = 4 := by decide +kernel
  have s4 : spl (4 : Int).toNat = 2 := by decide +kernel
  have c6 := fun w => split_any 6 (by decide) w
  have c4 := fun w => split_any 4 (by decide) w
  rw [s6] at c6
  rw [s4] at c4
  have C6 : Hid (∀ w, Calls Tryd.prog 19 #[.int .i64 6] w fun e w' => e = .returned (.int .i64 4) ∧ w' = w) := hide c6
  have C4 : Hid (∀ w, Calls Tryd.prog 19 #[.int .i64 4] w fun e w' => e = .returned (.int .i64 2) ∧ w' = w) := hide c4
  have HB := hide hb1
  have hr := ho1.rd
  obtain ⟨a, cap, rfl⟩ := hr.slice
  obtain ⟨b, off, rfl, hc⟩ := hr.num (by decide)
  have h0 : w1.cell? ⟨b, off, none⟩ = some (.int .i64 4) := hc 0 (by decide)
  have h1 : w1.cell? ⟨b, off + 1, none⟩ = some (.int .i64 2) := hc 1 (by decide)
  clear c4 c6 s4 s6 e6 hr ho1 hc hb1
  go_wp2_with (first
    | (go_at_call 19; with_reducible refine (C6.out _).mono ?_; rintro e w' ⟨rfl, rfl⟩)
    | (go_at_call 19; with_reducible refine (C4.out _).mono ?_; rintro e w' ⟨rfl, rfl⟩)
    | fail)
  go_ret
  exact ⟨rfl, HB.out⟩
end Go.Proofs.YtinlpaabmojmkaaDoor
