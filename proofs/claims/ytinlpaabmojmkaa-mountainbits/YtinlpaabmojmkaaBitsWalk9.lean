/-
  indenturelaw09.MountainBits: what the call does.
-/
import Derived.Test.YtinlpaabmojmkaaMtB
namespace Go.Proofs.Ytinlpaabmojmkaa
open Go.RowKit
/-- Of a power of two and one less no bit is there in both. -/
theorem and_pow {j : Nat} (h : j < 63) : bits .and .i64 ((2 ^ j : Nat) : Int) (((2 ^ j : Nat) : Int) - 1) = 0 := by
  have hp := pow_fits h
  have e1 : (((2 ^ j : Nat) : Int) % ((2 ^ 64 : Nat) : Int)).toNat = 2 ^ j := by
    generalize 2 ^ j = p at *
    omega
  have e2 : ((((2 ^ j : Nat) : Int) - 1) % ((2 ^ 64 : Nat) : Int)).toNat = 2 ^ j - 1 := by
    generalize 2 ^ j = p at *
    omega
  have e : (BitVec.ofInt 64 ((2 ^ j : Nat) : Int) &&& BitVec.ofInt 64 (((2 ^ j : Nat) : Int) - 1)).toNat = 0 := by
    rw [BitVec.toNat_and, BitVec.toNat_ofInt, BitVec.toNat_ofInt, e1, e2, Nat.and_two_pow_sub_one_eq_mod, Nat.mod_self]
  show IntKind.i64.wrap (((BitVec.ofInt 64 ((2 ^ j : Nat) : Int) &&& BitVec.ofInt 64 (((2 ^ j : Nat) : Int) - 1)).toNat : Nat) : Int) = 0
  rw [e]
  rfl
theorem sum_take_succ (L : List Nat) (i : Nat) (h : i < L.length) : (L.take (i + 1)).sum = (L.take i).sum + L[i] := by
  rw [List.take_add_one, List.getElem?_eq_getElem h, Option.toList_some, List.sum_append]
  simp
theorem sum_take_le : ∀ (L : List Nat) (i : Nat), (L.take i).sum ≤ L.sum
  | [], i => by simp
  | x :: L, 0 => by simp
  | x :: L, i + 1 => by
    rw [List.take_succ_cons, List.sum_cons, List.sum_cons]
    have := sum_take_le L i
    omega
set_option maxHeartbeats 2000000 in
set_option maxRecDepth 100000 in
theorem mountainBits_any (n : Int) (hn0 : -9223372036854775808 ≤ n) (hn : n ≤ 9223372036854775807) (w : World) :
    Calls Try.prog 4 #[.int .i64 n] w fun e w' => e = .returned (.bool true) ∧ Below w.heap.size w w' := by
  have C1 := hide (fun w => mbits_any n hn w)
  have C3 := hide (fun w => split_any n hn w)
  have HM := hide (fun x => bits_mem 63 n.toNat x)
  have HF := hide (bits_fall 63 n.toNat)
  have HS := hide (bits_sum 63 n.toNat (by omega))
  have HZ : Hid (n < 1 → bitsFrom 63 n.toNat = [] ∧ spl n.toNat = 0) := (show _ → _ from fun h => ⟨by rw [show n.toNat = 0 by omega]; exact bits_zero 63, spl_small (by omega)⟩)
  have HL := hide (bits_le 63 n.toNat)
  generalize bitsFrom 63 n.toNat = L at *
  go_enter Try.func4, Try.ntmps4
  go_wp2_with fail
  refine (C1.out w).mono ?_
  rintro e w1 ⟨v1, rfl, ho1, hb1⟩
  have HR := hide ho1.rd
  have HB1 := hide hb1
  obtain ⟨a, cap, rfl⟩ := ho1.rd.slice
  clear ho1 hb1
  obtain ⟨k, HK⟩ : ∃ k, Hid (L.length = k) := ⟨_, rfl⟩
  have hk : k ≤ 63 := by rw [← HK.out]; exact HL.out
  rw [HK.out] at HR ⊢
  go_wp2_with fail
  go_loopg [4, 12] k (fun g y z wr => wr = w1 ∧ ∃ i s : Nat, g + i = k ∧ y = .int .i64 (s : Int) ∧ z = .int .i64 (i : Int) ∧ Hid (s = (L.take i).sum))
  case atStart => exact ⟨rfl, 0, 0, by omega, rfl, rfl, (rfl : _ = _)⟩
  case round =>
    obtain ⟨hw, i, s, hgi, rfl, rfl, HSi⟩ := hrel
    subst hw
    by_cases hlt : i < k
    · have hi : i < L.length := by rw [HK.out]; exact hlt
      obtain ⟨b, off, rfl, hc⟩ := HR.out.num (by omega)
      have c1 := hc i hi
      have HX := hide (sum_take_succ L i hi)
      have HT := hide (sum_take_le L (i + 1))
      obtain ⟨j, hj, hxj⟩ := HM.out L[i] (List.getElem_mem hi)
      have hand := and_pow hj
      have hp := pow_fits hj
      rw [← hxj] at hand hp
      have hsx : s + L[i] ≤ n.toNat := by have := HX.out; have := HT.out; have := HSi.out; have := HS.out; omega
      have HPF : Hid (∀ i j (hi : i < L.length) (hj : j < L.length), i < j → L[j] < L[i]) := (show _ from fun i j hi hj h => List.pairwise_iff_getElem.1 HF.out i j hi hj h)
      cases i with
      | zero =>
        generalize L[0] = x at *
        rw [Nat.add_zero] at c1
        clear hc hxj
        go_wp2
        go_roundg (gk - 1)
        case measure => omega
        case rel => exact ⟨rfl, 1, s + x, by omega, by go_num, by go_num, (show _ = _ by rw [HX.out, ← HSi.out])⟩
      | succ i =>
        have c2 := hc i (by omega)
        have hfall := HPF.out i (i + 1) (by omega) hi (by omega)
        generalize L[i + 1] = x at *
        generalize L[i] = y at *
        clear hc hxj
        go_wp2
        go_roundg (gk - 1)
        case measure => omega
        case rel => exact ⟨rfl, i + 2, s + x, by omega, by go_num, by go_num, (show _ = _ by rw [HX.out, ← HSi.out])⟩
    · obtain rfl : i = k := by omega
      have HSn : Hid (s = n.toNat) := (show _ = _ by rw [HSi.out, List.take_of_length_le (by rw [HK.out]; exact Nat.le_refl _)]; exact HS.out)
      by_cases h1 : n < 1
      · obtain ⟨hL, hs⟩ := HZ.out h1
        have hi0 : i = 0 := by rw [← HK.out, hL]; rfl
        rw [hs] at C3
        subst hi0
        go_wp2_with fail
        refine (C3.out _).mono ?_
        rintro e w2 ⟨rfl, rfl⟩
        go_wp2_with fail
        refine (mlives_any _).mono ?_
        rintro e w4 ⟨rfl, hb4⟩
        have HB4 : Hid (Below w.heap.size w w4) := HB1.out.trans (hb4.mono HB1.out.size)
        clear hb4
        go_wp2
        go_ret
        exact ⟨rfl, HB4.out⟩
      · have hsn : (s : Int) = n := by rw [HSn.out]; omega
        have HSN := hide hsn
        rw [hsn]
        clear hsn
        go_wp2_with fail
        refine (C3.out _).mono ?_
        rintro e w2 ⟨rfl, rfl⟩
        by_cases h2 : n = 1
        · subst h2
          have hs1 : spl (1 : Int).toNat = 0 := by decide +kernel
          rw [hs1]
          go_wp2_with fail
          refine (mlives_any _).mono ?_
          rintro e w4 ⟨rfl, hb4⟩
          have HB4 : Hid (Below w.heap.size w w4) := HB1.out.trans (hb4.mono HB1.out.size)
          clear hb4
          go_wp2
          go_ret
          exact ⟨rfl, HB4.out⟩
        · have g1 : spl n.toNat < n.toNat := spl_lt (by omega)
          have g2 := spl_ge (n := n.toNat) (by omega)
          have g3 : spl n.toNat = 2 ^ Nat.log2 (n.toNat - 1) := by unfold spl; rw [if_neg (by omega)]
          have hL : Nat.log2 (n.toNat - 1) < 63 := (Nat.log2_lt (by omega)).2 (by omega)
          have hand := and_pow hL
          rw [← g3] at hand
          clear g3 hL C3
          generalize spl n.toNat = p at *
          have q1 : (p : Int) < n := by omega
          have q2 : ¬ (p : Int) < n - (p : Int) := by omega
          have hp1 : 1 ≤ p := by omega
          have HG1 := hide g1
          have HG2 := hide g2
          clear g1 g2
          have h3 : ¬ n = 1 := h2
          have h4 : (1 : Int) < n := by omega
          go_wp2_with fail
          refine (mlives_any _).mono ?_
          rintro e w4 ⟨rfl, hb4⟩
          have HB4 : Hid (Below w.heap.size w w4) := HB1.out.trans (hb4.mono HB1.out.size)
          clear hb4
          go_wp2
          go_ret
          exact ⟨rfl, HB4.out⟩
end Go.Proofs.Ytinlpaabmojmkaa
