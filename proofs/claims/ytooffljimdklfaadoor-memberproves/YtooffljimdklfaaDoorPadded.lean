/-
  indentureref03.padded: what the call does.
-/
import Derived.Test.YtooffljimdklfaaDoorSums
import Derived.Test.YtooffljimdklfaaDoorHashB
namespace Go.Proofs.YtooffljimdklfaaDoor
open Go.RowKit
theorem be8_take (n k : Nat) (hk : k < 8) : (be8 n).take (k + 1) = (be8 n).take k ++ [UInt8.ofNat (n / 2 ^ (8 * (7 - k)))] := by
  rw [List.take_add_one, be8_get n k hk]
  rfl
set_option maxHeartbeats 1000000 in
set_option maxRecDepth 100000 in
theorem padded_any (v : Value) (l : List UInt8) (hn : l.length ≤ 1099511627776) (w : World) (hr : Rd w v l) :
    Calls Tryd.prog 72 #[v] w fun e w' => ∃ v', e = .returned v' ∧ Own w' w.heap.size v' (l ++ padb l.length) ∧ Below w.heap.size w w' := by
  obtain ⟨i0, hi0, hz0, hz1, hz2⟩ := info_parts Tryd.info5
  have R1 : Hid (Rd (w.alloc (.cells #[] 5 (0, 0))) v l) := hr.kept ((Below.refl _ _).alloc (Nat.le_refl _) _)
  obtain ⟨a, cap, rfl, -, -⟩ := hr
  have H80 : Hid ((128 : Int) = (((0x80 : UInt8).toNat : Nat) : Int)) := rfl
  have H00 : Hid ((0 : Int) = (((0 : UInt8).toNat : Nat) : Int)) := rfl
  obtain ⟨Z, HZ⟩ : ∃ Z, Hid ((119 - l.length % 64) % 64 = Z) := ⟨_, rfl⟩
  have hZ64 : Z < 64 := by have := HZ.out; omega
  obtain ⟨N, HN⟩ : ∃ N, Hid (w.heap.size = N) := ⟨_, rfl⟩
  go_enter Tryd.func72, Tryd.ntmps72
  go_wp2_with (first
    | (at_builtin; refine wpList_append_bytes _ rfl (.tmp 6) (.tmp 7) 118 118 rfl w.heap.size i0 Tryd.underlying118 hi0 hz0 hz1 hz2 _ [] rfl (own_none w _ (Nat.le_refl _)) _ l rfl (R1.out.src 118 Tryd.underlying118) (by simp; omega) (by simp) ?_; intro v1 w1 ho1 hb1; simp only [List.nil_append] at ho1)
    | (at_builtin; refine wpList_append_bytes _ rfl (.tmp 8) (.tmp 9) 118 118 rfl w.heap.size i0 Tryd.underlying118 hi0 hz0 hz1 hz2 v1 l rfl (by exact ho1.kept ((Below.refl _ _).alloc (Nat.le_refl _) _)) _ [0x80] rfl (by exact (own_one' _ _ (Nat.le_refl _) _ _ H80).rd.src 118 Tryd.underlying118) (by simp; omega) (by have := hb1.size; simp at this ⊢; omega) ?_; intro v2 w2 ho2 hb2))
  have L2 : Hid (Below N w w2) := (show Below _ _ _ by rw [← HN.out]; exact ((((Below.refl _ _).alloc (Nat.le_refl _) _).trans hb1).trans ((Below.refl _ _).alloc (by have := hb1.size; simp at this; omega) _)).trans hb2)
  have O2 : Hid (Own w2 N v2 (l ++ 0x80 :: List.replicate 0 0)) := (show Own _ _ _ _ by rw [← HN.out]; exact ho2)
  clear ho1 hb1 ho2 hb2 R1
  go_loopg [3] (Z + 1) (fun g y wr => Hid (Below N w wr) ∧ ∃ k : Nat, k ≤ Z ∧ g + k = Z + 1 ∧ Hid (Own wr N y (l ++ 0x80 :: List.replicate k 0)))
  case atStart => exact ⟨L2, 0, by omega, by omega, O2⟩
  case round =>
    clear L2 O2
    obtain ⟨L2, k, hk, hgk, O2⟩ := hrel
    have HNw : Hid (N ≤ wr.heap.size) := (show _ ≤ _ by rw [← HN.out]; exact L2.out.size)
    obtain ⟨a2, cap2, hy⟩ := O2.out.form
    obtain ⟨X, HX⟩ : ∃ X, Hid (l ++ (0x80 : UInt8) :: List.replicate k (0 : UInt8) = X) := ⟨_, rfl⟩
    rw [HX.out] at hy O2
    subst hy
    have HXL : Hid (X.length = l.length + 1 + k) := (show _ = _ by rw [← HX.out]; simp; omega)
    have hxb : X.length ≤ 1099511627900 := by have := HXL.out; omega
    obtain ⟨p, HP⟩ : ∃ p, Hid (X.length % 64 = p) := ⟨_, rfl⟩
    have e2 : ((X.length : Nat) : Int) % 64 = (p : Int) := by have := HP.out; omega
    have e1 : ((X.length : Nat) : Int).tmod 64 = (p : Int) := by rw [Int.tmod_eq_emod_of_nonneg (by omega)]; have := HP.out; omega
    by_cases hlt : k < Z
    · have q1 : ¬ (p : Int) = 56 := by have := HP.out; have := HZ.out; have := HXL.out; omega
      have HX' : Hid (X ++ [0] = l ++ 0x80 :: List.replicate (k + 1) 0) := (show _ = _ by rw [← HX.out, List.append_assoc, List.replicate_succ']; rfl)
      go_wp2_with (at_builtin; refine wpList_append_bytes _ rfl (.tmp 15) (.tmp 16) 118 118 rfl N i0 Tryd.underlying118 hi0 hz0 hz1 hz2 _ X rfl (by exact O2.out.kept ((Below.refl _ _).alloc (Nat.le_refl _) _)) _ [0] rfl (by exact (own_one' _ _ (Nat.le_refl _) _ _ H00).rd.src 118 Tryd.underlying118) (by simp; omega) (by have := HNw.out; simp; omega) ?_; intro v3 w3 ho3 hb3)
      go_roundg (gk - 1)
      case measure => omega
      case rel => exact ⟨(L2.out.trans ((Below.refl _ _).alloc HNw.out _)).trans hb3, k + 1, by omega, by omega, by rw [← HX'.out]; exact ho3⟩
    · obtain rfl : k = Z := by omega
      have q1 : (p : Int) = 56 := by have := HP.out; have := HZ.out; have := HXL.out; omega
      obtain ⟨c, HC⟩ : ∃ c, Hid (8 * l.length = c) := ⟨_, rfl⟩
      have hc64 : c < 18446744073709551616 := by have := HC.out; omega
      go_wp2
      rw [show ((l.length : Int) * 8) = (c : Int) by have := HC.out; omega]
      go_loopg [3, 5] 9 (fun g y z wr => Hid (Below N w wr) ∧ ∃ (k : Nat) (t : Int), k ≤ 8 ∧ g + k = 9 ∧ z = .int .i64 t ∧ Hid (t = 7 - (k : Int)) ∧ Hid (Own wr N y (X ++ (be8 c).take k)))
      case atStart => exact ⟨L2, 0, 7, by omega, by omega, rfl, rfl, by simpa using O2⟩
      case round =>
        clear L2 O2 HNw
        obtain ⟨L2, j, t, hj, hgj, rfl, HTt, O2⟩ := hrel
        have HNw : Hid (N ≤ wr.heap.size) := (show _ ≤ _ by rw [← HN.out]; exact L2.out.size)
        by_cases hj8 : j < 8
        · obtain ⟨i, hit⟩ : ∃ i : Nat, t = (i : Int) := ⟨7 - j, by have := HTt.out; omega⟩
          subst hit
          have HI7 : Hid (i = 7 - j) := (show _ = _ by have := HTt.out; omega)
          have q2 : (i : Int) ≤ 7 := by have := HI7.out; omega
          have HY : Hid ((c : Int) / (2 : Int) ^ (8 * i) % 256 = ((UInt8.ofNat (c / 2 ^ (8 * i))).toNat : Int)) := u8_shr c _
          have HT8 : Hid ((X ++ (be8 c).take j) ++ [UInt8.ofNat (c / 2 ^ (8 * i))] = X ++ (be8 c).take (j + 1)) := (show _ = _ by rw [be8_take c j hj8, HI7.out, List.append_assoc])
          have hll : (X ++ (be8 c).take j).length ≤ 1099511628000 := by simp [be8_length]; omega
          generalize UInt8.ofNat (c / 2 ^ (8 * i)) = x at *
          go_wp2_with (at_builtin; refine wpList_append_bytes _ rfl (.tmp 26) (.tmp 33) 118 118 rfl N i0 Tryd.underlying118 hi0 hz0 hz1 hz2 _ (X ++ (be8 c).take j) rfl (by exact O2.out.kept ((Below.refl _ _).alloc (Nat.le_refl _) _)) _ [x] rfl (by exact (own_one' _ _ (Nat.le_refl _) _ _ HY).rd.src 118 Tryd.underlying118) (by rw [List.length_singleton]; omega) (by have := HNw.out; simp; omega) ?_; intro v3 w3 ho3 hb3)
          go_roundg (gk - 1)
          case measure => omega
          case rel => exact ⟨(L2.out.trans ((Below.refl _ _).alloc HNw.out _)).trans hb3, j + 1, _, by omega, by omega, rfl, (show _ = _ by have := HTt.out; omega), by rw [← HT8.out]; exact ho3⟩
        · obtain rfl : j = 8 := by omega
          obtain rfl : t = -1 := by have := HTt.out; omega
          go_wp2
          go_ret
          refine ⟨_, rfl, ?_, by rw [HN.out]; exact L2.out⟩
          have := O2.out
          rw [List.take_of_length_le (by rw [be8_length]; omega), ← HX.out, List.append_assoc] at this
          rw [HN.out]
          unfold padb
          rw [HZ.out, HC.out]
          exact this
end Go.Proofs.YtooffljimdklfaaDoor
