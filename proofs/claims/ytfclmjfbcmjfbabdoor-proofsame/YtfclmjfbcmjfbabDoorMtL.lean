/-
  math/bits.Len, mountain.Split and the reference's: what the calls do.
-/
import Derived.Test.YtfclmjfbcmjfbabDoorMtP
import Derived.Test.YtfclmjfbcmjfbabDoorGen9
import Derived.Lib.BitFns
import Derived.Lib.Walk
namespace Go.Proofs.YtfclmjfbcmjfbabDoor
open Go.RowKit

theorem bitLen_aux : ∀ f x, 0 < x → x < 2 ^ f → Lib.bitLenAux f x = x.log2 + 1
  | 0, x, h, h' => by simp at h'; omega
  | f + 1, x, h, h' => by
    have e1 : 2 ^ (f + 1) = 2 * 2 ^ f := by rw [Nat.pow_succ]; omega
    rw [Lib.bitLenAux, if_neg (by omega), Nat.log2_def]
    split
    · rw [bitLen_aux f (x / 2) (by omega) (by omega)]; omega
    · obtain rfl : x = 1 := by omega
      cases f <;> rfl
theorem bitLen_log (x : Nat) (h : 0 < x) (h' : x < 18446744073709551616) : Lib.bitLen x = x.log2 + 1 := bitLen_aux 64 x h h'
theorem tab_size : Lib.len8tab.size = 256 := by decide +kernel
theorem tab_all : ∀ n : Fin 256, (Lib.len8tab[n.val]!).toNat = Lib.bitLen n.val := by decide +kernel
theorem tab_len (n : Nat) (h : n < Lib.len8tab.size) : (Lib.len8tab[n]'h).toNat = Lib.bitLen n := by
  rw [← tab_all ⟨n, by rw [tab_size] at h; exact h⟩, getElem!_pos Lib.len8tab n h]
theorem len_fin (x : Int) (k : Nat) (b : Int) (h0 : 0 ≤ x) (h1 : x ≤ 18446744073709551615) (hb : 0 ≤ b) (e : b.toNat = x.toNat / 2 ^ k) (hk : k = 0 ∨ 2 ^ k ≤ x.toNat) (hk8 : k ≤ 56) (h : b.toNat < Lib.len8tab.size) :
    wrap64 ((k : Int) + wrap64 ((Lib.len8tab[b.toNat]'h).toNat : Int)) = (Lib.bitLen x.toNat : Int) ∧ (Lib.bitLen x.toNat : Int) ≤ 64 := by
  have hs := tab_size
  have l : Lib.bitLen b.toNat ≤ 8 := Lib.bitLen_le8' b hb (by omega)
  rw [tab_len]
  have e2 : Lib.bitLen x.toNat = k + Lib.bitLen b.toNat := by
    rw [e]
    rcases hk with rfl | hk
    · simp
    · exact Lib.bitLen_shift k x.toNat hk (by omega)
  rw [e2]
  unfold wrap64
  omega
set_option maxHeartbeats 4000000 in
set_option maxRecDepth 100000 in
theorem len64_any (x : Int) (h0 : 0 ≤ x) (h1 : x ≤ 18446744073709551615) (w : World) :
    Calls Tryd.prog 30 #[.int .u64 x] w fun e w' => e = .returned (.int .i64 (Lib.bitLen x.toNat : Int)) ∧ w' = w := by
  go_enter Tryd.func30, Tryd.ntmps30
  go_wp2
  all_goals first
    | (exfalso; rename_i h; refine h ?_; rw [tab_size]; omega)
    | (exfalso; rename_i h; rw [tab_size] at h; omega)
    | (go_ret
       refine ⟨congrArg Ending.returned (congrArg (Value.int IntKind.i64) ?_), rfl⟩
       first
       | exact (len_fin x 56 (x / 4294967296 / 65536 / 256) h0 h1 (by omega) (by omega) (.inr (by omega)) (by decide) _).1
       | exact (len_fin x 48 (x / 4294967296 / 65536) h0 h1 (by omega) (by omega) (.inr (by omega)) (by decide) _).1
       | exact (len_fin x 40 (x / 4294967296 / 256) h0 h1 (by omega) (by omega) (.inr (by omega)) (by decide) _).1
       | exact (len_fin x 32 (x / 4294967296) h0 h1 (by omega) (by omega) (.inr (by omega)) (by decide) _).1
       | exact (len_fin x 24 (x / 65536 / 256) h0 h1 (by omega) (by omega) (.inr (by omega)) (by decide) _).1
       | exact (len_fin x 16 (x / 65536) h0 h1 (by omega) (by omega) (.inr (by omega)) (by decide) _).1
       | exact (len_fin x 8 (x / 256) h0 h1 (by omega) (by omega) (.inr (by omega)) (by decide) _).1
       | (have := (len_fin x 0 x h0 h1 h0 (by simp) (.inl rfl) (by decide) (by rw [tab_size]; omega)).1; simpa using this))
theorem len_any (x : Int) (h0 : 0 ≤ x) (h1 : x ≤ 18446744073709551615) (w : World) :
    Calls Tryd.prog 23 #[.int .u64 x] w fun e w' => e = .returned (.int .i64 (Lib.bitLen x.toNat : Int)) ∧ w' = w := by
  go_enter Tryd.func23, Tryd.ntmps23
  go_wp2_with (go_at_call 30; refine (len64_any x h0 h1 _).mono ?_; rintro e w' ⟨rfl, rfl⟩)
  go_ret
  exact ⟨rfl, rfl⟩
theorem pow_fits {L : Nat} (h : L < 63) : 0 < 2 ^ L ∧ 2 ^ L ≤ 4611686018427387904 := ⟨Nat.pow_pos (by decide), Nat.pow_le_pow_right (n := 2) (by decide) (show L ≤ 62 by omega)⟩
theorem wrap_pow {L : Nat} (h : L < 63) : wrap64 ((2 : Int) ^ L) = ((2 ^ L : Nat) : Int) := by
  have hp := pow_fits h
  rw [show (2 : Int) ^ L = ((2 ^ L : Nat) : Int) from (Int.natCast_pow 2 L).symm]
  generalize 2 ^ L = p at *
  unfold wrap64
  omega
/-- mountain.Split. -/
theorem split_any (n : Int) (h1 : n ≤ 9223372036854775807) (w : World) :
    Calls Tryd.prog 16 #[.int .i64 n] w fun e w' => e = .returned (.int .i64 (spl n.toNat : Int)) ∧ w' = w := by
  by_cases h2 : n < 2
  · have e : spl n.toNat = 0 := spl_small (by omega)
    rw [e]
    go_enter Tryd.func16, Tryd.ntmps16
    go_wp2
    go_ret
    exact ⟨rfl, rfl⟩
  · have e : spl n.toNat = 2 ^ ((n - 1).toNat.log2) := by
      unfold spl
      rw [if_neg (by omega), show n.toNat - 1 = (n - 1).toNat by omega]
    have e3 : (Lib.bitLen (n - 1).toNat : Int) = ((n - 1).toNat.log2 : Int) + 1 := by rw [bitLen_log _ (by omega) (by omega)]; rfl
    have hL : (n - 1).toNat.log2 < 63 := (Nat.log2_lt (by omega)).2 (by omega)
    have q2 : ¬ n < 2 := h2
    have HC := hide (fun w => len_any (n - 1) (by omega) (by omega) w)
    rw [e3, e] at *
    generalize (n - 1).toNat.log2 = L at *
    have HE := hide e
    clear e
    go_enter Tryd.func16, Tryd.ntmps16
    go_wp2_with (go_at_call 23; refine (HC.out _).mono ?_; rintro e w' ⟨rfl, rfl⟩)
    go_ret
    exact ⟨congrArg (fun x => Ending.returned (Value.int IntKind.i64 x)) (wrap_pow hL), rfl⟩
end Go.Proofs.YtfclmjfbcmjfbabDoor
