/-
  indentureref03.Hex: what the call does.
-/
import Derived.Test.YtlfgbgcjajbckaaDoorParseWalk
namespace Go.Proofs.YtlfgbgcjajbckaaDoor
open Go.RowKit
theorem dig_ext : ∀ n, n < 16 → (⟨#[48, 49, 50, 51, 52, 53, 54, 55, 56, 57, 97, 98, 99, 100, 101, 102]⟩ : ByteArray).extract n (n + 1) = ⟨#[hd n]⟩ := by decide
theorem ba_append (a b : List UInt8) : (⟨a.toArray⟩ : ByteArray) ++ (⟨b.toArray⟩ : ByteArray) = ⟨(a ++ b).toArray⟩ := by
  apply ByteArray.ext
  simp
set_option maxHeartbeats 1000000 in
set_option maxRecDepth 100000 in
theorem refHex_any (l : List UInt8) (hl : l.length = 32) (w : World) :
    Calls Tryd.prog 15 #[.agg (By l).toArray] w fun e w' => e = .returned (.string ⟨(hex l).toArray⟩) ∧ Below w.heap.size w w' := by
  obtain ⟨N, HN⟩ : ∃ N, Hid (w.heap.size = N) := ⟨_, rfl⟩
  obtain ⟨D, HD⟩ : ∃ D, Hid (By l = D) := ⟨_, rfl⟩
  have hdl : D.length = 32 := by rw [← HD.out, By_length, hl]
  rw [HD.out]
  have r0 : Hid ((w.alloc (.cells D.toArray 24 (0, 0))).rangeAt N 0 D) := (show World.rangeAt _ _ _ _ by rw [← HN.out]; exact (Blk.new w 24 D).range0)
  go_enter Tryd.func15, Tryd.ntmps15
  go_upto_region 3 with fail
  rw [HN.out]
  go_wp2_with (first
    | (refine wpList_load_mid rfl 24 _ rfl N 0 rfl D _ r0.out Tryd.underlying24 rfl (by rw [hdl]; exact Tryd.size24) ?_)
    | fail)
  go_loopg [4, 8] 33 (fun g y x wr => Hid (Below N w wr) ∧ ∃ i : Nat, i ≤ 32 ∧ g + i = 33 ∧ x = .int .i64 i ∧ ∃ S : ByteArray, y = .string S ∧ Hid (S = ⟨(hex (l.take i)).toArray⟩))
  case atStart => exact ⟨(Below.refl _ _).alloc (by rw [HN.out]; exact Nat.le_refl _) _, 0, by omega, by omega, rfl, _, rfl, rfl⟩
  case round =>
    clear r0
    obtain ⟨L1, i, hi, hgk, rfl, S, rfl, HS⟩ := hrel
    by_cases hlt : i < 32
    · have q1 : (i : Int) < 32 := by omega
      have hix := index_row Tryd.underlying24 Tryd.underlying5 Tryd.size5 D i _ hlt (by rw [← HD.out]; exact By_getB (by omega))
      have hx := (gB l i).toNat_lt
      have HE : Hid (hex (l.take i) ++ ([hd ((gB l i).toNat / 16)] ++ [hd ((gB l i).toNat % 16)]) = hex (l.take (i + 1))) := (show _ = _ by
        have hx : l[i]? = some (gB l i) := by simp [gB, List.getD, hl, hlt]
        rw [List.take_add_one, hx]
        simp [hex])
      obtain ⟨x, HX⟩ : ∃ x, Hid (gB l i = x) := ⟨_, rfl⟩
      rw [HX.out] at hix hx HE
      obtain ⟨p, HP⟩ : ∃ p, Hid (x.toNat / 16 = p) := ⟨_, rfl⟩
      obtain ⟨q, HQ⟩ : ∃ q, Hid (x.toNat % 16 = q) := ⟨_, rfl⟩
      have e1 : (x.toNat : Int) / 16 = (p : Int) := by have := HP.out; omega
      have e2 : (x.toNat : Int).tmod 16 = (q : Int) := by rw [Int.tmod_eq_emod_of_nonneg (by omega)]; have := HQ.out; omega
      have hp : p < 16 := by have := HP.out; omega
      have hq : q < 16 := by have := HQ.out; omega
      obtain ⟨p1, HP1⟩ : ∃ p1, Hid (p1 = p + 1) := ⟨_, rfl⟩
      obtain ⟨q1', HQ1⟩ : ∃ q1, Hid (q1 = q + 1) := ⟨_, rfl⟩
      have e3 : IntKind.u8.wrap (p : Int) = (p : Int) := by rw [IntKind.wrap_u8']; omega
      have e4 : IntKind.u8.wrap (q : Int) = (q : Int) := by rw [IntKind.wrap_u8']; omega
      have e5 : IntKind.u8.wrap ((p : Int) + 1) = (p1 : Int) := by rw [IntKind.wrap_u8']; have := HP1.out; omega
      have e6 : IntKind.u8.wrap ((q : Int) + 1) = (q1' : Int) := by rw [IntKind.wrap_u8']; have := HQ1.out; omega
      rw [HP.out, HQ.out] at HE
      have p2 : (p : Int) ≤ (p1 : Int) := by have := HP1.out; omega
      have p3 : (p1 : Int) ≤ 16 := by have := HP1.out; omega
      have p4 : (q : Int) ≤ (q1' : Int) := by have := HQ1.out; omega
      have p5 : (q1' : Int) ≤ 16 := by have := HQ1.out; omega
      have hs16 : (⟨#[48, 49, 50, 51, 52, 53, 54, 55, 56, 57, 97, 98, 99, 100, 101, 102]⟩ : ByteArray).size = 16 := rfl
      obtain ⟨T0, HT0⟩ : ∃ T : ByteArray, Hid (T = ⟨[hd p].toArray⟩) := ⟨_, rfl⟩
      obtain ⟨T1, HT1⟩ : ∃ T : ByteArray, Hid (T = ⟨[hd q].toArray⟩) := ⟨_, rfl⟩
      have x0 : (⟨#[48, 49, 50, 51, 52, 53, 54, 55, 56, 57, 97, 98, 99, 100, 101, 102]⟩ : ByteArray).extract p p1 = T0 := by rw [HP1.out, HT0.out]; exact dig_ext p hp
      have x1 : (⟨#[48, 49, 50, 51, 52, 53, 54, 55, 56, 57, 97, 98, 99, 100, 101, 102]⟩ : ByteArray).extract q q1' = T1 := by rw [HQ1.out, HT1.out]; exact dig_ext q hq
      have hSs : S.size ≤ 64 := by rw [HS.out]; simp [ByteArray.size, hex_length]; omega
      have k1 : ¬ 9223372036854775807 < T0.size + T1.size := by rw [HT0.out, HT1.out]; simp [ByteArray.size]
      have k2 : ¬ 9223372036854775807 < S.size + (T0 ++ T1).size := by
        rw [HT0.out, HT1.out, ba_append]
        have : (⟨([hd p] ++ [hd q]).toArray⟩ : ByteArray).size = 2 := by simp [ByteArray.size]
        omega
      have HF : Hid (S ++ (T0 ++ T1) = ⟨(hex (l.take (i + 1))).toArray⟩) := (show _ = _ by rw [HT0.out, HT1.out, HS.out, ba_append, ba_append, HE.out])
      generalize g1 : T0 ++ T1 = T2 at *
      generalize g2 : S ++ T2 = T3 at *
      clear hSs hp hq
      go_wp2_with fail
      refine wp_region_still_lit Tryd.mixed (by kernel_rfl) ?_
      repeat still_step
      refine wpStill_nil ?_
      go_wp2
      go_roundg (gk - 1)
      case measure => omega
      case rel => exact ⟨L1.out.drew, i + 1, by omega, by omega, by go_num, _, rfl, HF⟩
    · obtain rfl : i = 32 := by omega
      go_wp2
      go_ret
      rw [HS.out, List.take_of_length_le (by omega)]
      refine ⟨rfl, ?_⟩
      rw [HN.out]
      exact L1.out
end Go.Proofs.YtlfgbgcjajbckaaDoor
