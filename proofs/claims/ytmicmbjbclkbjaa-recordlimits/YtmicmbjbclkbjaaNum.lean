/-
  pack.addNum, pack.Num, pack.addStr, pack.Str, pack.Flag: what the calls do.
-/
import Derived.Test.YtmicmbjbclkbjaaCut
namespace Go.Proofs.Ytmicmbjbclkbjaa
open Go.RowKit

theorem cut_k (n k : Nat) (w : World) (h2 : Hid (n < 256 ^ 8)) (hk : Hid (9 - (enc n).length = k)) :
    Calls Try.prog 56 #[.int .u64 n] w fun e w' => e = .returned (.tuple #[.agg (By (arr n)).toArray, .int .i64 (k : Int)]) ∧ Below w.heap.size w w' := by
  have := cut_any n w h2
  rw [hk.out] at this
  exact this

theorem sliceDigits (g k : Nat) (hk : k ≤ 8) (W : World) : (Instr.sliceAt 83 (.pointer (some ⟨g, 0, none⟩)) (some (.int .i64 (k : Int))) none none).run Try.prog W = .ok (.slice (some ⟨g, k, none⟩) (9 - k) (9 - k)) W := by
  have h9 : (k : Int) ≤ 9 := by omega
  have hn : ¬ 9 = k := by omega
  simp [Instr.sliceAt, Instr.sureAddr, run_underlying Try.underlying83, Instr.sliceBounds, run_sliceBound, h9, hn, Addr.add_lit]

theorem rd_arr {W : World} {g k n : Nat} (hk : Hid (k + (enc n).length = 9)) (hg : W.heap[g]? = some (.cells (By (arr n)).toArray 83 (0, 0))) :
    Rd W (.slice (some ⟨g, k, none⟩) (9 - k) (9 - k)) (enc n) := by
  have hk' := hk.out
  have e : 9 - k = (enc n).length := by omega
  rw [e]
  refine ⟨_, _, rfl, Nat.le_refl _, ?_, fun h => by simp at h, fun _ => ⟨g, k, rfl, (Array.getElem?_eq_some_iff.1 hg).1, fun j u hj => ?_⟩⟩
  · have := enc_length n; simp only [maxLen]; omega
  · rw [cell_of_row W g (k + j) _ 83 _ hg]
    have ea : arr n = List.replicate k 0 ++ enc n := by unfold arr; rw [show 9 - (enc n).length = k from by omega]
    simp only [List.getElem?_toArray]
    rw [ea, By_append, List.getElem?_append_right (by simp [By_length])]
    simpa [By_length] using hj

set_option maxRecDepth 100000 in
set_option maxHeartbeats 400000 in
theorem addNum_any (v : Value) (l : List UInt8) (n B : Nat) (w : World) (h : Own w B v l) (hB : B ≤ w.heap.size) (h2 : Hid (n < 256 ^ 8)) (hl : l.length ≤ 140737488300000) :
    Calls Try.prog 77 #[v, .int .u64 n] w fun e w' => ∃ v', e = .returned v' ∧ Own w' B v' (l ++ enc n) ∧ Below B w w' := by
  obtain ⟨i0, hi, hz0, hz1, hz2⟩ := info_parts Try.info5S
  have hel := enc_length n
  obtain ⟨k, HK⟩ : ∃ k, Hid (9 - (enc n).length = k) := ⟨_, rfl⟩
  have hk8 : (k : Int) ≤ 8 := by have := HK.out; omega
  have hk0 : (0 : Int) ≤ k := by omega
  have hke : k + (enc n).length = 9 := by have := HK.out; omega
  have HKE : Hid (k + (enc n).length = 9) := hke
  clear hel hke
  go_enter Try.func77, Try.ntmps77
  go_wp2_with fail
  refine (cut_k n k _ h2 HK).mono ?_
  rintro e w1 ⟨rfl, hb1⟩
  have hsl := sliceDigits w1.heap.size k (by omega)
  have ho1 := h.kept hb1
  go_wp2_with (first
        | (at_builtin; refine wpList_append_bytes _ rfl (.tmp 12) (.tmp 14) 22 22 rfl B i0 Try.underlying22 hi hz0 hz1 hz2 v l rfl (by exact ho1.kept (below_setRow ((Below.refl _ _).alloc (Nat.le_refl _) _) (Nat.le_refl _) _)) _ (enc n) rfl (by exact (rd_arr HKE (setRow_heap _ _ _ _ _ _ (heap_alloc_new w1 _))).src 22 Try.underlying22) (by have := HKE.out; omega) (by have := hb1.size; simp [World.setRow]; omega) ?_; intro v' w' hown hbel)
        | (refine wpList_store_row rfl 83 (.tmp 5) (.tmp 10) rfl w1.heap.size (By (arr n)).toArray rfl rfl 83 (By (List.replicate 9 0)).toArray (heap_alloc_new w1 _) (by rw [Try.sizeDigits]; simp [By_length, arr_length]) (by simp [By_length, arr_length]) (By_all _) ?_))
  go_ret
  exact ⟨_, rfl, hown, ((hb1.mono hB).trans (below_setRow ((Below.refl _ _).alloc (by have := hb1.size; omega) _) (by have := hb1.size; omega) _)).trans hbel⟩

theorem num_any (v : Value) (l : List UInt8) (n : Nat) (w : World) (h : Rd w v l) (h2 : Hid (n < 256 ^ 8)) (hl : l.length ≤ 140737488300000) :
    Calls Try.prog 69 #[v, .int .u64 n] w fun e w' => ∃ v', e = .returned v' ∧ Own w' w.heap.size v' (l ++ enc n) ∧ Below w.heap.size w w' := by
  go_enter Try.func69, Try.ntmps69
  go_wp2_with fail
  refine (fresh_any v l 9 _ h (by omega)).mono ?_
  rintro e w1 ⟨v1, rfl, ho1, hb1⟩
  go_wp2_with fail
  refine (addNum_any v1 l n w.heap.size _ ho1 hb1.size h2 hl).mono ?_
  rintro e w2 ⟨v2, rfl, ho2, hb2⟩
  go_wp2_with fail
  go_ret
  exact ⟨_, rfl, ho2, hb1.trans hb2⟩

#print axioms num_any

/-- A string's bytes. -/
def sl (s : ByteArray) : List UInt8 := s.data.toList
theorem sl_length (s : ByteArray) : (sl s).length = s.size := by unfold sl; rw [Array.length_toList]; rfl
theorem src_str {P : Program} (w : World) (t : TypeId) (hk : P.underlying t = some .string) (s : ByteArray) : Src P 1 t (.string s) (sl s).length (By (sl s)) w := by
  rw [sl_length]
  exact Src.ofString w hk s

theorem small_pow {n : Nat} (h : n ≤ 140737488300000) : Hid (n < 256 ^ 8) := by
  have : (256 : Nat) ^ 8 = 18446744073709551616 := by decide
  exact (show n < 256 ^ 8 by omega)

/-- A slice of one new byte. -/
theorem rd_one (w : World) (x : UInt8) (o : Obj) (ho : o = .cells #[.int .u8 (x.toNat : Int)] 5 (0, 0)) : Rd (w.alloc o) (.slice (some ⟨w.heap.size, 0, none⟩) 1 1) [x] := by
  subst ho
  refine ⟨_, _, rfl, Nat.le_refl _, by simp [maxLen], fun h => by simp at h, fun _ => ⟨_, _, rfl, by simp, fun j u hj => ?_⟩⟩
  rw [cell_of_row _ _ _ _ 5 (0, 0) (heap_alloc_new w _)]
  simpa [By] using hj

end Go.Proofs.Ytmicmbjbclkbjaa
