/-
  sha.Hex, indenturelaw03.lives: what the calls do.
-/
import Derived.Test.YtlfgbgcjajbckaaDoorPieces
import Derived.Lib.SlBytesConst
namespace Go.Proofs.YtlfgbgcjajbckaaDoor
open Go.RowKit
/-- The digits to base 16. -/
def dgs : List UInt8 := [48, 49, 50, 51, 52, 53, 54, 55, 56, 57, 97, 98, 99, 100, 101, 102]
def hd (n : Nat) : UInt8 := dgs.getD n 0
def hex (l : List UInt8) : List UInt8 := (l.map fun x => [hd (x.toNat / 16), hd (x.toNat % 16)]).flatten
theorem hex_length (l : List UInt8) : (hex l).length = 2 * l.length := by
  induction l with
  | nil => rfl
  | cons x t ih => simp only [hex, List.map_cons, List.flatten_cons, List.length_append] at *; rw [ih]; simp; omega
/-- The digits so far. -/
def hz (l : List UInt8) (i : Nat) : List UInt8 := hex (l.take i) ++ List.replicate (64 - 2 * i) 0
theorem hz_length (l : List UInt8) (hl : l.length = 32) (i : Nat) (hi : i ≤ 32) : (hz l i).length = 64 := by simp [hz, hex_length, hl]; omega
theorem hz_set (l : List UInt8) (hl : l.length = 32) (i : Nat) (hi : i < 32) :
    ((hz l i).set (2 * i) (hd ((gB l i).toNat / 16))).set (2 * i + 1) (hd ((gB l i).toNat % 16)) = hz l (i + 1) := by
  have hl' : (hex (l.take i)).length = 2 * i := by rw [hex_length, List.length_take, hl]; omega
  obtain ⟨q, hq⟩ : ∃ q, 64 - 2 * i = q + 2 := ⟨62 - 2 * i, by omega⟩
  unfold hz
  rw [hq, show 64 - 2 * (i + 1) = q by omega, List.set_append_right _ _ (by omega), List.set_append_right _ _ (by omega), hl', Nat.sub_self, Nat.add_sub_cancel_left, List.take_add_one]
  have hx : l[i]? = some (gB l i) := by simp [gB, List.getD, hl, hi]
  rw [hx]
  simp [hex, List.replicate_succ]
theorem By_getB {l : List UInt8} {j : Nat} (h : j < l.length) : (By l)[j]? = some (.int .u8 ((gB l j).toNat : Int)) := by
  rw [By_get h]; simp [gB, List.getD, h]
theorem dig_index (W : World) (n : Nat) (hn : n < 16) : (Instr.index 9 (.string ⟨#[48, 49, 50, 51, 52, 53, 54, 55, 56, 57, 97, 98, 99, 100, 101, 102]⟩) (.int .u8 (n : Int))).run Tryd.prog W = .ok (.int .u8 ((hd n).toNat : Int)) W := by
  have : ∀ n, n < 16 → (⟨#[48, 49, 50, 51, 52, 53, 54, 55, 56, 57, 97, 98, 99, 100, 101, 102]⟩ : ByteArray)[n]? = some (hd n) := by decide
  simp [Instr.index, asIntOf, run_underlying Tryd.underlying9, this n hn]

theorem slice45z (g : Nat) (W : World) : (Instr.sliceAt 45 (.pointer (some ⟨g, 0, none⟩)) none none none).run Tryd.prog W = .ok (.slice (some ⟨g, 0, none⟩) 64 64) W := by
  simp [Instr.sliceAt, Instr.sureAddr, run_underlying Tryd.underlying45, Instr.sliceBounds, Addr.add_lit]

set_option maxHeartbeats 1000000 in
set_option maxRecDepth 100000 in
theorem hex_any (l : List UInt8) (hl : l.length = 32) (w : World) :
    Calls Tryd.prog 14 #[.agg (By l).toArray] w fun e w' => e = .returned (.string ⟨(hex l).toArray⟩) ∧ Below w.heap.size w w' := by
  obtain ⟨N, HN⟩ : ∃ N, Hid (w.heap.size = N) := ⟨_, rfl⟩
  have r0 : Hid (((w.alloc (.cells (By l).toArray 25 (0, 0))).alloc (.cells (By (List.replicate 64 0)).toArray 45 (0, 0))).rangeAt N 0 (By l)) := (show World.rangeAt _ _ _ _ by rw [← HN.out]; exact ((Blk.new w 25 (By l)).alloc _).range0)
  go_enter Tryd.func14, Tryd.ntmps14
  go_upto_region 2 with fail
  rw [HN.out]
  change Code.wp _ _ _ _ ((w.alloc (.cells (By l).toArray 25 (0, 0))).alloc (.cells (By (List.replicate 64 0)).toArray 45 (0, 0)))
  obtain ⟨w1, hw1⟩ : ∃ x, x = (w.alloc (.cells (By l).toArray 25 (0, 0))).alloc (.cells (By (List.replicate 64 0)).toArray 45 (0, 0)) := ⟨_, rfl⟩
  rw [← hw1] at r0 ⊢
  have T1 : Hid (Blk w1 (N + 1) 45 (By (hz l 0))) := (show Blk _ _ _ _ by
    have := Blk.new (w.alloc (.cells (By l).toArray 25 (0, 0))) 45 (By (List.replicate 64 0))
    rw [show (w.alloc (.cells (By l).toArray 25 (0, 0))).heap.size = N + 1 by simp [HN.out]] at this
    rw [hw1]; exact this)
  have L1 : Hid (Below N w w1) := (show Below _ _ _ by rw [hw1]; exact ((Below.refl _ _).alloc (by rw [HN.out]; exact Nat.le_refl _) _).alloc (by simp [HN.out]) _)
  clear hw1
  obtain ⟨D, HD⟩ : ∃ D, Hid (By l = D) := ⟨_, rfl⟩
  have hdl : D.length = 32 := by rw [← HD.out, By_length, hl]
  rw [HD.out] at r0 ⊢
  go_wp2_with (first
    | (refine wpList_load_mid rfl 25 _ rfl N 0 rfl D _ r0.out Tryd.underlying25 rfl (by rw [hdl]; exact Tryd.size25) ?_)
    | fail)
  go_loopg [7] 33 (fun g x wr => Hid (Below N w wr) ∧ ∃ i : Nat, i ≤ 32 ∧ g + i = 33 ∧ x = .int .i64 i ∧ Hid (Blk wr (N + 1) 45 (By (hz l i))))
  case atStart => exact ⟨L1, 0, by omega, rfl, rfl, T1⟩
  case round =>
    clear T1 L1 r0
    obtain ⟨L1, i, hi, hgk, rfl, T1⟩ := hrel
    have hzl := hz_length l hl i hi
    by_cases hlt : i < 32
    · have q1 : (i : Int) < 32 := by omega
      have hix := index_row Tryd.underlying25 Tryd.underlying5 Tryd.size5 D i _ hlt (by rw [← HD.out]; exact By_getB (by omega))
      have hx := (gB l i).toNat_lt
      have HE : Hid _ := hz_set l hl i hlt
      obtain ⟨a0, H0⟩ : ∃ a0, Hid (2 * i = a0) := ⟨_, rfl⟩
      obtain ⟨a1, H1⟩ : ∃ a1, Hid (2 * i + 1 = a1) := ⟨_, rfl⟩
      have w0 : IntKind.i64.wrap (2 * (i : Int)) = (a0 : Int) := (IntWalk.i64_in _ (by omega)).trans (by have := H0.out; omega)
      have w1' : IntKind.i64.wrap ((a0 : Int) + 1) = (a1 : Int) := (IntWalk.i64_in _ (by have := H0.out; omega)).trans (by have := H0.out; have := H1.out; omega)
      have b0 : (a0 : Int) < 64 := by have := H0.out; omega
      have b1 : (a1 : Int) < 64 := by have := H1.out; omega
      have c0 := T1.out.cell (By_getB (l := hz l i) (j := a0) (by omega))
      have c1 := T1.out.cell (By_getB (l := hz l i) (j := a1) (by omega))
      have z0 := T1.out.frozen a0
      have z1 := T1.out.frozen a1
      have n01 : ¬ a0 = a1 := by have := H0.out; have := H1.out; omega
      have n10 : ¬ a1 = a0 := by have := H0.out; have := H1.out; omega
      rw [H1.out, H0.out] at HE
      obtain ⟨x, HX⟩ : ∃ x, Hid (gB l i = x) := ⟨_, rfl⟩
      rw [HX.out] at hix hx HE
      obtain ⟨p, HP⟩ : ∃ p, Hid (x.toNat / 16 = p) := ⟨_, rfl⟩
      obtain ⟨q, HQ⟩ : ∃ q, Hid (x.toNat % 16 = q) := ⟨_, rfl⟩
      have e1 : (x.toNat : Int) / 16 = (p : Int) := by have := HP.out; omega
      have e2 : bits .and .u8 (x.toNat : Int) 15 = (q : Int) := by
        have h := u8_and_nat x.toNat 15 hx (by decide)
        rw [show ((15 : Nat) : Int) = 15 from rfl] at h
        rw [h, nat_mask4, HQ.out]
      have d1 := fun W => dig_index W p (by have := HP.out; omega)
      have d2 := fun W => dig_index W q (by have := HQ.out; omega)
      rw [HP.out, HQ.out] at HE
      generalize hd p = y0 at *
      generalize hd q = y1 at *
      go_wp2_with fail
      go_region
      go_wp2
      go_roundg (gk - 1)
      case measure => omega
      case rel =>
        have hwr := T1.out.lt
        refine ⟨(L1.out.trans (((But.setCell (N + 1) _ _ _).trans (But.setCell (N + 1) _ _ _)).below (by omega) (by omega))).drew, i + 1, by omega, by omega, by go_num, ?_⟩
        show Blk _ _ _ _
        have := (T1.out.set a0 (.int .u8 (y0.toNat : Int))).set a1 (.int .u8 (y1.toNat : Int))
        rw [By_set, By_set, HE.out] at this
        exact this
    · obtain rfl : i = 32 := by omega
      have HF : Hid (hz l 32 = hex l) := (show _ = _ by rw [hz, List.take_of_length_le (by omega)]; simp)
      have hs1 := slice45z (N + 1)
      have R1 : Rd wr (.slice (some ⟨N + 1, 0, none⟩) 64 64) (hex l) := by
        have := rd_bytes T1.out 64 64 (by omega) (by omega) (by simp [maxLen])
        rwa [List.take_of_length_le (by omega), HF.out] at this
      have hc := R1.conv 22 9 Tryd.underlying22 Tryd.underlying5 Tryd.underlying9
      clear R1
      obtain ⟨L, HL⟩ : ∃ L, Hid (hex l = L) := ⟨_, rfl⟩
      rw [HL.out] at hc
      go_wp2
      go_ret
      refine ⟨by rw [HL.out]; rfl, ?_⟩
      rw [HN.out]
      exact L1.out

def abcHex : List UInt8 := [98, 97, 55, 56, 49, 54, 98, 102, 56, 102, 48, 49, 99, 102, 101, 97, 52, 49, 52, 49, 52, 48, 100, 101, 53, 100, 97, 101, 50, 50, 50, 51, 98, 48, 48, 51, 54, 49, 97, 51, 57, 54, 49, 55, 55, 97, 57, 99, 98, 52, 49, 48, 102, 102, 54, 49, 102, 50, 48, 48, 49, 53, 97, 100]
theorem rd_new {W : World} {L : List UInt8} {fr : Nat × Nat} (hL : L.length ≤ 1000000) : Rd (W.alloc (.cells (By L).toArray 5 fr)) (.slice (some ⟨W.heap.size, 0, none⟩) L.length L.length) L := by
  refine ⟨_, _, rfl, Nat.le_refl _, by simp only [maxLen]; omega, fun h => by simp at h, fun _ => ⟨_, 0, rfl, by simp, fun j u hj => ?_⟩⟩
  rw [cell_of_row _ _ (0 + j) _ 5 _ (heap_alloc_new W _)]
  simpa using hj
theorem hex_abc : hex (sha [97, 98, 99]) = abcHex := by rw [sha_abc]; rfl

set_option maxHeartbeats 1000000 in
set_option maxRecDepth 100000 in
theorem lives_any (w : World) (hT : Tabs w) : Calls Tryd.prog 9 #[] w fun e w' => e = .returned (.bool true) ∧ Below w.heap.size w w' := by
  have HT : Hid (Tabs w) := hT
  clear hT
  have hr : Rd (w.alloc (.cells (By [97, 98, 99]).toArray 5 (3, 4))) (.slice (some ⟨w.heap.size, 0, none⟩) 3 3) [97, 98, 99] := rd_new (by simp)
  have HR : Hid (Rd (w.alloc (.cells (By [97, 98, 99]).toArray 5 (3, 4))) (.slice (some ⟨w.heap.size, 0, none⟩) 3 3) [97, 98, 99]) := hr
  have hb0 : Below w.heap.size w (w.alloc (.cells (By [97, 98, 99]).toArray 5 (3, 4))) := (Below.refl _ _).alloc (Nat.le_refl _) _
  have HB0 : Hid _ := hb0
  clear hr hb0
  have kc := fun (w : World) (C : Array Value) (n c : Nat) => Lib.run_convert_bytes_const (P := Tryd.prog) w 22 5 C n c Tryd.underlying22 Tryd.underlying5
  go_enter Tryd.func9, Tryd.ntmps9
  go_wp2_with fail
  refine (sum_any _ [97, 98, 99] (by simp) _ (HT.out.kept (HB0.out.mono HT.out.size)) HR.out).mono ?_
  rintro e w1 ⟨rfl, hw1⟩
  have L1 : Hid (Below w.heap.size w w1) := HB0.out.trans (hw1.mono (by simp))
  clear hw1 HR HB0
  obtain ⟨L, HL⟩ : ∃ L, Hid (sha [97, 98, 99] = L) := ⟨_, rfl⟩
  rw [HL.out]
  go_wp2_with fail
  refine (hex_any L (by rw [← HL.out]; exact sha_length _) w1).mono ?_
  rintro e w2 ⟨rfl, hw2⟩
  have L2 : Hid (Below w.heap.size w w2) := L1.out.trans (hw2.mono L1.out.size)
  clear hw2
  rw [show hex L = abcHex by rw [← HL.out]; exact hex_abc]
  go_wp2
  go_ret
  exact ⟨rfl, L2.out⟩
end Go.Proofs.YtlfgbgcjajbckaaDoor
