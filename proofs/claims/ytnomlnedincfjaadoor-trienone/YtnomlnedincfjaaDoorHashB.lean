/-
  Hashes: held against each other, as slices, loaded, pairs and lists of them.
-/
import Derived.Test.YtnomlnedincfjaaDoorPuts
namespace Go.Proofs.YtnomlnedincfjaaDoor
open Go.RowKit
theorem Tryd.size24 : (Tryd.prog.info? 24).map (·.size) = some 32 := by kernel_rfl
theorem eq24 (X Y : List UInt8) (hX : X.length = 32) (hY : Y.length = 32) (W : World) : (Op.equalIn 10000 24 (.agg (By X).toArray) (.agg (By Y).toArray)).run Tryd.prog W = .ok (X == Y) W :=
  run_equalIn_bytes W 9998 24 5 32 Tryd.underlying24 Tryd.underlying5 size5w X Y hX hY
/-- A hash that lies in memory, as a slice. -/
theorem slice24 (g off : Nat) (W : World) : (Instr.sliceAt 24 (.pointer (some ⟨g, off, none⟩)) none none none).run Tryd.prog W = .ok (.slice (some ⟨g, off, none⟩) 32 32) W := by
  have hsz := Tryd.size5
  cases hq : Tryd.prog.info? 5 with
  | none => simp [hq] at hsz
  | some i =>
    have hi : i.size = 1 := by simpa [hq] using hsz
    simp [Instr.sliceAt, Instr.slice, Instr.sureAddr, run_underlying Tryd.underlying24, Instr.sliceBounds, Addr.add_mid]
theorem rd_range {w : World} {b off : Nat} {l : List UInt8} (hb : b < w.heap.size) (h : w.rangeAt b off (By l)) (hl : l.length = 32) : Rd w (.slice (some ⟨b, off, none⟩) 32 32) l :=
  ⟨_, _, by rw [hl], by omega, by simp [maxLen], fun h => by simp at h, fun _ => ⟨b, off, rfl, hb, h⟩⟩
theorem rd_blk {w : World} {b : Nat} {l : List UInt8} (h : Blk w b 24 (By l)) (hl : l.length = 32) : Rd w (.slice (some ⟨b, 0, none⟩) 32 32) l := rd_range h.lt h.range0 hl
theorem part24 (cs : List Value) (off : Nat) (W : World) : (part 24 cs.toArray off).run Tryd.prog W = .ok (.agg ((cs.drop off).take 32).toArray) W := by
  unfold part
  simp [isAgg, run_underlying Tryd.underlying24]
theorem size24w : ∀ w, (sizeOf 24).run Tryd.prog w = .ok 32 w := fun w => by
  cases hq : Tryd.prog.info? 24 with
  | none => have := Tryd.size24; simp [hq] at this
  | some i =>
    have : i.size = 32 := by have := Tryd.size24; simpa [hq] using this
    simp [sizeOf, typeInfo, hq, this]
theorem eq24' (X Y : List UInt8) (hX : X.length = 32) (hY : Y.length = 32) (W : World) : (Op.equalIn 9999 24 (.agg (By X).toArray) (.agg (By Y).toArray)).run Tryd.prog W = .ok (X == Y) W :=
  run_equalIn_bytes W 9997 24 5 32 Tryd.underlying24 Tryd.underlying5 size5w X Y hX hY
theorem append_beq (x y p q : List UInt8) (h : x.length = p.length) : (x ++ y == p ++ q) = (x == p && y == q) := by
  rw [Bool.eq_iff_iff]
  simp only [beq_iff_eq, Bool.and_eq_true]
  exact ⟨fun e => List.append_inj e h, fun ⟨e, f⟩ => by rw [e, f]⟩
theorem eq23 (X Y : List UInt8) (hX : X.length = 32) (hY : Y.length = 32) (W : World) : (Op.equalIn 10000 23 (.agg (By X).toArray) (.agg (By Y).toArray)).run Tryd.prog W = .ok (X == Y) W :=
  run_equalIn_bytes W 9998 23 5 32 Tryd.underlying23 Tryd.underlying5 size5w X Y hX hY
/-- Two hashes in boxes, and room for the result. -/
theorem boxes {w w1 : World} {N : Nat} {x y : List UInt8} (HN : Hid (w.heap.size = N)) (hw1 : w1 = ((w.alloc (.cells (By x).toArray 24 (0, 0))).alloc (.cells (By y).toArray 24 (0, 0))).alloc (.cells (By (List.replicate 32 0)).toArray 24 (0, 0))) :
    Blk w1 N 24 (By x) ∧ Blk w1 (N + 1) 24 (By y) ∧ Blk w1 (N + 2) 24 (By (List.replicate 32 0)) ∧ Below N w w1 := by
  subst hw1
  have h1 := Blk.new w 24 (By x)
  have h2 := Blk.new (w.alloc (.cells (By x).toArray 24 (0, 0))) 24 (By y)
  have h3 := Blk.new ((w.alloc (.cells (By x).toArray 24 (0, 0))).alloc (.cells (By y).toArray 24 (0, 0))) 24 (By (List.replicate 32 0))
  rw [show (w.alloc (.cells (By x).toArray 24 (0, 0))).heap.size = N + 1 by simp [HN.out]] at h2
  rw [show ((w.alloc (.cells (By x).toArray 24 (0, 0))).alloc (.cells (By y).toArray 24 (0, 0))).heap.size = N + 2 by simp [HN.out]] at h3
  rw [HN.out] at h1
  exact ⟨(h1.alloc _).alloc _, h2.alloc _, h3, (((Below.refl _ _).alloc (by rw [HN.out]; exact Nat.le_refl _) _).alloc (by simp [HN.out]) _).alloc (by simp [HN.out]; omega) _⟩
/-- The slice value v reads as the hashes Hs. -/
def RdH (w : World) (v : Value) (Hs : List (List UInt8)) : Prop :=
  ∃ b cap, v = .slice (some ⟨b, 0, none⟩) Hs.length cap ∧ b < w.heap.size ∧ Hs.length ≤ cap ∧ ∀ j (_ : j < Hs.length), w.rangeAt b (32 * j) (By Hs[j])
theorem RdH.kept (Hs : List (List UInt8)) : ∀ (w w' : World) (v : Value), Gr w w' → RdH w v Hs → RdH w' v Hs := by
  rintro w w' v hg ⟨b, cap, rfl, hb, hc, h⟩
  refine ⟨b, cap, rfl, Nat.lt_of_lt_of_le hb hg.size, hc, fun j hj i u hu => ?_⟩
  exact (Below.cell hg (p := ⟨b, 32 * j + i, none⟩) hb).trans (h j hj i u hu)
/-- A new list of rows, whole. -/
def RdF (w : World) (v : Value) (L : List (List UInt8)) : Prop := RdR w v L ∧ ∃ b, v = .slice (some ⟨b, 0, none⟩) L.length L.length
theorem RdF.kept (L : List (List UInt8)) : ∀ (w w' : World) (v : Value), Gr w w' → RdF w v L → RdF w' v L := fun _ _ _ hg h => ⟨RdR.kept h.1 hg, h.2⟩
theorem Tryd.info24 : (Tryd.prog.info? 24).map (fun i => (i.zero.isSome, i.size)) = some (true, 32) := by kernel_rfl
end Go.Proofs.YtnomlnedincfjaaDoor
