/-
  Hashes: held against each other, as slices, loaded, pairs and lists of them.
-/
import Derived.Test.YtooffljimdklfaaDoorPuts
namespace Go.Proofs.YtooffljimdklfaaDoor
open Go.RowKit
theorem Tryd.size24 : (Tryd.prog.info? 24).map (·.size) = some 32 := by kernel_rfl
theorem eq24 (X Y : List UInt8) (hX : X.length = 32) (hY : Y.length = 32) (W : World) : (Op.equalIn 10000 24 (.agg (By X).toArray) (.agg (By Y).toArray)).run Tryd.prog W = .ok (X == Y) W :=
  run_equalIn_bytes W 9998 24 5 32 Tryd.underlying24 Tryd.underlying5 size5w X Y hX hY
/-- A hash that lies in memory, as a slice. -/
theorem slice24 (g off : Nat) (W : World) : (Instr.sliceAt 24 (.pointer (some ⟨g, off, none⟩)) none none none).run Tryd.prog W = .ok (.slice (some ⟨g, off, none⟩) 32 32) W := by
  have hsz := Tryd.size5
  cases hq : Tryd.prog.info? 5 with
  | none => simp [hq] at hsz
  | some i =>
    have hi : i.size = 1 := by simpa [hq] using hsz
    simp [Instr.sliceAt, Instr.slice, Instr.sureAddr, run_underlying Tryd.underlying24, Instr.sliceBounds, Addr.add_mid]
theorem rd_range {w : World} {b off : Nat} {l : List UInt8} (hb : b < w.heap.size) (h : w.rangeAt b off (By l)) (hl : l.length = 32) : Rd w (.slice (some ⟨b, off, none⟩) 32 32) l :=
  ⟨_, _, by rw [hl], by omega, by simp [maxLen], fun h => by simp at h, fun _ => ⟨b, off, rfl, hb, h⟩⟩
theorem rd_blk {w : World} {b : Nat} {l : List UInt8} (h : Blk w b 24 (By l)) (hl : l.length = 32) : Rd w (.slice (some ⟨b, 0, none⟩) 32 32) l := rd_range h.lt h.range0 hl
theorem Tryd.size117 : (Tryd.prog.info? 117).map (·.size) = some 64 := by kernel_rfl
theorem part24 (cs : List Value) (off : Nat) (W : World) : (part 24 cs.toArray off).run Tryd.prog W = .ok (.agg ((cs.drop off).take 32).toArray) W := by
  unfold part
  simp [isAgg, run_underlying Tryd.underlying24]
theorem size24w : ∀ w, (sizeOf 24).run Tryd.prog w = .ok 32 w := fun w => by
  cases hq : Tryd.prog.info? 24 with
  | none => have := Tryd.size24; simp [hq] at this
  | some i =>
    have : i.size = 32 := by have := Tryd.size24; simpa [hq] using this
    simp [sizeOf, typeInfo, hq, this]
theorem eq24' (X Y : List UInt8) (hX : X.length = 32) (hY : Y.length = 32) (W : World) : (Op.equalIn 9999 24 (.agg (By X).toArray) (.agg (By Y).toArray)).run Tryd.prog W = .ok (X == Y) W :=
  run_equalIn_bytes W 9997 24 5 32 Tryd.underlying24 Tryd.underlying5 size5w X Y hX hY
theorem append_beq (x y p q : List UInt8) (h : x.length = p.length) : (x ++ y == p ++ q) = (x == p && y == q) := by
  rw [Bool.eq_iff_iff]
  simp only [beq_iff_eq, Bool.and_eq_true]
  exact ⟨fun e => List.append_inj e h, fun ⟨e, f⟩ => by rw [e, f]⟩
theorem eq117 (x y p q : List UInt8) (hx : x.length = 32) (hy : y.length = 32) (hp : p.length = 32) (hq : q.length = 32) (W : World) :
    (Op.equalIn 10000 117 (.agg (By (x ++ y)).toArray) (.agg (By (p ++ q)).toArray)).run Tryd.prog W = .ok (x ++ y == p ++ q) W := by
  have c0 : ∀ (s t : List UInt8), s.length = 32 → t.length = 32 → ((By (s ++ t)).drop (0 * 32)).take 32 = By s := fun s t h _ => by
    rw [Nat.zero_mul, List.drop_zero, By_append, List.take_append_of_le_length (by rw [By_length]; omega), List.take_of_length_le (by rw [By_length]; omega)]
  have c1 : ∀ (s t : List UInt8), s.length = 32 → t.length = 32 → ((By (s ++ t)).drop (1 * 32)).take 32 = By t := fun s t h h' => by
    rw [Nat.one_mul, By_append, List.drop_append_of_le_length (by rw [By_length]; omega), List.drop_eq_nil_of_le (by rw [By_length]; omega), List.nil_append, List.take_of_length_le (by rw [By_length]; omega)]
  rw [append_beq x y p q (by omega), Op.equalIn]
  simp only [Sem.run_bind, run_underlying Tryd.underlying117, Result.andThen_ok, size24w, Std.Legacy.Range.forIn_eq_forIn_range', Std.Legacy.Range.size, Nat.sub_zero, Nat.add_sub_cancel, Nat.div_one]
  simp only [List.range', List.forIn_cons, List.forIn_nil, Sem.run_bind, part24, c0 x y hx hy, c0 p q hp hq, Result.andThen_ok, eq24' x p hx hp]
  cases h1 : (x == p) with
  | false => simp
  | true => 
    simp only [Bool.not_true, Bool.false_eq_true, if_false, Sem.run_pure, Result.andThen_ok, Sem.run_bind, part24, Nat.zero_add, c1 x y hx hy, c1 p q hp hq, eq24' y q hy hq]
    cases h2 : (y == q) <;> simp
theorem eq23 (X Y : List UInt8) (hX : X.length = 32) (hY : Y.length = 32) (W : World) : (Op.equalIn 10000 23 (.agg (By X).toArray) (.agg (By Y).toArray)).run Tryd.prog W = .ok (X == Y) W :=
  run_equalIn_bytes W 9998 23 5 32 Tryd.underlying23 Tryd.underlying5 size5w X Y hX hY
/-- Two hashes in boxes, and room for the result. -/
theorem boxes {w w1 : World} {N : Nat} {x y : List UInt8} (HN : Hid (w.heap.size = N)) (hw1 : w1 = ((w.alloc (.cells (By x).toArray 24 (0, 0))).alloc (.cells (By y).toArray 24 (0, 0))).alloc (.cells (By (List.replicate 32 0)).toArray 24 (0, 0))) :
    Blk w1 N 24 (By x) ∧ Blk w1 (N + 1) 24 (By y) ∧ Blk w1 (N + 2) 24 (By (List.replicate 32 0)) ∧ Below N w w1 := by
  subst hw1
  have h1 := Blk.new w 24 (By x)
  have h2 := Blk.new (w.alloc (.cells (By x).toArray 24 (0, 0))) 24 (By y)
  have h3 := Blk.new ((w.alloc (.cells (By x).toArray 24 (0, 0))).alloc (.cells (By y).toArray 24 (0, 0))) 24 (By (List.replicate 32 0))
  rw [show (w.alloc (.cells (By x).toArray 24 (0, 0))).heap.size = N + 1 by simp [HN.out]] at h2
  rw [show ((w.alloc (.cells (By x).toArray 24 (0, 0))).alloc (.cells (By y).toArray 24 (0, 0))).heap.size = N + 2 by simp [HN.out]] at h3
  rw [HN.out] at h1
  exact ⟨(h1.alloc _).alloc _, h2.alloc _, h3, (((Below.refl _ _).alloc (by rw [HN.out]; exact Nat.le_refl _) _).alloc (by simp [HN.out]) _).alloc (by simp [HN.out]; omega) _⟩
/-- The slice value v reads as the hashes Hs. -/
def RdH (w : World) (v : Value) (Hs : List (List UInt8)) : Prop :=
  ∃ b cap, v = .slice (some ⟨b, 0, none⟩) Hs.length cap ∧ b < w.heap.size ∧ Hs.length ≤ cap ∧ ∀ j (_ : j < Hs.length), w.rangeAt b (32 * j) (By Hs[j])
theorem RdH.kept (Hs : List (List UInt8)) : ∀ (w w' : World) (v : Value), Gr w w' → RdH w v Hs → RdH w' v Hs := by
  rintro w w' v hg ⟨b, cap, rfl, hb, hc, h⟩
  refine ⟨b, cap, rfl, Nat.lt_of_lt_of_le hb hg.size, hc, fun j hj i u hu => ?_⟩
  exact (Below.cell hg (p := ⟨b, 32 * j + i, none⟩) hb).trans (h j hj i u hu)
/-- A new list of rows, whole. -/
def RdF (w : World) (v : Value) (L : List (List UInt8)) : Prop := RdR w v L ∧ ∃ b, v = .slice (some ⟨b, 0, none⟩) L.length L.length
theorem RdF.kept (L : List (List UInt8)) : ∀ (w w' : World) (v : Value), Gr w w' → RdF w v L → RdF w' v L := fun _ _ _ hg h => ⟨RdR.kept h.1 hg, h.2⟩
theorem Tryd.info24 : (Tryd.prog.info? 24).map (fun i => (i.zero.isSome, i.size)) = some (true, 32) := by kernel_rfl
theorem hashes_new (w : World) (Hs : List (List UInt8)) (h32 : ∀ l ∈ Hs, l.length = 32) (h0 : 0 < Hs.length) (h1 : Hs.length ≤ 1000) :
    ∃ w1, (Instr.buildSlice 25 Hs.length (((Hs.map fun l => Value.agg (By l).toArray).zipIdx 0).map fun x => (x.2, x.1)).toArray).run Tryd.prog w = .ok (.slice (some ⟨w.heap.size, 0, none⟩) Hs.length Hs.length) w1 ∧ Gr w w1 ∧ RdH w1 (.slice (some ⟨w.heap.size, 0, none⟩) Hs.length Hs.length) Hs := by
  have hi := Tryd.info24
  cases hq : Tryd.prog.info? 24 with
  | none => simp [hq] at hi
  | some ie =>
    simp only [hq, Option.map_some, Option.some.injEq, Prod.mk.injEq] at hi
    obtain ⟨hz, hs⟩ := hi
    obtain ⟨z, hz⟩ := Option.isSome_iff_exists.1 hz
    obtain ⟨r, hr, hsz, hk⟩ := Great.fill_dense (s := 32) (by decide) (Hs.map fun l => Value.agg (By l).toArray) 0 ((Array.range (Hs.length * 32)).map (z.cells[· % z.cells.size]!))
      (fun v hv => by
        obtain ⟨l, hl, rfl⟩ := List.mem_map.1 hv
        simp [Value.cells, By_length, h32 l hl]) (by simp)
    refine ⟨_, run_buildSlice w 25 24 Hs.length _ r ie z Tryd.underlying25 hq hz (by rw [hs]; omega) (by rw [hs]; omega) (by rw [hs]; simpa using hr), (Below.refl _ _).alloc (Nat.le_refl _) _, w.heap.size, _, rfl, by simp, Nat.le_refl _, fun j hj i u hu => ?_⟩
    have hil : i < 32 := by
      have := (List.getElem?_eq_some_iff.1 hu).1
      rw [By_length, h32 _ (List.getElem_mem hj)] at this
      exact this
    rw [World.cell?_alloc_mark, hk, if_pos (by simp; omega)]
    rw [show (32 * j + i) / 32 - 0 = j by omega, show (32 * j + i) % 32 = i by omega, List.getElem?_map, List.getElem?_eq_getElem hj]
    simpa [Value.cells] using hu
end Go.Proofs.YtooffljimdklfaaDoor
