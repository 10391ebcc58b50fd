/-
  A block of cells: what it reads as, a cell of it set; a world that is as another but for one block; words as cells.
-/
import Derived.Test.YtljmhbchcadnbaaDoorWords
import Derived.Deep.MidRow
namespace Go.Proofs.YtljmhbchcadnbaaDoor
open Go.RowKit

/-- Words as cells. -/
def Ws (l : List W) : List Value := l.map wv
theorem Ws_length (l : List W) : (Ws l).length = l.length := by simp [Ws]
theorem Ws_append (l m : List W) : Ws (l ++ m) = Ws l ++ Ws m := by simp [Ws]
theorem Ws_one (l : List W) : ∀ u ∈ Ws l, u.oneCell' = true := by
  intro u hu
  obtain ⟨_, _, rfl⟩ := List.mem_map.1 hu
  rfl
theorem Ws_get {l : List W} {j : Nat} (h : j < l.length) : (Ws l)[j]? = some (wv (gW l j)) := by
  simp [Ws, h, gW, List.getD]
theorem Ws_set (l : List W) (j : Nat) (x : W) : (Ws l).set j (wv x) = Ws (l.set j x) := by simp [Ws, List.map_set]

/-- Block b of w is of type T and holds the cells cs. -/
def Blk (w : World) (b : Nat) (T : TypeId) (cs : List Value) : Prop := w.heap[b]? = some (.cells cs.toArray T (0, 0))
theorem Blk.lt {w : World} {b : Nat} {T : TypeId} {cs : List Value} (h : Blk w b T cs) : b < w.heap.size := (Array.getElem?_eq_some_iff.1 h).1
theorem Blk.cell {w : World} {b : Nat} {T : TypeId} {cs : List Value} (h : Blk w b T cs) {j : Nat} {v : Value} (hj : cs[j]? = some v) : w.cell? ⟨b, j, none⟩ = some v := by
  unfold Blk at h
  simp [World.cell?, h, hj]
theorem Blk.frozen {w : World} {b : Nat} {T : TypeId} {cs : List Value} (h : Blk w b T cs) (j : Nat) : w.frozen? ⟨b, j, none⟩ = false := by
  unfold Blk at h
  simp [World.frozen?, h]
theorem Blk.set {w : World} {b : Nat} {T : TypeId} {cs : List Value} (h : Blk w b T cs) (j : Nat) (v : Value) : Blk (w.setCell ⟨b, j, none⟩ v) b T (cs.set j v) := by
  unfold Blk at *
  simp [World.setCell, Array.getElem?_modify, h]
theorem Blk.set_other {w : World} {b : Nat} {T : TypeId} {cs : List Value} (h : Blk w b T cs) {c : Nat} (hc : b ≠ c) (j : Nat) (v : Value) : Blk (w.setCell ⟨c, j, none⟩ v) b T cs := by
  unfold Blk at *
  rw [Below.heap_setCell _ _ _ _ hc]; exact h
theorem Blk.new (w : World) (T : TypeId) (cs : List Value) : Blk (w.alloc (.cells cs.toArray T (0, 0))) w.heap.size T cs := by
  show (w.heap.push _)[w.heap.size]? = _
  simp
theorem Blk.range {w : World} {b : Nat} {T : TypeId} {cs : List Value} (h : Blk w b T cs) (o : Nat) (ds : List Value) (hd : ∀ j v, ds[j]? = some v → cs[o + j]? = some v) : w.rangeAt b o ds :=
  fun j v hj => h.cell (hd j v hj)
theorem Blk.range0 {w : World} {b : Nat} {T : TypeId} {cs : List Value} (h : Blk w b T cs) : w.rangeAt b 0 cs := h.range 0 cs (fun j v hj => by simpa using hj)
theorem Blk.there {w : World} {b : Nat} {T : TypeId} {cs : List Value} (h : Blk w b T cs) (o n : Nat) (hn : o + n ≤ cs.length) : w.there b o n := fun j hj =>
  ⟨by rw [h.cell (v := cs[o + j]'(by omega)) (by simp)]; rfl, h.frozen _⟩

/-- cs, from place o on written over by ds. -/
def over (cs : List Value) (o : Nat) (ds : List Value) : List Value := cs.take o ++ ds ++ cs.drop (o + ds.length)
theorem over_length {cs : List Value} {o : Nat} {ds : List Value} (h : o + ds.length ≤ cs.length) : (over cs o ds).length = cs.length := by simp [over]; omega
theorem over_cons (cs : List Value) (o : Nat) (d : Value) (ds : List Value) (h : o + (d :: ds).length ≤ cs.length) : over (cs.set o d) (o + 1) ds = over cs o (d :: ds) := by
  have h' : o < cs.length := by simp at h; omega
  unfold over
  have e1 : (cs.set o d).take (o + 1) = cs.take o ++ [d] := by
    rw [List.set_eq_take_append_cons_drop, if_pos h', List.take_append, List.take_of_length_le (by simp; omega)]
    have : o + 1 - (cs.take o).length = 1 := by simp; omega
    rw [this]
    rfl
  have e2 : (cs.set o d).drop (o + 1 + ds.length) = cs.drop (o + (d :: ds).length) := by
    rw [List.drop_set, if_pos (by omega)]
    congr 1
    simp; omega
  rw [e1, e2]
  simp
theorem Blk.over {b : Nat} {T : TypeId} : ∀ (ds : List Value) {w : World} {cs : List Value} (_ : Blk w b T cs) (o : Nat) (_ : o + ds.length ≤ cs.length), Blk (w.setCells b o ds) b T (over cs o ds)
  | [], w, cs, h, o, _ => by simpa [World.setCells, Go.Proofs.YtljmhbchcadnbaaDoor.over] using h
  | d :: ds, w, cs, h, o, hl => by
    rw [World.setCells, ← over_cons cs o d ds hl]
    exact Blk.over ds (h.set o d) (o + 1) (by simp at hl ⊢; omega)

/-- As w but for block b; new blocks may be there. -/
structure But (b : Nat) (w w' : World) : Prop where
  os : w'.os = w.os
  tape : w'.tape = w.tape
  output : w'.output = w.output
  size : w.heap.size ≤ w'.heap.size
  block : ∀ k, k < w.heap.size → k ≠ b → w'.heap[k]? = w.heap[k]?
theorem But.refl (b : Nat) (w : World) : But b w w := ⟨rfl, rfl, rfl, Nat.le_refl _, fun _ _ _ => rfl⟩
theorem But.trans {b : Nat} {x y z : World} (h : But b x y) (k : But b y z) : But b x z :=
  ⟨k.os.trans h.os, k.tape.trans h.tape, k.output.trans h.output, Nat.le_trans h.size k.size, fun i hi hn => (k.block i (Nat.lt_of_lt_of_le hi h.size) hn).trans (h.block i hi hn)⟩
theorem But.of_below {b : Nat} {w w' : World} (h : Below w.heap.size w w') : But b w w' := ⟨h.os, h.tape, h.output, h.size, fun k hk _ => h.block k hk⟩
theorem But.below {b : Nat} {w w' : World} (h : But b w w') {B : Nat} (hB : B ≤ b) (hs : B ≤ w.heap.size) : Below B w w' :=
  ⟨h.os, h.tape, h.output, h.size, fun k hk => h.block k (by omega) (by omega)⟩
theorem But.drewN (b n : Nat) (w : World) : But b w (w.drewN n) := ⟨rfl, rfl, rfl, Nat.le_refl _, fun _ _ _ => rfl⟩
theorem But.drew (b : Nat) (w : World) : But b w w.drew := ⟨rfl, rfl, rfl, Nat.le_refl _, fun _ _ _ => rfl⟩
theorem But.setCell (b : Nat) (w : World) (j : Nat) (v : Value) : But b w (w.setCell ⟨b, j, none⟩ v) :=
  ⟨rfl, rfl, rfl, by simp [World.setCell], fun k _ hn => Below.heap_setCell _ _ _ _ hn⟩
theorem But.setCells (b : Nat) : ∀ (ds : List Value) (o : Nat) (w : World), But b w (w.setCells b o ds)
  | [], _, w => But.refl b w
  | d :: ds, o, w => by
    rw [World.setCells]
    exact (But.setCell b w o d).trans (But.setCells b ds (o + 1) _)
theorem But.alloc (b : Nat) (w : World) (o : Obj) : But b w (w.alloc o) :=
  ⟨rfl, rfl, rfl, by simp, fun k hk _ => Below.heap_alloc _ _ _ hk⟩
theorem Blk.but {w w' : World} {b : Nat} {T : TypeId} {cs : List Value} (h : Blk w b T cs) {c : Nat} (hb : But c w w') (hc : b ≠ c) : Blk w' b T cs := (hb.block b h.lt hc).trans h
theorem Blk.kept {w w' : World} {b : Nat} {T : TypeId} {cs : List Value} (h : Blk w b T cs) (hb : Below w.heap.size w w') : Blk w' b T cs := (hb.block b h.lt).trans h
theorem Blk.drewN {w : World} {b : Nat} {T : TypeId} {cs : List Value} (h : Blk w b T cs) (n : Nat) : Blk (w.drewN n) b T cs := h
theorem Blk.drew {w : World} {b : Nat} {T : TypeId} {cs : List Value} (h : Blk w b T cs) : Blk w.drew b T cs := h
theorem Blk.alloc {w : World} {b : Nat} {T : TypeId} {cs : List Value} (h : Blk w b T cs) (o : Obj) : Blk (w.alloc o) b T cs := h.but (c := w.heap.size) (But.alloc _ w o) (Nat.ne_of_lt h.lt)

/-- The slice v lies in no cell of block b. -/
def Off (b : Nat) (v : Value) : Prop := ∀ c off n cap, v = .slice (some ⟨c, off, none⟩) n cap → 0 < n → c ≠ b
theorem Rd.but {w w' : World} {v : Value} {l : List UInt8} {b : Nat} (h : Rd w v l) (hb : But b w w') (ho : Off b v) : Rd w' v l := by
  obtain ⟨a, cap, rfl, h1, h2, h3, h4⟩ := h
  refine ⟨a, cap, rfl, h1, h2, h3, fun hl => ?_⟩
  obtain ⟨c, off, rfl, hlt, hc⟩ := h4 hl
  have hn := ho c off _ _ rfl hl
  refine ⟨c, off, rfl, Nat.lt_of_lt_of_le hlt hb.size, fun j u hj => ?_⟩
  rw [← hc j u hj]
  simp only [World.cell?]
  rw [hb.block c hlt hn]
end Go.Proofs.YtljmhbchcadnbaaDoor
