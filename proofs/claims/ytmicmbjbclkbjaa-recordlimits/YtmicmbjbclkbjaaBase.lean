/-
  Laws of no package: blocks, parts of slices, what the call owns, rows of cells that are built, loaded and stored.
-/
import Derived.Test.YtmicmbjbclkbjaaMixed
import Derived.Test.YtmicmbjbclkbjaaKit
import Derived.Deep.MidRow
import Derived.Deep.WholeRow
import Derived.Deep.Cut
import Derived.Deep.LoopGhost
import Derived.BigRegion
import Derived.BigQuiet
import Derived.Deep.QuietTactic
import Derived.StillTailTactics
import Derived.Laws.CopyOwn
import Derived.OwnWalk
import Derived.Lib.QuietBelow
import Derived.Stop.BytesEq
import Derived.Great.BuildSlice
import Derived.Lib.SlBytesConst
namespace Go.Proofs.Ytmicmbjbclkbjaa
open Go.RowKit
def gB (b : List UInt8) (i : Nat) : UInt8 := b.getD i 0
/-- Block b of w is of type T and holds the cells cs. -/
def Blk (w : World) (b : Nat) (T : TypeId) (cs : List Value) : Prop := w.heap[b]? = some (.cells cs.toArray T (0, 0))
theorem Blk.lt {w : World} {b : Nat} {T : TypeId} {cs : List Value} (h : Blk w b T cs) : b < w.heap.size := (Array.getElem?_eq_some_iff.1 h).1
theorem Blk.cell {w : World} {b : Nat} {T : TypeId} {cs : List Value} (h : Blk w b T cs) {j : Nat} {v : Value} (hj : cs[j]? = some v) : w.cell? ⟨b, j, none⟩ = some v := by
  unfold Blk at h
  simp [World.cell?, h, hj]
theorem Blk.frozen {w : World} {b : Nat} {T : TypeId} {cs : List Value} (h : Blk w b T cs) (j : Nat) : w.frozen? ⟨b, j, none⟩ = false := by
  unfold Blk at h
  simp [World.frozen?, h]
theorem Blk.set {w : World} {b : Nat} {T : TypeId} {cs : List Value} (h : Blk w b T cs) (j : Nat) (v : Value) : Blk (w.setCell ⟨b, j, none⟩ v) b T (cs.set j v) := by
  unfold Blk at *
  simp [World.setCell, Array.getElem?_modify, h]
theorem Blk.set_other {w : World} {b : Nat} {T : TypeId} {cs : List Value} (h : Blk w b T cs) {c : Nat} (hc : b ≠ c) (j : Nat) (v : Value) : Blk (w.setCell ⟨c, j, none⟩ v) b T cs := by
  unfold Blk at *
  rw [Below.heap_setCell _ _ _ _ hc]; exact h
theorem Blk.new (w : World) (T : TypeId) (cs : List Value) : Blk (w.alloc (.cells cs.toArray T (0, 0))) w.heap.size T cs := by
  show (w.heap.push _)[w.heap.size]? = _
  simp
theorem Blk.range {w : World} {b : Nat} {T : TypeId} {cs : List Value} (h : Blk w b T cs) (o : Nat) (ds : List Value) (hd : ∀ j v, ds[j]? = some v → cs[o + j]? = some v) : w.rangeAt b o ds :=
  fun j v hj => h.cell (hd j v hj)
theorem Blk.range0 {w : World} {b : Nat} {T : TypeId} {cs : List Value} (h : Blk w b T cs) : w.rangeAt b 0 cs := h.range 0 cs (fun j v hj => by simpa using hj)
theorem Blk.there {w : World} {b : Nat} {T : TypeId} {cs : List Value} (h : Blk w b T cs) (o n : Nat) (hn : o + n ≤ cs.length) : w.there b o n := fun j hj =>
  ⟨by rw [h.cell (v := cs[o + j]'(by omega)) (by simp)]; rfl, h.frozen _⟩
/-- cs, from place o on written over by ds. -/
def over (cs : List Value) (o : Nat) (ds : List Value) : List Value := cs.take o ++ ds ++ cs.drop (o + ds.length)
theorem over_length {cs : List Value} {o : Nat} {ds : List Value} (h : o + ds.length ≤ cs.length) : (over cs o ds).length = cs.length := by simp [over]; omega
theorem over_cons (cs : List Value) (o : Nat) (d : Value) (ds : List Value) (h : o + (d :: ds).length ≤ cs.length) : over (cs.set o d) (o + 1) ds = over cs o (d :: ds) := by
  have h' : o < cs.length := by simp at h; omega
  unfold over
  have e1 : (cs.set o d).take (o + 1) = cs.take o ++ [d] := by
    rw [List.set_eq_take_append_cons_drop, if_pos h', List.take_append, List.take_of_length_le (by simp; omega)]
    have : o + 1 - (cs.take o).length = 1 := by simp; omega
    rw [this]
    rfl
  have e2 : (cs.set o d).drop (o + 1 + ds.length) = cs.drop (o + (d :: ds).length) := by
    rw [List.drop_set, if_pos (by omega)]
    congr 1
    simp; omega
  rw [e1, e2]
  simp
theorem Blk.over {b : Nat} {T : TypeId} : ∀ (ds : List Value) {w : World} {cs : List Value} (_ : Blk w b T cs) (o : Nat) (_ : o + ds.length ≤ cs.length), Blk (w.setCells b o ds) b T (over cs o ds)
  | [], w, cs, h, o, _ => by simpa [World.setCells, Go.Proofs.Ytmicmbjbclkbjaa.over] using h
  | d :: ds, w, cs, h, o, hl => by
    rw [World.setCells, ← over_cons cs o d ds hl]
    exact Blk.over ds (h.set o d) (o + 1) (by simp at hl ⊢; omega)
/-- As w but for block b; new blocks may be there. -/
structure But (b : Nat) (w w' : World) : Prop where
  os : w'.os = w.os
  tape : w'.tape = w.tape
  output : w'.output = w.output
  size : w.heap.size ≤ w'.heap.size
  block : ∀ k, k < w.heap.size → k ≠ b → w'.heap[k]? = w.heap[k]?
theorem But.refl (b : Nat) (w : World) : But b w w := ⟨rfl, rfl, rfl, Nat.le_refl _, fun _ _ _ => rfl⟩
theorem But.trans {b : Nat} {x y z : World} (h : But b x y) (k : But b y z) : But b x z :=
  ⟨k.os.trans h.os, k.tape.trans h.tape, k.output.trans h.output, Nat.le_trans h.size k.size, fun i hi hn => (k.block i (Nat.lt_of_lt_of_le hi h.size) hn).trans (h.block i hi hn)⟩
theorem But.of_below {b : Nat} {w w' : World} (h : Below w.heap.size w w') : But b w w' := ⟨h.os, h.tape, h.output, h.size, fun k hk _ => h.block k hk⟩
theorem But.below {b : Nat} {w w' : World} (h : But b w w') {B : Nat} (hB : B ≤ b) (hs : B ≤ w.heap.size) : Below B w w' :=
  ⟨h.os, h.tape, h.output, h.size, fun k hk => h.block k (by omega) (by omega)⟩
theorem But.drewN (b n : Nat) (w : World) : But b w (w.drewN n) := ⟨rfl, rfl, rfl, Nat.le_refl _, fun _ _ _ => rfl⟩
theorem But.drew (b : Nat) (w : World) : But b w w.drew := ⟨rfl, rfl, rfl, Nat.le_refl _, fun _ _ _ => rfl⟩
theorem But.setCell (b : Nat) (w : World) (j : Nat) (v : Value) : But b w (w.setCell ⟨b, j, none⟩ v) :=
  ⟨rfl, rfl, rfl, by simp [World.setCell], fun k _ hn => Below.heap_setCell _ _ _ _ hn⟩
theorem But.setCells (b : Nat) : ∀ (ds : List Value) (o : Nat) (w : World), But b w (w.setCells b o ds)
  | [], _, w => But.refl b w
  | d :: ds, o, w => by
    rw [World.setCells]
    exact (But.setCell b w o d).trans (But.setCells b ds (o + 1) _)
theorem But.alloc (b : Nat) (w : World) (o : Obj) : But b w (w.alloc o) :=
  ⟨rfl, rfl, rfl, by simp, fun k hk _ => Below.heap_alloc _ _ _ hk⟩
theorem Blk.but {w w' : World} {b : Nat} {T : TypeId} {cs : List Value} (h : Blk w b T cs) {c : Nat} (hb : But c w w') (hc : b ≠ c) : Blk w' b T cs := (hb.block b h.lt hc).trans h
theorem Blk.kept {w w' : World} {b : Nat} {T : TypeId} {cs : List Value} (h : Blk w b T cs) (hb : Below w.heap.size w w') : Blk w' b T cs := (hb.block b h.lt).trans h
theorem Blk.drewN {w : World} {b : Nat} {T : TypeId} {cs : List Value} (h : Blk w b T cs) (n : Nat) : Blk (w.drewN n) b T cs := h
theorem Blk.drew {w : World} {b : Nat} {T : TypeId} {cs : List Value} (h : Blk w b T cs) : Blk w.drew b T cs := h
theorem Blk.alloc {w : World} {b : Nat} {T : TypeId} {cs : List Value} (h : Blk w b T cs) (o : Obj) : Blk (w.alloc o) b T cs := h.but (c := w.heap.size) (But.alloc _ w o) (Nat.ne_of_lt h.lt)
/-- The slice v lies in no cell of block b. -/
def Off (b : Nat) (v : Value) : Prop := ∀ c off n cap, v = .slice (some ⟨c, off, none⟩) n cap → 0 < n → c ≠ b
theorem Rd.but {w w' : World} {v : Value} {l : List UInt8} {b : Nat} (h : Rd w v l) (hb : But b w w') (ho : Off b v) : Rd w' v l := by
  obtain ⟨a, cap, rfl, h1, h2, h3, h4⟩ := h
  refine ⟨a, cap, rfl, h1, h2, h3, fun hl => ?_⟩
  obtain ⟨c, off, rfl, hlt, hc⟩ := h4 hl
  have hn := ho c off _ _ rfl hl
  refine ⟨c, off, rfl, Nat.lt_of_lt_of_le hlt hb.size, fun j u hj => ?_⟩
  rw [← hc j u hj]
  simp only [World.cell?]
  rw [hb.block c hlt hn]
theorem over_all (cs ds : List Value) (h : cs.length = ds.length) : over cs 0 ds = ds := by
  simp [over, h]
/-- A whole array or struct into the block that was made last. -/
theorem wpList_store_new {P : Program} {ops : Array Oper} {rest : List Oper} {op : Oper} {a : Act} {Q : Exit → Act → World → Prop} (hgd : op.guard = none) (ty : TypeId) (x y : Operand) (ho : op.op = .store ty x y)
    (w0 : World) (c cs : Array Value) (g : Nat) (hx : a.eval x = .pointer (some ⟨g, 0, none⟩)) (hy : a.eval y = .agg cs) (hg : g = w0.heap.size)
    (hi : (P.info? ty).map (·.size) = some cs.size) (hc : c.size = cs.size) (h1 : cs.all (·.oneCell') = true)
    (h : wpList P ops Q rest (a.put op.dst undef) (w0.alloc (.cells cs ty))) : wpList P ops Q (op :: rest) a (w0.alloc (.cells c ty)) := by
  subst hg
  refine wpList_plain hgd fun K hK => ?_
  have hK' := hK _ _ h
  unfold Oper.wp execOp
  simp only [ho, hx, hy, Sem.run_bind, run_storeAt_new w0 ty c cs hi hc h1, Result.andThen_ok]
  exact hK'
theorem all_one {l : List Value} (h : ∀ v ∈ l, v.oneCell' = true) : l.toArray.all (·.oneCell') = true := all_oneCell_toArray h
theorem Try.size5 : (Try.prog.info? 5).map (·.size) = some 1 := by kernel_rfl
/-- copy, of bytes, into the middle of a block. -/
theorem wpList_copy_bytes {P : Program} {w : World} {ops : Array Oper} {rest : List Oper} {o : Oper} {a : Act} {Q : Exit → Act → World → Prop} (hgd : o.guard = none) (d s : Operand) (dT sT : TypeId)
    (ho : o.op = .call { callee := .builtin .copy, args := #[d, s], argTypes := #[dT, sT] }) (elem : TypeId) (hu : P.underlying dT = some (.slice elem)) (hsz : (P.info? elem).map (·.size) = some 1)
    (b off dLen dCap : Nat) (v : Value) (l : List UInt8) (hd : a.eval d = .slice (some ⟨b, off, none⟩) dLen dCap) (hs : a.eval s = v) (hr : Rd w v l) (X : List UInt8) (c : Nat) (hX : l.take dLen = X) (hXc : X.length = c)
    (T : TypeId) (cs : List Value) (hB : Blk w b T cs) (hfit : off + dLen ≤ cs.length)
    (h : wpList P ops Q rest (a.put o.dst (goInt c)) (w.setCells b off (By X))) : wpList P ops Q (o :: rest) a w := by
  subst hX hXc
  obtain ⟨ad, cap, rfl, h1, h2, h3, h4⟩ := hr
  by_cases h0 : Nat.min l.length dLen = 0
  · have e : l.take dLen = [] := List.eq_nil_of_length_eq_zero (by rw [List.length_take, Nat.min_comm]; exact h0)
    rw [e] at h
    exact wpList_copy_nothing hgd d s dT sT ho elem hu hsz _ _ _ _ _ _ hd hs h0 h
  · have hp : 0 < l.length := by
      rcases Nat.eq_zero_or_pos l.length with h | h
      · rw [h] at h0; exact absurd (Nat.zero_min _) h0
      · exact h
    obtain ⟨c, of, rfl, hlt, hc⟩ := h4 hp
    have hlen : (By (l.take dLen)).length = Nat.min l.length dLen := by rw [By_length, List.length_take, Nat.min_comm]
    have hmin : Nat.min l.length dLen ≤ dLen := Nat.min_le_right _ _
    refine wpList_plain hgd fun K hK => ?_
    have hrun := run_copy_cells (P := P) w dT sT o.type elem b off dLen dCap ⟨c, of, none⟩ l.length cap (By (l.take dLen)) hu hsz hlen
      (fun j v hj => by
        rw [Addr.add_mid]
        refine hc j v ?_
        have hj' : j < (l.take dLen).length := by have := (List.getElem?_eq_some_iff.1 hj).1; rwa [By_length] at this
        rw [← hj, By, By, List.map_take, List.getElem?_take_of_lt (by rw [List.length_take] at hj'; omega)])
      (fun j hj => by rw [hB.cell (v := cs[off + j]'(by omega)) (by simp)]; rfl) (fun j _ => hB.frozen _) (By_one _)
    unfold Oper.wp
    simp [execOp, ho, resolve, invoke, builtin, hd, hs, hrun, Result.andThen]
    have := hK _ _ h
    rw [By_length]
    exact this
/-- A slice from place c on. -/
theorem slice_from {P : Program} (hu : P.underlying 22 = some (.slice 5)) (hsz : (P.info? 5).map (·.size) = some 1) (a : Option Addr) (n cap c : Nat) (hc : c ≤ n) (hn : n ≤ cap) :
    ∃ a', (∀ W, (Instr.sliceAt 22 (.slice a n cap) (some (.int .i64 (c : Int))) none none).run P W = .ok (.slice a' (n - c) (cap - c)) W) ∧
      (∀ w l, Rd w (.slice a n cap) l → Rd w (.slice a' (n - c) (cap - c)) (l.drop c)) ∧ (∀ w l b, Rd w (.slice a n cap) l → Off b (.slice a n cap) → Off b (.slice a' (n - c) (cap - c))) := by
  have hcn : (c : Int) ≤ (n : Int) := by omega
  refine ⟨if cap = c then a else a.map (·.add c), fun W => ?_, fun w l hr => ?_, fun w l b hr ho => ?_⟩
  · cases hq : P.info? 5 with
    | none => simp [hq] at hsz
    | some i =>
      have hi : i.size = 1 := by simpa [hq] using hsz
      simp [Instr.sliceAt, Instr.slice, run_underlying hu, Instr.sliceBounds, run_sliceBound, hcn, sizeOf, typeInfo, hq, hi]
  · obtain ⟨a0, cap0, e, h1, h2, h3, h4⟩ := hr
    simp only [Value.slice.injEq] at e
    obtain ⟨rfl, rfl, rfl⟩ := e
    refine ⟨if cap = c then a else a.map (·.add c), cap - c, by simp, by simp; omega, by omega, fun h => ?_, fun hp => ?_⟩
    · by_cases hcc : cap = c
      · omega
      · rw [if_neg hcc] at h
        have := h3 (by simpa using h)
        omega
    · simp at hp
      obtain ⟨b, off, rfl, hlt, hcell⟩ := h4 (by omega)
      rw [if_neg (by omega)]
      refine ⟨b, off + c, by simp [Addr.add_mid], hlt, fun j u hj => ?_⟩
      rw [Nat.add_assoc]
      refine hcell (c + j) u ?_
      rw [← hj]
      simp [By, List.getElem?_drop]
  · intro b' off' n' cap' e hp
    simp only [Value.slice.injEq] at e
    obtain ⟨e1, rfl, rfl⟩ := e
    obtain ⟨a0, cap0, e, h1, h2, h3, h4⟩ := hr
    simp only [Value.slice.injEq] at e
    obtain ⟨rfl, rfl, rfl⟩ := e
    obtain ⟨d, off, rfl, hlt, hcell⟩ := h4 (by omega)
    rw [if_neg (by omega)] at e1
    simp [Addr.add_mid] at e1
    have := ho d off _ _ rfl (by omega)
    omega
theorem slice_to {P : Program} (hu : P.underlying 22 = some (.slice 5)) (hsz : (P.info? 5).map (·.size) = some 1) (a : Option Addr) (n cap c : Nat) (hc : c ≤ n) (hn : n ≤ cap) (h0 : 0 < c) (w : World) (l : List UInt8) (hr : Rd w (.slice a n cap) l) :
    (∀ W, (Instr.sliceAt 22 (.slice a n cap) none (some (.int .i64 (c : Int))) none).run P W = .ok (.slice a c cap) W) := fun W => by
  have hcn : (c : Int) ≤ (cap : Int) := by omega
  obtain ⟨a0, cap0, e, h1, h2, h3, h4⟩ := hr
  simp only [Value.slice.injEq] at e
  obtain ⟨rfl, rfl, rfl⟩ := e
  obtain ⟨d, off, rfl, hlt, hcell⟩ := h4 (by omega)
  cases hq : P.info? 5 with
  | none => simp [hq] at hsz
  | some _ =>
    simp [Instr.sliceAt, Instr.slice, run_underlying hu, Instr.sliceBounds, run_sliceBound, hcn, sizeOf, typeInfo, hq, Addr.add_mid]
theorem rd_len {w : World} {a : Option Addr} {n cap : Nat} {l : List UInt8} (h : Rd w (.slice a n cap) l) : l.length = n := by
  obtain ⟨a', cap', e, _⟩ := h
  simp only [Value.slice.injEq] at e
  exact e.2.1.symm
theorem rd_cap {w : World} {a : Option Addr} {n cap : Nat} {l : List UInt8} (h : Rd w (.slice a n cap) l) : n ≤ cap := by
  obtain ⟨a', cap', e, h1, _⟩ := h
  simp only [Value.slice.injEq] at e
  obtain ⟨_, rfl, rfl⟩ := e
  exact h1
theorem rd_max {w : World} {a : Option Addr} {n cap : Nat} {l : List UInt8} (h : Rd w (.slice a n cap) l) : cap ≤ maxLen := by
  obtain ⟨a', cap', e, h1, h2, _⟩ := h
  simp only [Value.slice.injEq] at e
  obtain ⟨_, rfl, rfl⟩ := e
  exact h2
theorem Off.len {b : Nat} {a : Option Addr} {n cap : Nat} (h : Off b (.slice a n cap)) (n' : Nat) (hn : 0 < n) (_ : 0 < n') : Off b (.slice a n' cap) := by
  intro c off m cap' e _
  simp only [Value.slice.injEq] at e
  obtain ⟨rfl, rfl, rfl⟩ := e
  exact h c off n cap rfl hn
theorem By_set (l : List UInt8) (j : Nat) (x : UInt8) : (By l).set j (.int .u8 (x.toNat : Int)) = By (l.set j x) := by simp [By, List.map_set]
theorem u8_of (n : Nat) : IntKind.u8.wrap (n : Int) = ((UInt8.ofNat n).toNat : Int) := by
  rw [IntKind.wrap_u8']
  simp
theorem u8_shr (c e : Nat) : (c : Int) / (2 : Int) ^ e % 256 = ((UInt8.ofNat (c / 2 ^ e)).toNat : Int) := by
  rw [UInt8.toNat_ofNat', show ((2 : Int) ^ e) = ((2 ^ e : Nat) : Int) from (Int.natCast_pow 2 e).symm, ← Int.natCast_ediv]
  exact (Int.natCast_emod _ _).symm
theorem rd_off {w : World} {v : Value} {l : List UInt8} (h : Rd w v l) {b : Nat} (hb : w.heap.size ≤ b) : Off b v := by
  obtain ⟨a, cap, rfl, h1, h2, h3, h4⟩ := h
  intro c off n cap' e hp
  simp only [Value.slice.injEq] at e
  obtain ⟨rfl, rfl, rfl⟩ := e
  obtain ⟨d, off', e, hlt, _⟩ := h4 hp
  cases e
  omega
/-- The first c of a slice. -/
theorem slice_upto {P : Program} (hu : P.underlying 22 = some (.slice 5)) (hsz : (P.info? 5).map (·.size) = some 1) (a : Option Addr) (n cap c : Nat) (hc : c ≤ n) (hn : n ≤ cap) :
    ∃ a', (∀ W, (Instr.sliceAt 22 (.slice a n cap) none (some (.int .i64 (c : Int))) none).run P W = .ok (.slice a' c cap) W) ∧
      (∀ w l, Rd w (.slice a n cap) l → Rd w (.slice a' c cap) (l.take c)) := by
  have hcn : (c : Int) ≤ (cap : Int) := by omega
  refine ⟨if cap = 0 then a else a.map (·.add 0), fun W => ?_, fun w l hr => ?_⟩
  · cases hq : P.info? 5 with
    | none => simp [hq] at hsz
    | some i => simp [Instr.sliceAt, Instr.slice, run_underlying hu, Instr.sliceBounds, run_sliceBound, hcn, sizeOf, typeInfo, hq]
  · have h0 := hr.take c (by exact hc)
    obtain ⟨a0, cap0, e, h1, h2, h3, h4⟩ := h0
    simp only [Value.slice.injEq] at e
    obtain ⟨rfl, hcl, rfl⟩ := e
    refine ⟨if cap = 0 then a else a.map (·.add 0), cap, by rw [← hcl], h1, h2, fun h => ?_, fun hp => ?_⟩
    · by_cases hcc : cap = 0
      · exact hcc
      · rw [if_neg hcc] at h
        exact h3 (by simpa using h)
    · obtain ⟨b, off, rfl, hlt, hcell⟩ := h4 hp
      rw [if_neg (by omega)]
      exact ⟨b, off, by simp [Addr.add_mid], hlt, hcell⟩
theorem size5w : ∀ w, (sizeOf 5).run Try.prog w = .ok 1 w := fun w => by
  cases hq : Try.prog.info? 5 with
  | none => have := Try.size5; simp [hq] at this
  | some i =>
    have : i.size = 1 := by have := Try.size5; simpa [hq] using this
    simp [sizeOf, typeInfo, hq, this]
theorem wpQuiet_load_mid {P : Program} {ops : Array Oper} {C : World → Prop} {Q : Act → Prop} {a : Act} {o : Oper} {rest : List Oper} (hw : Region.wanted o (yielded ops a.tmps) = true) (ty : TypeId) (x : Operand) (ho : o.op = .load ty x)
    (b off : Nat) (hx : a.eval x = .pointer (some ⟨b, off, none⟩)) (cs : List Value) (d : TypeDesc) (hS : ∀ w, C w → w.rangeAt b off cs)
    (hu : P.underlying ty = some d) (hd : d.isRow = true) (hi : (P.info? ty).map (·.size) = some cs.length)
    (h : wpQuiet P ops C Q rest (a.put o.dst (.agg cs.toArray))) : wpQuiet P ops C Q (o :: rest) a :=
  BigFrame.wpQuiet_want hw fun K hK => ⟨.agg cs.toArray, fun w hC => by
    unfold Oper.quietAt execOp
    simp only [ho, hx, Instr.loadAt, Instr.sureAddr, Sem.run_bind, Sem.run_pure, Result.andThen_ok, run_loadVar_mid w b off ty cs d (hS w hC) hu hd hi]
    exact ⟨rfl, rfl⟩, hK _ h⟩
theorem Blk.class {w : World} {b : Nat} {T : TypeId} {cs : List Value} (h : Blk w b T cs) : ∀ w', (∃ p : Regrown, w' = Go.Sort.grow (redrawn w p.d) p.os) → w'.rangeAt b 0 cs := by
  rintro w' ⟨p, rfl⟩
  exact (h.kept (below_regrown w p.d p.os)).range0
theorem Try.info5 : (Try.prog.info? 5).map (fun i => (i.zero, i.size, i.bytes)) = some (some (.int .u8 0), 1, 1) := by kernel_rfl
/-- A new slice of no bytes is the call's own. -/
theorem own_none (w : World) (B : Nat) (hB : B ≤ w.heap.size) : Own (w.alloc (.cells #[] 5 (0, 0))) B (.slice (some ⟨w.heap.size, 0, none⟩) 0 0) [] :=
  ⟨rfl, .inr ⟨w.heap.size, 0, #[], rfl, hB, heap_alloc_new w _, Nat.le_refl _, by simp [maxLen], rfl, rfl⟩⟩
theorem own_nil (w : World) (B : Nat) : Own w B (.slice none 0 0) [] := ⟨rfl, .inl ⟨rfl, rfl⟩⟩
theorem Own.form {w : World} {B : Nat} {v : Value} {l : List UInt8} (h : Own w B v l) : ∃ a cap, v = .slice a l.length cap := by
  obtain ⟨a, cap, rfl, -⟩ := h.rd
  exact ⟨a, cap, rfl⟩
/-- What the call owns lies in another block than b. -/
theorem Own.but {w w' : World} {B b : Nat} {v : Value} {l : List UInt8} (h : Own w B v l) (hb : But b w w') (hlt : b < B ∨ w.heap.size ≤ b) : Own w' B v l := by
  obtain ⟨h1, h2⟩ := h
  refine ⟨h1, ?_⟩
  rcases h2 with h2 | ⟨g, cap, cur, hv, hg, hh, r⟩
  · exact Or.inl h2
  · have hlt' : g < w.heap.size := (Array.getElem?_eq_some_iff.1 hh).1
    exact Or.inr ⟨g, cap, cur, hv, hg, by rw [hb.block g hlt' (by omega)]; exact hh, r⟩
theorem Own.but' {w w' : World} {B b : Nat} {v : Value} {l : List UInt8} (h : Own w B v l) (hb : But b w w') (hlt : ∀ k, v.ownBlock = some k → k < b) : Own w' B v l := by
  obtain ⟨h1, h2⟩ := h
  refine ⟨h1, ?_⟩
  rcases h2 with h2 | ⟨g, cap, cur, hv, hg, hh, r⟩
  · exact Or.inl h2
  · have hlt' : g < w.heap.size := (Array.getElem?_eq_some_iff.1 hh).1
    have := hlt g (by rw [hv]; rfl)
    exact Or.inr ⟨g, cap, cur, hv, hg, by rw [hb.block g hlt' (by omega)]; exact hh, r⟩
theorem flat_take (L : List (List UInt8)) (i : Nat) (h : i < L.length) : (L.take (i + 1)).flatten = (L.take i).flatten ++ L[i] := by
  rw [List.take_add_one, List.getElem?_eq_getElem h, Option.toList_some, List.flatten_append]
  simp only [List.flatten_cons, List.flatten_nil, List.append_nil]
theorem wpList_append_bytes_w {P : Program} (w : World) {ops : Array Oper} {rest : List Oper} {o : Oper} {a : Act} {Q : Exit → Act → World → Prop} (hw : Region.wanted o (yielded ops a.tmps) = true) (s x : Operand) (t tx : TypeId)
    (ho : o.op = .call { callee := .builtin .append, args := #[s, x], argTypes := #[t, tx] })
    (base : Nat) (i : TypeInfo) (ht : P.underlying t = some (.slice 5)) (hi : P.info? 5 = some i) (hz : i.zero = some (.int .u8 0))
    (hsize : i.size = 1) (hby : i.bytes = 1)
    (v : Value) (l : List UInt8) (hv : a.eval s = v) (hown : Own w base v l)
    (xv : Value) (m : List UInt8) (hx : a.eval x = xv) (hs : Src P 1 tx xv m.length (By m) w)
    (hbytes : l.length + m.length ≤ 140737488355328) (hbase : base ≤ w.heap.size)
    (h : ∀ v' w', Own w' base v' (l ++ m) → Below base w w' → wpList P ops Q rest (a.put o.dst v') w') : wpList P ops Q (o :: rest) a w := by
  refine wpList_step fun K hK => ?_
  rw [if_pos hw]
  obtain ⟨v', w', hr, h2, h3⟩ := run_append_mine (P := P) w base t tx o.type 5 i (.int .u8 0) 1 1 ht hi hz hsize hby rfl v l.length (By l) hown xv m.length (By m) hs (by simp only [maxLen]; omega) (by omega) hbase
  unfold Oper.wp execOp
  simp only [ho, resolve, invoke, builtin, Sem.run_bind, Sem.run_pure, Result.andThen_ok, List.map_toArray, List.map_cons, List.map_nil, hv, hx, hr]
  refine hK _ _ (h v' w' ?_ (below_of_grown w hown h3 hbase))
  unfold Own
  rw [List.length_append, By_append]
  exact h2
theorem wpList_build {P : Program} {ops : Array Oper} {rest : List Oper} {op : Oper} {a : Act} {w : World} {Q : Exit → Act → World → Prop} (hgd : op.guard = none) (t : TypeId) (ps : Array (Nat × Operand)) (_ : op.op = .build t ps) (v : Value)
    (hrun : (execOp a.eval op).run P w = .ok (.value v) w) (h : wpList P ops Q rest (a.put op.dst v) w) : wpList P ops Q (op :: rest) a w := by
  refine wpList_plain hgd fun K hK => ?_
  unfold Oper.wp
  rw [hrun]
  exact hK _ _ h
theorem own_one (w : World) (B : Nat) (hB : B ≤ w.heap.size) (x : UInt8) : Own (w.alloc (.cells #[.int .u8 (x.toNat : Int)] 5 (0, 0))) B (.slice (some ⟨w.heap.size, 0, none⟩) 1 1) [x] :=
  ⟨rfl, .inr ⟨w.heap.size, 1, _, rfl, hB, heap_alloc_new w _, Nat.le_refl _, by simp [maxLen], rfl, rfl⟩⟩
theorem own_one' (w : World) (B : Nat) (hB : B ≤ w.heap.size) (x : UInt8) (y : Int) (hy : Hid (y = (x.toNat : Int))) : Own (w.alloc (.cells #[.int .u8 y] 5 (0, 0))) B (.slice (some ⟨w.heap.size, 0, none⟩) 1 1) [x] := by
  rw [hy.out]; exact own_one w B hB x
theorem wpList_buildK {P : Program} {ops : Array Oper} {rest : List Oper} {op : Oper} {a : Act} {w : World} {Q : Exit → Act → World → Prop} (hgd : op.guard = none) (t : TypeId) (ps : Array (Nat × Operand)) (_ : op.op = .build t ps) (v : Value)
    (hrun : (execOp a.eval op).run P w = .ok (.value v) w) (h : wpList P ops Q rest (a.put op.dst v) w) : wpList P ops Q (op :: rest) a w := by
  refine wpList_plain hgd fun K hK => ?_
  unfold Oper.wp
  rw [hrun]
  exact hK _ _ h
theorem wpStill_load_mid {P : Program} {ops : Array Oper} {w : World} {Q : Act → Prop} {a : Act} {o : Oper} {rest : List Oper} (hw : Region.wanted o (yielded ops a.tmps) = true) (ty : TypeId) (x : Operand) (ho : o.op = .load ty x)
    (b off : Nat) (hx : a.eval x = .pointer (some ⟨b, off, none⟩)) (cs : List Value) (d : TypeDesc) (hc : w.rangeAt b off cs)
    (hu : P.underlying ty = some d) (hd : d.isRow = true) (hi : (P.info? ty).map (·.size) = some cs.length)
    (h : wpStill P ops w Q rest (a.put o.dst (.agg cs.toArray))) : wpStill P ops w Q (o :: rest) a := by
  refine wpStill_step fun K hK => ?_
  rw [if_pos hw]
  unfold Oper.still execOp
  simp only [ho, hx, Instr.loadAt, Instr.sureAddr, Sem.run_bind, Sem.run_pure, Result.andThen_ok, run_loadVar_mid w b off ty cs d hc hu hd hi]
  exact ⟨rfl, hK _ h⟩
theorem slice_mid (g n cap lo hi : Nat) (h1 : lo ≤ hi) (h2 : hi ≤ cap) (h4 : lo < cap) (W : World) :
    (Instr.sliceAt 22 (.slice (some ⟨g, 0, none⟩) n cap) (some (.int .i64 (lo : Int))) (some (.int .i64 (hi : Int))) none).run Try.prog W = .ok (.slice (some ⟨g, lo, none⟩) (hi - lo) (cap - lo)) W := by
  have e1 : (lo : Int) ≤ (hi : Int) := by omega
  have e2 : (hi : Int) ≤ (cap : Int) := by omega
  have hsz := Try.size5
  cases hq : Try.prog.info? 5 with
  | none => simp [hq] at hsz
  | some i =>
    have hi1 : i.size = 1 := by simpa [hq] using hsz
    simp [Instr.sliceAt, Instr.slice, run_underlying Try.underlying22, Instr.sliceBounds, run_sliceBound, e1, e2, sizeOf, typeInfo, hq, hi1, Addr.add_lit]
    omega
theorem Own.some {w : World} {B : Nat} {v : Value} {l : List UInt8} (h : Own w B v l) (hl : 0 < l.length) : ∃ g cap, v = .slice (some ⟨g, 0, none⟩) l.length cap ∧ l.length ≤ cap := by
  obtain ⟨h1, h2⟩ := h
  rcases h2 with ⟨rfl, hn⟩ | ⟨g, cap, cur, rfl, hg, hh, hnc, r⟩
  · omega
  · exact ⟨g, cap, rfl, hnc⟩
theorem wpList_make_bytes {P : Program} (w : World) {ops : Array Oper} {rest : List Oper} {o : Oper} {a : Act} {Q : Exit → Act → World → Prop}
    (hg : o.guard = none) (l c : Operand) (t : TypeId) (hop : o.op = Op.makeSlice t l c)
    (i : TypeInfo) (h1 : P.underlying t = some (.slice 5)) (h2 : P.info? 5 = some i) (h3 : i.zero = some (.int .u8 0)) (h4 : i.size = 1) (h5 : i.bytes = 1)
    (kl kc : IntKind) (L C : Int) (n m : Nat) (hl : a.eval l = .int kl L) (hc : a.eval c = .int kc C) (hL : L = (n : Int)) (hC : C = (m : Int)) (hnm : n ≤ m) (b2 : m ≤ 281474976710656)
    (hK : wpList P ops Q rest (a.put o.dst (.slice (some ⟨w.heap.size, 0, none⟩) n m)) (w.alloc (.cells (List.replicate m (Value.int .u8 0)).toArray 5))) :
    wpList P ops Q (o :: rest) a w := by
  refine wpList_plain hg fun K hK' => ?_
  subst hL
  subst hC
  have hrun := run_make (P := P) w t 5 i (.int .u8 0) h1 h2 h3 kl kc n m (by omega) (by omega) (by rw [h5]; omega) (by omega)
  have e : madeCells (Value.int .u8 0).cells ((m : Int).toNat * i.size) = (List.replicate m (Value.int .u8 0)).toArray := by
    apply Array.ext'
    rw [h4]
    show (madeCells #[Value.int .u8 0] _).toList = _
    rw [toList_madeCells_one]
    simp
  rw [e] at hrun
  simp only [Int.toNat_natCast] at hrun
  unfold Oper.wp
  simp only [execOp, hop, hl, hc, hrun, Result.andThen, Sem.run_bind, Sem.run_pure]
  exact hK' _ _ hK
/-- A block of noughts into whose first cell a byte was stored: the call's own. -/
theorem own_first (w : World) (B C : Nat) (hB : B ≤ w.heap.size) (hC : 1 ≤ C) (hm : C ≤ maxLen) (x : UInt8) :
    Own ((w.alloc (.cells (List.replicate C (Value.int .u8 0)).toArray 5 (0, 0))).setCell ⟨w.heap.size, 0, none⟩ (.int .u8 (x.toNat : Int))) B (.slice (some ⟨w.heap.size, 0, none⟩) 1 C) [x] := by
  have hb := (Blk.new w 5 (List.replicate C (Value.int .u8 0))).set 0 (.int .u8 (x.toNat : Int))
  refine ⟨rfl, .inr ⟨w.heap.size, C, _, rfl, hB, hb, hC, hm, by simp, ?_⟩⟩
  obtain ⟨D, rfl⟩ : ∃ D, C = D + 1 := ⟨C - 1, by omega⟩
  simp [List.replicate_succ, By]
theorem u8_of_int (bit : Int) : IntKind.u8.wrap bit = ((UInt8.ofNat (bit % 256).toNat).toNat : Int) := by
  show bit % 256 = _
  simp
  omega
theorem Rd.slice {w : World} {v : Value} {l : List UInt8} (h : Rd w v l) : ∃ a cap, v = .slice a l.length cap := by
  obtain ⟨a, cap, rfl, -⟩ := h
  exact ⟨a, cap, rfl⟩
theorem act_lit (a : Act) (n : Nat) (h : a.tmps.size = n) : a = { tmps := ((List.range n).map fun t => a.eval (.tmp t)).toArray, defers := a.defers } := by
  obtain ⟨tmps, defers⟩ := a
  congr 1
  apply Array.ext'
  apply List.ext_getElem?
  intro i
  simp only at h
  by_cases hi : i < n
  · have h1 : i < tmps.size := by omega
    simp [hi, h1, Act.eval]
  · have h1 : ¬ i < tmps.size := by omega
    simp [hi, h1]
theorem By_range {w : World} {b : Nat} {T : TypeId} {x y : List UInt8} (h : Blk w b T (By (x ++ y))) : w.rangeAt b 0 (By x) ∧ w.rangeAt b x.length (By y) := by
  rw [By_append] at h
  refine ⟨h.range 0 (By x) (fun j v hj => ?_), h.range x.length (By y) (fun j v hj => ?_)⟩
  · have := (List.getElem?_eq_some_iff.1 hj).1
    rw [Nat.zero_add, List.getElem?_append_left this, hj]
  · rw [List.getElem?_append_right (by rw [By_length]; omega), By_length, Nat.add_sub_cancel_left, hj]
theorem flat_le (L : List (List UInt8)) (i : Nat) : (L.take i).flatten.length ≤ L.flatten.length := by
  have := congrArg (fun l => l.flatten.length) (List.take_append_drop i L)
  simp only [List.flatten_append, List.length_append] at this
  omega
end Go.Proofs.Ytmicmbjbclkbjaa
