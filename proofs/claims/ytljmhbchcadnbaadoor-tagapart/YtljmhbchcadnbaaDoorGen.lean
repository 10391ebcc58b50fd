/-
  Laws that several texts need: parts of a slice, two hashes held against each other, a row loaded in a region that draws its order, what the call owns.
-/
import Derived.Test.YtljmhbchcadnbaaDoorSums
import Derived.Test.YtljmhbchcadnbaaDoorArgsL
import Derived.OwnWalk
import Derived.Deep.LoopGhost
import Derived.Lib.QuietBelow
import Derived.BigQuiet
import Derived.Stop.BytesEq
namespace Go.Proofs.YtljmhbchcadnbaaDoor
open Go.RowKit
/-- The first c of a slice. -/
theorem slice_upto {P : Program} (hu : P.underlying 22 = some (.slice 5)) (hsz : (P.info? 5).map (·.size) = some 1) (a : Option Addr) (n cap c : Nat) (hc : c ≤ n) (hn : n ≤ cap) :
    ∃ a', (∀ W, (Instr.sliceAt 22 (.slice a n cap) none (some (.int .i64 (c : Int))) none).run P W = .ok (.slice a' c cap) W) ∧
      (∀ w l, Rd w (.slice a n cap) l → Rd w (.slice a' c cap) (l.take c)) := by
  have hcn : (c : Int) ≤ (cap : Int) := by omega
  refine ⟨if cap = 0 then a else a.map (·.add 0), fun W => ?_, fun w l hr => ?_⟩
  · cases hq : P.info? 5 with
    | none => simp [hq] at hsz
    | some i => simp [Instr.sliceAt, Instr.slice, run_underlying hu, Instr.sliceBounds, run_sliceBound, hcn, sizeOf, typeInfo, hq]
  · have h0 := hr.take c (by exact hc)
    obtain ⟨a0, cap0, e, h1, h2, h3, h4⟩ := h0
    simp only [Value.slice.injEq] at e
    obtain ⟨rfl, hcl, rfl⟩ := e
    refine ⟨if cap = 0 then a else a.map (·.add 0), cap, by rw [← hcl], h1, h2, fun h => ?_, fun hp => ?_⟩
    · by_cases hcc : cap = 0
      · exact hcc
      · rw [if_neg hcc] at h
        exact h3 (by simpa using h)
    · obtain ⟨b, off, rfl, hlt, hcell⟩ := h4 hp
      rw [if_neg (by omega)]
      exact ⟨b, off, by simp [Addr.add_mid], hlt, hcell⟩

theorem size5w : ∀ w, (sizeOf 5).run Tryd.prog w = .ok 1 w := fun w => by
  cases hq : Tryd.prog.info? 5 with
  | none => have := Tryd.size5; simp [hq] at this
  | some i =>
    have : i.size = 1 := by have := Tryd.size5; simpa [hq] using this
    simp [sizeOf, typeInfo, hq, this]
theorem eq24 (X Y : List UInt8) (hX : X.length = 32) (hY : Y.length = 32) (W : World) : (Op.equalIn 10000 24 (.agg (By X).toArray) (.agg (By Y).toArray)).run Tryd.prog W = .ok (X == Y) W :=
  run_equalIn_bytes W 9998 24 5 32 Tryd.underlying24 Tryd.underlying5 size5w X Y hX hY
theorem wpQuiet_load_mid {P : Program} {ops : Array Oper} {C : World → Prop} {Q : Act → Prop} {a : Act} {o : Oper} {rest : List Oper} (hw : Region.wanted o (yielded ops a.tmps) = true) (ty : TypeId) (x : Operand) (ho : o.op = .load ty x)
    (b off : Nat) (hx : a.eval x = .pointer (some ⟨b, off, none⟩)) (cs : List Value) (d : TypeDesc) (hS : ∀ w, C w → w.rangeAt b off cs)
    (hu : P.underlying ty = some d) (hd : d.isRow = true) (hi : (P.info? ty).map (·.size) = some cs.length)
    (h : wpQuiet P ops C Q rest (a.put o.dst (.agg cs.toArray))) : wpQuiet P ops C Q (o :: rest) a :=
  BigFrame.wpQuiet_want hw fun K hK => ⟨.agg cs.toArray, fun w hC => by
    unfold Oper.quietAt execOp
    simp only [ho, hx, Instr.loadAt, Instr.sureAddr, Sem.run_bind, Sem.run_pure, Result.andThen_ok, run_loadVar_mid w b off ty cs d (hS w hC) hu hd hi]
    exact ⟨rfl, rfl⟩, hK _ h⟩
theorem Blk.class {w : World} {b : Nat} {T : TypeId} {cs : List Value} (h : Blk w b T cs) : ∀ w', (∃ p : Regrown, w' = Go.Sort.grow (redrawn w p.d) p.os) → w'.rangeAt b 0 cs := by
  rintro w' ⟨p, rfl⟩
  exact (h.kept (below_regrown w p.d p.os)).range0

theorem Tryd.info5 : (Tryd.prog.info? 5).map (fun i => (i.zero, i.size, i.bytes)) = some (some (.int .u8 0), 1, 1) := by kernel_rfl
/-- A new slice of no bytes is the call's own. -/
theorem own_none (w : World) (B : Nat) (hB : B ≤ w.heap.size) : Own (w.alloc (.cells #[] 5 (0, 0))) B (.slice (some ⟨w.heap.size, 0, none⟩) 0 0) [] :=
  ⟨rfl, .inr ⟨w.heap.size, 0, #[], rfl, hB, heap_alloc_new w _, Nat.le_refl _, by simp [maxLen], rfl, rfl⟩⟩
theorem own_nil (w : World) (B : Nat) : Own w B (.slice none 0 0) [] := ⟨rfl, .inl ⟨rfl, rfl⟩⟩
theorem Own.form {w : World} {B : Nat} {v : Value} {l : List UInt8} (h : Own w B v l) : ∃ a cap, v = .slice a l.length cap := by
  obtain ⟨a, cap, rfl, -⟩ := h.rd
  exact ⟨a, cap, rfl⟩
/-- What the call owns lies in another block than b. -/
theorem Own.but {w w' : World} {B b : Nat} {v : Value} {l : List UInt8} (h : Own w B v l) (hb : But b w w') (hlt : b < B ∨ w.heap.size ≤ b) : Own w' B v l := by
  obtain ⟨h1, h2⟩ := h
  refine ⟨h1, ?_⟩
  rcases h2 with h2 | ⟨g, cap, cur, hv, hg, hh, r⟩
  · exact Or.inl h2
  · have hlt' : g < w.heap.size := (Array.getElem?_eq_some_iff.1 hh).1
    exact Or.inr ⟨g, cap, cur, hv, hg, by rw [hb.block g hlt' (by omega)]; exact hh, r⟩
theorem Own.but' {w w' : World} {B b : Nat} {v : Value} {l : List UInt8} (h : Own w B v l) (hb : But b w w') (hlt : ∀ k, v.ownBlock = some k → k < b) : Own w' B v l := by
  obtain ⟨h1, h2⟩ := h
  refine ⟨h1, ?_⟩
  rcases h2 with h2 | ⟨g, cap, cur, hv, hg, hh, r⟩
  · exact Or.inl h2
  · have hlt' : g < w.heap.size := (Array.getElem?_eq_some_iff.1 hh).1
    have := hlt g (by rw [hv]; rfl)
    exact Or.inr ⟨g, cap, cur, hv, hg, by rw [hb.block g hlt' (by omega)]; exact hh, r⟩
theorem Stt.below {w w' : World} {b B : Nat} {m : List UInt8} (h : Stt w b m) (hb : Below B w w') (hB : b < B) : Stt w' b m := by
  obtain ⟨x, k, h1, h2⟩ := h
  exact ⟨x, k, (hb.block b hB).trans h1, h2⟩
theorem flat_take (L : List (List UInt8)) (i : Nat) (h : i < L.length) : (L.take (i + 1)).flatten = (L.take i).flatten ++ L[i] := by
  rw [List.take_add_one, List.getElem?_eq_getElem h, Option.toList_some, List.flatten_append]
  simp only [List.flatten_cons, List.flatten_nil, List.append_nil]
theorem wpList_append_bytes_w {P : Program} (w : World) {ops : Array Oper} {rest : List Oper} {o : Oper} {a : Act} {Q : Exit → Act → World → Prop} (hw : Region.wanted o (yielded ops a.tmps) = true) (s x : Operand) (t tx : TypeId)
    (ho : o.op = .call { callee := .builtin .append, args := #[s, x], argTypes := #[t, tx] })
    (base : Nat) (i : TypeInfo) (ht : P.underlying t = some (.slice 5)) (hi : P.info? 5 = some i) (hz : i.zero = some (.int .u8 0))
    (hsize : i.size = 1) (hby : i.bytes = 1)
    (v : Value) (l : List UInt8) (hv : a.eval s = v) (hown : Own w base v l)
    (xv : Value) (m : List UInt8) (hx : a.eval x = xv) (hs : Src P 1 tx xv m.length (By m) w)
    (hbytes : l.length + m.length ≤ 140737488355328) (hbase : base ≤ w.heap.size)
    (h : ∀ v' w', Own w' base v' (l ++ m) → Below base w w' → wpList P ops Q rest (a.put o.dst v') w') : wpList P ops Q (o :: rest) a w := by
  refine wpList_step fun K hK => ?_
  rw [if_pos hw]
  obtain ⟨v', w', hr, h2, h3⟩ := run_append_mine (P := P) w base t tx o.type 5 i (.int .u8 0) 1 1 ht hi hz hsize hby rfl v l.length (By l) hown xv m.length (By m) hs (by simp only [maxLen]; omega) (by omega) hbase
  unfold Oper.wp execOp
  simp only [ho, resolve, invoke, builtin, Sem.run_bind, Sem.run_pure, Result.andThen_ok, List.map_toArray, List.map_cons, List.map_nil, hv, hx, hr]
  refine hK _ _ (h v' w' ?_ (below_of_grown w hown h3 hbase))
  unfold Own
  rw [List.length_append, By_append]
  exact h2
theorem wpList_build {P : Program} {ops : Array Oper} {rest : List Oper} {op : Oper} {a : Act} {w : World} {Q : Exit → Act → World → Prop} (hgd : op.guard = none) (t : TypeId) (ps : Array (Nat × Operand)) (_ : op.op = .build t ps) (v : Value)
    (hrun : (execOp a.eval op).run P w = .ok (.value v) w) (h : wpList P ops Q rest (a.put op.dst v) w) : wpList P ops Q (op :: rest) a w := by
  refine wpList_plain hgd fun K hK => ?_
  unfold Oper.wp
  rw [hrun]
  exact hK _ _ h
end Go.Proofs.YtljmhbchcadnbaaDoor
