/-
  Rows that literals make; slices.Clone over pairs; a string, a slice into a cell; a result in a variable.
-/
import Derived.Test.YtmicmbjbclkbjaaCtM
import Derived.Lib.SliceRun
namespace Go.Proofs.Ytmicmbjbclkbjaa
open Go.RowKit
theorem own_empty {α : Type} {E : Enc α} (w : World) (B : Nat) (T : TypeId) (hB : B ≤ w.heap.size) : OwnG E (w.alloc (.cells #[] T (0, 0))) B T (.slice (some ⟨w.heap.size, 0, none⟩) 0 0) [] :=
  OwnG.of_blk (L := []) (cap := 0) (cur := []) (Blk.new w T []) hB (by simp [Enc.cs]) (by simp) (by simp) (by simp [maxLen])
set_option maxHeartbeats 1000000 in
set_option maxRecDepth 100000 in
theorem cloneP_any {w : World} {v : Value} {l : List Pr} (h : RdG PE w v l) (hl : l.length ≤ 1000000) :
    Calls Try.prog 31 #[v] w fun e w' => ∃ v', e = .returned v' ∧ OwnG PE w' w.heap.size 41 v' l ∧ Below w.heap.size w w' := by
  have HR := hide h
  obtain ⟨a, cap, rfl, h1, h2, h3, h4⟩ := h
  clear h4
  have hq := fun W => Lib.run_eql_slice_nil (P := Try.prog) W 25 41 a l.length cap 0 0 Try.underlying25
  obtain ⟨n, HN⟩ : ∃ n, Hid (l.length = n) := ⟨_, rfl⟩
  rw [HN.out] at HR h1 hl hq ⊢
  go_enter Try.func31, Try.ntmps31
  cases a with
  | none =>
    have hc0 := h3 rfl
    have hl0 : l = [] := List.eq_nil_of_length_eq_zero (by rw [HN.out]; omega)
    obtain rfl : n = 0 := by omega
    subst hl0 hc0
    simp only [Option.isNone_none] at hq ⊢
    go_wp2
    go_ret
    exact ⟨_, rfl, ownG_nil _ _ _, Below.refl _ _⟩
  | some x =>
    simp only [Option.isNone_some] at hq
    have A1 : Hid (Below w.heap.size w (w.alloc (.cells #[] 41 (0, 0)))) := (Below.refl _ _).alloc (Nat.le_refl _) _
    have O1 : Hid (OwnG PE (w.alloc (.cells #[] 41 (0, 0))) w.heap.size 41 (.slice (some ⟨w.heap.size, 0, none⟩) 0 0) []) := own_empty w w.heap.size 41 (Nat.le_refl _)
    have R1 := hide (HR.out.kept A1.out)
    have hb1 : Hid (([] : List Pr).length + l.length ≤ 10000000) := (show 0 + l.length ≤ 10000000 by rw [HN.out]; omega)
    go_wp2_with (first
      | (refine wpList_append_E (E := PE) Try.underlying25 infoP9 (by decide) rfl (.tmp 5) (.tmp 6) rfl w.heap.size (.slice (some ⟨w.heap.size, 0, none⟩) 0 0) [] rfl O1.out _ l rfl R1.out hb1.out A1.out.size ?_; intro v9 w9 o9 g9 q9; have O9 := hide o9; have G9 := hide g9; clear o9 g9 q9; obtain ⟨p9, c9, hv9⟩ := O9.out.form; obtain ⟨n2, hn2⟩ : ∃ k, ([] ++ l : List Pr).length = k := ⟨_, rfl⟩; rw [hn2] at hv9; subst hv9)
      | fail)
    go_ret
    refine ⟨_, rfl, O9.out, A1.out.trans ((Chg.of_grown (F := fun k => k = w.heap.size) G9.out (fun k e _ => by simpa [Value.ownBlock] using e.symm)).below A1.out.size (fun k hk e => by omega))⟩
/-- What Own keeps: its own row, each read's pairs in rows of its own. -/
structure OwnR9 (w : World) (B : Nat) (v : Value) (Q : List Rz) : Prop where
  row : OwnG XE w B 39 v Q
  ps : ∀ y ∈ Q, OwnG PE w B 41 (xv y) y.ps
theorem OwnR9.kept {w w' : World} {B : Nat} {v : Value} {Q : List Rz} (h : OwnR9 w B v Q) (hb : Below w.heap.size w w') : OwnR9 w' B v Q := ⟨h.row.kept hb, fun y hy => (h.ps y hy).kept hb⟩
theorem OwnR9.rd {w : World} {B : Nat} {v : Value} {Q : List Rz} (h : OwnR9 w B v Q) : RdX w v Q := ⟨h.row.rd, fun y hy => (h.ps y hy).rd⟩
/-- A slice into a cell. -/
theorem wpList_store_sl {P : Program} {ops : Array Oper} {rest : List Oper} {o : Oper} {a : Act} {w : World} {Q : Exit → Act → World → Prop} (hgd : o.guard = none) (ty : TypeId) (hso : ∀ W, (sizeOf ty).run P W = .ok 1 W) (x y : Operand) (ho : o.op = .store ty x y) (b j : Nat) (T : TypeId) (cs : List Value) (p : Option Addr) (n c : Nat)
    (hx : a.eval x = .pointer (some ⟨b, j, none⟩)) (hy : a.eval y = .slice p n c) (hB : Blk w b T cs) (hj : j < cs.length) (h : ∀ w', Blk w' b T (cs.set j (.slice p n c)) → But b w w' → wpList P ops Q rest (a.put o.dst undef) w') : wpList P ops Q (o :: rest) a w := by
  have hc := hB.cell (j := j) (v := cs[j]) (List.getElem?_eq_getElem hj)
  have hf := hB.frozen j
  have hrun : (execOp a.eval o).run P w = .ok .skip (w.setCell ⟨b, j, none⟩ (.slice p n c)) := by
    simp only [execOp, ho, hx, hy]
    go_simp
  refine wpList_plain hgd fun K hK => ?_
  unfold Oper.wp
  rw [hrun]
  exact hK _ _ (h _ (hB.set j (.slice p n c)) (But.setCell b w j _))
theorem build_read1 (x : Rz) (w : World) : (Instr.buildSlice 24 1 #[(0, .agg (XC x).toArray)]).run Try.prog w = .ok (.slice (some ⟨w.heap.size, 0, none⟩) 1 1) (w.alloc (.cells (XC x).toArray 39 (0, 0))) := by kernel_rfl
theorem ownE_one {α : Type} {E : Enc α} (w : World) (B : Nat) (T : TypeId) (x : α) (hB : B ≤ w.heap.size) : OwnG E (w.alloc (.cells (E.c x).toArray T (0, 0))) B T (.slice (some ⟨w.heap.size, 0, none⟩) 1 1) [x] := by
  refine OwnG.of_blk (L := [x]) (cap := 1) (Blk.new w T (E.c x)) hB ?_ ?_ (by simp) (by simp [maxLen])
  · rw [List.length_singleton, Nat.one_mul, List.take_of_length_le (by rw [E.len]; exact Nat.le_refl _), Enc.cs_one1]
  · rw [E.len, Nat.one_mul]
theorem ownE_two {α : Type} {E : Enc α} (w : World) (B : Nat) (T : TypeId) (x y : α) (hB : B ≤ w.heap.size) : OwnG E (w.alloc (.cells (E.c x ++ E.c y).toArray T (0, 0))) B T (.slice (some ⟨w.heap.size, 0, none⟩) 2 2) [x, y] := by
  refine OwnG.of_blk (L := [x, y]) (cap := 2) (Blk.new w T (E.c x ++ E.c y)) hB ?_ ?_ (by simp) (by simp [maxLen])
  · rw [List.take_of_length_le (by rw [List.length_append, E.len, E.len]; simp; omega)]
    simp [Enc.cs]
  · rw [List.length_append, E.len, E.len]; omega
theorem wpList_build1E {α : Type} {E : Enc α} {ty T : TypeId} (hb : ∀ (x : α) (w : World), (Instr.buildSlice ty 1 #[(0, .agg (E.c x).toArray)]).run Try.prog w = .ok (.slice (some ⟨w.heap.size, 0, none⟩) 1 1) (w.alloc (.cells (E.c x).toArray T (0, 0))))
    {ops : Array Oper} {rest : List Oper} {o : Oper} {a : Act} {w : World} {Q : Exit → Act → World → Prop} (hgd : o.guard = none) (x : Operand) (ho : o.op = .buildSlice ty 1 #[(0, x)]) (p : α) (hx : a.eval x = .agg (E.c p).toArray)
    (h : wpList Try.prog ops Q rest (a.put o.dst (.slice (some ⟨w.heap.size, 0, none⟩) 1 1)) (w.alloc (.cells (E.c p).toArray T (0, 0)))) : wpList Try.prog ops Q (o :: rest) a w := by
  refine wpList_run hgd _ ?_ h
  simp only [execOp, ho, hx, List.map_toArray, List.map_cons, List.map_nil, Sem.run_bind, Sem.run_pure]
  exact congrArg (fun r => Result.andThen r _) (hb p w)
theorem ret_rec {fn : Func} {p : Tmp} (h : fn.results = #[.cell p 27]) (tmps : Array Value) (w : World) (g : Nat) (x : Rc) (hp : tmps.getD p undef = .pointer (some ⟨g, 0, none⟩)) (hB : Blk w g 27 (RC x)) :
    (results fn tmps).run Try.prog w = .ok (.agg (RC x).toArray) w :=
  results_cell_row h _ _ g 27 _ (0, 0) _ hp hB Try.underlying27 rfl Try.size27
end Go.Proofs.Ytmicmbjbclkbjaa
