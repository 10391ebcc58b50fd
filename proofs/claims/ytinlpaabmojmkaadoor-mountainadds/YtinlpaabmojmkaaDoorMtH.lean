/-
  Hashes in lists, peaks: how they lie in memory, and laws for them.
-/
import Derived.Test.YtinlpaabmojmkaaDoorMtB
import Derived.Test.YtinlpaabmojmkaaDoorTag2
namespace Go.Proofs.YtinlpaabmojmkaaDoor
open Go.RowKit

/-- A hash. -/
abbrev Hs := {l : List UInt8 // l.length = 32}
/-- Hashes as cells. -/
def HE : Enc Hs := ⟨fun x => By x.1, 32, fun x => by rw [By_length]; exact x.2, fun x => By_one x.1⟩
/-- A hash as a value. -/
def HV (x : Hs) : Value := .agg (By x.1).toArray
def nd (x y : Hs) : Hs := ⟨tg 1 [x.1, y.1], tg_length _ _⟩
def em : Hs := ⟨sha [], sha_length _⟩
def zh : Hs := ⟨List.replicate 32 0, by simp⟩
theorem By_len (x : Hs) : (By x.1).length = 32 := by rw [By_length]; exact x.2
theorem Tryd.sizeH (x : Hs) : (Tryd.prog.info? 30).map (·.size) = some (By x.1).length := by rw [By_len]; exact Tryd.size30
theorem HV_inj {x y : Hs} : (x.1 == y.1) = decide (x = y) := by
  rw [Bool.eq_iff_iff]
  simp [Subtype.ext_iff]
theorem eqA (x y : Hs) (W : World) : (Op.equalIn 10000 30 (.agg (By x.1).toArray) (.agg (By y.1).toArray)).run Tryd.prog W = .ok (decide (x = y)) W := by
  rw [← HV_inj]
  exact eq30 x.1 y.1 x.2 y.2 W
/-- Two hashes held against each other. -/
theorem eqH (x y : Hs) (W : World) : (Op.equalIn 10000 30 (HV x) (HV y)).run Tryd.prog W = .ok (decide (x = y)) W := by
  rw [← HV_inj]
  exact eq30 x.1 y.1 x.2 y.2 W
/-- A whole array or struct over a block. -/
theorem wpList_store_blk {P : Program} {w : World} {ops : Array Oper} {rest : List Oper} {op : Oper} {a : Act} {Q : Exit → Act → World → Prop} (hgd : op.guard = none) (ty : TypeId) (x y : Operand) (ho : op.op = .store ty x y)
    (b : Nat) (cs ds : List Value) (T : TypeId) (hx : a.eval x = .pointer (some ⟨b, 0, none⟩)) (hy : a.eval y = .agg ds.toArray) (hB : Blk w b T cs) (hl : ds.length = cs.length)
    (hi : (P.info? ty).map (·.size) = some ds.length) (h1 : ∀ u ∈ ds, u.oneCell' = true)
    (h : ∀ w', Blk w' b T ds → But b w w' → wpList P ops Q rest (a.put op.dst undef) w') : wpList P ops Q (op :: rest) a w := by
  have t0 := hB.there 0 ds.length (by omega)
  refine wpList_store_mid hgd ty x y ho b 0 ds.toArray hx hy (by simpa using t0) (by simpa using hi) (all_one h1) ?_
  refine h _ ?_ (But.setCells b _ 0 w)
  have := Blk.over ds hB 0 (by omega)
  rwa [over_all _ _ hl.symm] at this
theorem wp_store_blk {P : Program} {w : World} {op : Oper} {a : Act} {K : Act → World → Prop} {Q : Exit → Act → World → Prop} (ty : TypeId) (x y : Operand) (ho : op.op = .store ty x y)
    (b : Nat) (cs ds : List Value) (T : TypeId) (hx : a.eval x = .pointer (some ⟨b, 0, none⟩)) (hy : a.eval y = .agg ds.toArray) (hB : Blk w b T cs) (hl : ds.length = cs.length)
    (hi : (P.info? ty).map (·.size) = some ds.length) (h1 : ∀ u ∈ ds, u.oneCell' = true)
    (h : ∀ w', Blk w' b T ds → But b w w' → K (a.put op.dst undef) w') : op.wp P a w K Q := by
  have t0 := hB.there 0 ds.length (by omega)
  refine wp_store_mid ty x y ho b 0 ds.toArray hx hy (by simpa using t0) (by simpa using hi) (all_one h1) ?_
  refine h _ ?_ (But.setCells b _ 0 w)
  have := Blk.over ds hB 0 (by omega)
  rwa [over_all _ _ hl.symm] at this
/-- A hash that a variable holds is what the call returns. -/
theorem ret_hash {fn : Func} {p : Tmp} (h : fn.results = #[.cell p 30]) (tmps : Array Value) (w : World) (g : Nat) (x : Hs) (hp : tmps.getD p undef = .pointer (some ⟨g, 0, none⟩)) (hB : Blk w g 30 (By x.1)) :
    (results fn tmps).run Tryd.prog w = .ok (HV x) w :=
  results_cell_row h _ _ g 30 _ (0, 0) _ hp hB Tryd.underlying30 rfl (by simpa using Tryd.sizeH x)
theorem hroot_len {l : List Hs} : (root nd em l).1.length = 32 := (root nd em l).2
/-- Room for a hash, and what was there. -/
theorem room_hash {w w0 : World} {N : Nat} (HN : Hid (w.heap.size = N)) (hw : w0 = w.alloc (.cells (By (List.replicate 32 0)).toArray 30 (0, 0))) :
    Blk w0 N 30 (By zh.1) ∧ Below N w w0 ∧ w0.heap.size = N + 1 := by
  subst hw
  refine ⟨by rw [← HN.out]; exact Blk.new w 30 (By (List.replicate 32 0)), (Below.refl _ _).alloc (by rw [HN.out]; exact Nat.le_refl _) _, by simp [HN.out]⟩
theorem hnode_any (x y : Hs) (w : World) (hT : Tabs w) : Calls Tryd.prog 23 #[HV x, HV y] w fun e w' => e = .returned (HV (nd x y)) ∧ Below w.heap.size w w' := node_any x.1 y.1 x.2 y.2 w hT
theorem rnode_any (x y : Hs) (w : World) : Calls Tryd.prog 20 #[HV x, HV y] w fun e w' => e = .returned (HV (nd x y)) ∧ Below w.heap.size w w' := refNode_any x.1 y.1 x.2 y.2 w
theorem hempty_any (w : World) (hT : Tabs w) : Calls Tryd.prog 22 #[] w fun e w' => e = .returned (HV em) ∧ Below w.heap.size w w' := empty_any w hT
theorem rempty_any (w : World) : Calls Tryd.prog 24 #[] w fun e w' => e = .returned (HV em) ∧ Below w.heap.size w w' := refEmpty_any w
theorem RdG.cap' {α : Type} {E : Enc α} {w : World} {v : Value} {L : List α} (h : RdG E w v L) : L.length ≤ 9223372036854775807 := by
  obtain ⟨a, cap, rfl, h1, h2, -⟩ := h
  unfold maxLen at h2
  omega
#print axioms wpList_store_blk
end Go.Proofs.YtinlpaabmojmkaaDoor
