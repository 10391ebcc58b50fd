/-
  Operations that yield a value: one that makes memory, a row that is loaded, []byte(s).
-/
import Derived.Test.YthniaoacanabdaaRegion
namespace Go.Proofs.Ythniaoacanabdaa
open Go.RowKit
/-- An operation that yields a value and makes new memory alone. -/
theorem wp_grow {P : Program} {o : Oper} {a : Act} {w : World} {S : World → Value → Prop} {Q : Exit → Act → World → Prop} (v : Value) (w1 : World) (hrun : (execOp a.eval o).run P w = .ok (.value v) w1) (hg : Gr w w1) (hS : S w1 v) :
    o.wp P a w (fun a' w' => ∃ v, a' = a.put o.dst v ∧ S w' v ∧ Gr w w') Q := by
  unfold Oper.wp
  rw [hrun]
  exact ⟨v, rfl, hS, hg⟩
/-- A row of cells is loaded. -/
theorem wp_load_row {P : Program} {o : Oper} {a : Act} {w : World} {S : World → Value → Prop} {Q : Exit → Act → World → Prop} (ty : TypeId) (x : Operand) (ho : o.op = .load ty x) (b off : Nat) (hx : a.eval x = .pointer (some ⟨b, off, none⟩))
    (cs : List Value) (d : TypeDesc) (hc : w.rangeAt b off cs) (hu : P.underlying ty = some d) (hd : d.isRow = true) (hi : (P.info? ty).map (·.size) = some cs.length) (hS : S w (.agg cs.toArray)) :
    o.wp P a w (fun a' w' => ∃ v, a' = a.put o.dst v ∧ S w' v ∧ Gr w w') Q := by
  refine wp_value (.agg cs.toArray) ?_ hS
  simp only [execOp, ho, hx, Instr.loadAt, Instr.sureAddr, Sem.run_bind, Sem.run_pure, Result.andThen_ok, run_loadVar_mid w b off ty cs d hc hu hd hi]
end Go.Proofs.Ythniaoacanabdaa
