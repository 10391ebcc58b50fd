/-
  Operations that yield a value: one that makes memory, a row that is loaded, []byte(s).
-/
import Derived.Test.YtmicmbjbclkbjaaRegion
namespace Go.Proofs.Ytmicmbjbclkbjaa
open Go.RowKit
/-- An operation that yields a value and makes new memory alone. -/
theorem wp_grow {P : Program} {o : Oper} {a : Act} {w : World} {S : World → Value → Prop} {Q : Exit → Act → World → Prop} (v : Value) (w1 : World) (hrun : (execOp a.eval o).run P w = .ok (.value v) w1) (hg : Gr w w1) (hS : S w1 v) :
    o.wp P a w (fun a' w' => ∃ v, a' = a.put o.dst v ∧ S w' v ∧ Gr w w') Q := by
  unfold Oper.wp
  rw [hrun]
  exact ⟨v, rfl, hS, hg⟩
/-- A row of cells is loaded. -/
theorem wp_load_row {P : Program} {o : Oper} {a : Act} {w : World} {S : World → Value → Prop} {Q : Exit → Act → World → Prop} (ty : TypeId) (x : Operand) (ho : o.op = .load ty x) (b off : Nat) (hx : a.eval x = .pointer (some ⟨b, off, none⟩))
    (cs : List Value) (d : TypeDesc) (hc : w.rangeAt b off cs) (hu : P.underlying ty = some d) (hd : d.isRow = true) (hi : (P.info? ty).map (·.size) = some cs.length) (hS : S w (.agg cs.toArray)) :
    o.wp P a w (fun a' w' => ∃ v, a' = a.put o.dst v ∧ S w' v ∧ Gr w w') Q := by
  refine wp_value (.agg cs.toArray) ?_ hS
  simp only [execOp, ho, hx, Instr.loadAt, Instr.sureAddr, Sem.run_bind, Sem.run_pure, Result.andThen_ok, run_loadVar_mid w b off ty cs d hc hu hd hi]
/-- []byte(s). -/
theorem str_bytes (w : World) (l : List UInt8) (hl : l.length ≤ maxLen) : ∃ a cap w1, (convert 9 22 (.string ⟨l.toArray⟩)).run Try.prog w = .ok (.slice a l.length cap) w1 ∧ Rd w1 (.slice a l.length cap) l ∧ Gr w w1 := by
  have hrun := run_bytes_of_string (P := Try.prog) w 9 22 5 ⟨l.toArray⟩ Try.underlying9 Try.underlying22 Try.underlying5
  have hsz : (⟨l.toArray⟩ : ByteArray).size = l.length := by simp [ByteArray.size]
  rw [hsz] at hrun
  refine ⟨_, _, _, hrun, ?_, ?_⟩
  · have hge := grownCap_ge w l.length 0 5
    refine ⟨_, _, rfl, hge, grownCap_le_maxLen w l.length 0 5 hl, fun h => by simp at h, fun hp => ⟨w.heap.size, 0, rfl, by simp, fun j u hj => ?_⟩⟩
    have hjl : j < l.length := by have := (List.getElem?_eq_some_iff.1 hj).1; rwa [By_length] at this
    rw [Nat.zero_add]
    refine (World.cell?_alloc_mark w.drew _ _ _ j).trans ?_
    rw [← hj, By_get hjl]
    simp [bytesRow, Array.getElem?_append, hjl]
  · exact ((Below.refl _ _).drew).alloc (Nat.le_refl _) _
/-- []byte(s), in a walk. -/
theorem wpList_str_bytes {ops : Array Oper} {rest : List Oper} {o : Oper} {a : Act} {w : World} {Q : Exit → Act → World → Prop} (hgd : o.guard = none) (x : Operand) (ho : o.op = .convert 9 22 x) (l : List UInt8) (hl : l.length ≤ maxLen) (hx : a.eval x = .string ⟨l.toArray⟩)
    (h : ∀ ad cap w1, Rd w1 (.slice ad l.length cap) l → Gr w w1 → wpList Try.prog ops Q rest (a.put o.dst (.slice ad l.length cap)) w1) : wpList Try.prog ops Q (o :: rest) a w := by
  refine wpList_plain hgd fun K hK => ?_
  obtain ⟨ad, cap, w1, hr, h1, h2⟩ := str_bytes w l hl
  unfold Oper.wp execOp
  simp only [ho, hx, hr, Sem.run_bind, Result.andThen_ok]
  exact hK _ _ (h ad cap w1 h1 h2)
end Go.Proofs.Ytmicmbjbclkbjaa
