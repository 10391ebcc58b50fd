/-
  What laws ask of the records that come in; append of a row of any length.
-/
import Derived.Test.YthniaoacanabdaaCtV
namespace Go.Proofs.Ythniaoacanabdaa
open Go.RowKit
theorem kok_of {B : Nat} {r : Rc} (hb : RB B r) (hB : B < 9223372036854775807) (hl : LtR r) : KOk r :=
  ⟨by have := hl.wl; omega, by have := hl.rl; omega, fun p hp => Nat.lt_of_le_of_lt (hb.ws p hp).1 hB, fun x hx => Nat.lt_of_le_of_lt (hb.rs x hx).k hB⟩
/-- append(own, row...), however long the row. -/
theorem wpList_append_B {α : Type} {E : Enc α} {P : Program} {t e : TypeId} {bytes : Nat} (ht : P.underlying t = some (.slice e)) (hi : ∃ i z, P.info? e = some i ∧ i.zero = some z ∧ i.size = E.n ∧ i.bytes = bytes ∧ z.cells.size = E.n)
    {ops : Array Oper} {rest : List Oper} {o : Oper} {a : Act} {w : World} {Q : Exit → Act → World → Prop} (hgd : o.guard = none) (s x : Operand) (ho : o.op = .call { callee := .builtin .append, args := #[s, x], argTypes := #[t, t] }) (base : Nat)
    (v : Value) (L : List α) (hv : a.eval s = v) (hown : OwnG E w base e v L) (xv : Value) (M : List α) (hx : a.eval x = xv) (hr : RdG E w xv M) (hlen : (L.length + M.length) * bytes ≤ 140737488355328) (hmax : L.length + M.length ≤ maxLen) (hbase : base ≤ w.heap.size)
    (h : ∀ v' w', OwnG E w' base e v' (L ++ M) → w.grownBy w' v.ownBlock → wpList P ops Q rest (a.put o.dst v') w') : wpList P ops Q (o :: rest) a w := by
  obtain ⟨i, z, h1, h2, h3, h4, h5⟩ := hi
  obtain ⟨v', w', g1, g2, g3, g4⟩ := run_append_at (P := P) w base t t o.type e i z E.n bytes ht h1 h2 h3 h4 h5 v L.length (E.cs L) hown xv M.length (E.cs M) (hr.src t e ht) hmax hlen hbase
  refine wpList_plain hgd fun _ hK => wp_append10 s x t t ho hv hx g1 (hK _ _ (h v' w' ?_ g3))
  unfold OwnG
  rw [List.length_append, Enc.cs_append]
  exact g2
/-- A row that begins with a record of the law's own, others behind. -/
theorem rdR_cons {w w' : World} {r : Rc} {L : List Rc} {v' : Value} {B : Nat} {T : TypeId} (h : ROk w r) (ho : OwnG RE w' B T v' ([r] ++ L)) (hb : Below w.heap.size w w') (hL : ∀ x ∈ L, ROk w x) : RdR9 w' v' (r :: L) :=
  ⟨ho.rd, fun x hx => by
    rcases List.mem_cons.1 hx with rfl | hx
    · exact h.kept hb
    · exact (hL x hx).kept hb⟩
end Go.Proofs.Ythniaoacanabdaa
