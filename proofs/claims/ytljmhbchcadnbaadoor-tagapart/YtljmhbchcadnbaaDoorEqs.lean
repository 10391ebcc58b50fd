/-
  Two pairs of hashes held against each other.
-/
import Derived.Test.YtljmhbchcadnbaaDoorHashesWalk
namespace Go.Proofs.YtljmhbchcadnbaaDoor
open Go.RowKit
theorem Tryd.size25 : (Tryd.prog.info? 25).map (·.size) = some 64 := by kernel_rfl
theorem part24 (cs : List Value) (off : Nat) (W : World) : (part 24 cs.toArray off).run Tryd.prog W = .ok (.agg ((cs.drop off).take 32).toArray) W := by
  unfold part
  simp [isAgg, run_underlying Tryd.underlying24]
theorem size24w : ∀ w, (sizeOf 24).run Tryd.prog w = .ok 32 w := fun w => by
  cases hq : Tryd.prog.info? 24 with
  | none => have := Tryd.size24; simp [hq] at this
  | some i =>
    have : i.size = 32 := by have := Tryd.size24; simpa [hq] using this
    simp [sizeOf, typeInfo, hq, this]
theorem eq24' (X Y : List UInt8) (hX : X.length = 32) (hY : Y.length = 32) (W : World) : (Op.equalIn 9999 24 (.agg (By X).toArray) (.agg (By Y).toArray)).run Tryd.prog W = .ok (X == Y) W :=
  run_equalIn_bytes W 9997 24 5 32 Tryd.underlying24 Tryd.underlying5 size5w X Y hX hY
theorem append_beq (x y p q : List UInt8) (h : x.length = p.length) : (x ++ y == p ++ q) = (x == p && y == q) := by
  rw [Bool.eq_iff_iff]
  simp only [beq_iff_eq, Bool.and_eq_true]
  exact ⟨fun e => List.append_inj e h, fun ⟨e, f⟩ => by rw [e, f]⟩
theorem eq25 (x y p q : List UInt8) (hx : x.length = 32) (hy : y.length = 32) (hp : p.length = 32) (hq : q.length = 32) (W : World) :
    (Op.equalIn 10000 25 (.agg (By (x ++ y)).toArray) (.agg (By (p ++ q)).toArray)).run Tryd.prog W = .ok (x ++ y == p ++ q) W := by
  have c0 : ∀ (s t : List UInt8), s.length = 32 → t.length = 32 → ((By (s ++ t)).drop (0 * 32)).take 32 = By s := fun s t h _ => by
    rw [Nat.zero_mul, List.drop_zero, By_append, List.take_append_of_le_length (by rw [By_length]; omega), List.take_of_length_le (by rw [By_length]; omega)]
  have c1 : ∀ (s t : List UInt8), s.length = 32 → t.length = 32 → ((By (s ++ t)).drop (1 * 32)).take 32 = By t := fun s t h h' => by
    rw [Nat.one_mul, By_append, List.drop_append_of_le_length (by rw [By_length]; omega), List.drop_eq_nil_of_le (by rw [By_length]; omega), List.nil_append, List.take_of_length_le (by rw [By_length]; omega)]
  rw [append_beq x y p q (by omega), Op.equalIn]
  simp only [Sem.run_bind, run_underlying Tryd.underlying25, Result.andThen_ok, size24w, Std.Legacy.Range.forIn_eq_forIn_range', Std.Legacy.Range.size, Nat.sub_zero, Nat.add_sub_cancel, Nat.div_one]
  simp only [List.range', List.forIn_cons, List.forIn_nil, Sem.run_bind, part24, c0 x y hx hy, c0 p q hp hq, Result.andThen_ok, eq24' x p hx hp]
  cases h1 : (x == p) with
  | false => simp
  | true => 
    simp only [Bool.not_true, Bool.false_eq_true, if_false, Sem.run_pure, Result.andThen_ok, Sem.run_bind, part24, Nat.zero_add, c1 x y hx hy, c1 p q hp hq, eq24' y q hy hq]
    cases h2 : (y == q) <;> simp
theorem eq23 (X Y : List UInt8) (hX : X.length = 32) (hY : Y.length = 32) (W : World) : (Op.equalIn 10000 23 (.agg (By X).toArray) (.agg (By Y).toArray)).run Tryd.prog W = .ok (X == Y) W :=
  run_equalIn_bytes W 9998 23 5 32 Tryd.underlying23 Tryd.underlying5 size5w X Y hX hY
end Go.Proofs.YtljmhbchcadnbaaDoor
