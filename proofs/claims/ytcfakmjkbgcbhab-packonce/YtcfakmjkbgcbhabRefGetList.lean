/-
  indentureref01.GetList: what the call does.
-/
import Derived.Test.YtcfakmjkbgcbhabGetList
namespace Go.Proofs.Ytcfakmjkbgcbhab
open Go.RowKit

/-- What a call that reads a list leaves. -/
def LPost (w : World) (l : List UInt8) (c m : Nat) (e : Ending) (w' : World) : Prop :=
  ∃ v' ts x ok, e = .returned (.tuple #[v', .int .i64 ((x : Nat) : Int), .bool ok]) ∧ OwnS w' w.heap.size v' ts ∧ gL l c m = (ts, x, ok) ∧ Below w.heap.size w w'
theorem LPost.mk {w : World} {l : List UInt8} {c m : Nat} {e : Ending} {w' : World} (v' : Value) (ts : List (List UInt8)) (x : Nat) (ok : Bool) (he : e = .returned (.tuple #[v', .int .i64 (x : Int), .bool ok])) (h1 : OwnS w' w.heap.size v' ts) (h2 : gL l c m = (ts, x, ok)) (h3 : Below w.heap.size w w') : LPost w l c m e w' :=
  ⟨v', ts, x, ok, he, h1, h2, h3⟩

/-- b[x:] where nothing stands behind x, nor may. -/
theorem slice_end (b off n cap x : Nat) (hx : x ≤ n) (hc : cap = x) (W : World) : (Instr.slice 22 (.slice (some ⟨b, off, none⟩) n cap) (some (.int .i64 (x : Int))) none none).run Try.prog W = .ok (.slice (some ⟨b, off, none⟩) (n - x) 0) W := by
  have hu : Try.prog.underlying 22 = some (.slice (Try.prog.elem 22)) := by kernel_rfl
  have hs : (sizeOf (Try.prog.elem 22)).run Try.prog W = .ok 1 W := by
    have he : Try.prog.elem 22 = 5 := by kernel_rfl
    obtain ⟨i0, hi, hz0, hz1, hz2⟩ := info_parts Try.info5
    rw [he]
    simp [sizeOf, typeInfo, hi, hz1]
  rw [run_slice_l W 22 _ _ _ hu .i64 (x : Int) (by omega) (by omega), hs]
  subst hc
  simp [Result.andThen, sliced]

end Go.Proofs.Ytcfakmjkbgcbhab
