/-
  indentureref01.Same, indenturelaw01.light: what the calls do.
-/
import Derived.Test.YtcfakmjkbgcbhabRefGetList
namespace Go.Proofs.Ytcfakmjkbgcbhab
open Go.RowKit

theorem ba_ne {s t : ByteArray} (h : s ≠ t) : (s.toList == t.toList) = false := by
  rw [beq_eq_false_iff_ne, ByteArray.toList_eq, ByteArray.toList_eq]
  exact fun e => h (WideShapes.bytes_inj e)

theorem foldl_add (l : List Nat) : ∀ a, l.foldl (· + ·) a = a + l.foldl (· + ·) 0 := by
  induction l with
  | nil => intro a; simp
  | cons x r ih => intro a; simp only [List.foldl_cons]; rw [ih (a + x), ih (0 + x)]; omega
def sumS (ss : List ByteArray) : Nat := (ss.map ByteArray.size).foldl (· + ·) 0
theorem sumS_nil : sumS [] = 0 := rfl
theorem sumS_append (a b : List ByteArray) : sumS (a ++ b) = sumS a + sumS b := by
  unfold sumS
  rw [List.map_append, List.foldl_append, foldl_add]
theorem sumS_take (ss : List ByteArray) (i : Nat) (h : i < ss.length) : sumS (ss.take (i + 1)) = sumS (ss.take i) + ss[i].size := by
  rw [List.take_succ_eq_append_getElem h, sumS_append]
  simp [sumS]
theorem sumS_take_le (ss : List ByteArray) (i : Nat) : sumS (ss.take i) ≤ sumS ss := by
  have h := congrArg sumS (List.take_append_drop i ss)
  rw [sumS_append] at h
  omega

/-- Are texts not more, nor longer, than are looked at? -/
def lightB (ss : List ByteArray) : Bool := decide (ss.length ≤ 300) && decide (ss.length + sumS ss ≤ 4000)

end Go.Proofs.Ytcfakmjkbgcbhab
