/-
  indenturelaw01.PackLists: the walk: the call returns true and makes new memory alone.
-/
import Derived.Test.YtcfakmjkbgcbhabLives
import Derived.Test.YtcfakmjkbgcbhabRegion
import Derived.Test.YtcfakmjkbgcbhabSame
import Derived.Test.YtcfakmjkbgcbhabMixed
namespace Go.Proofs.Ytcfakmjkbgcbhab
open Go.RowKit

theorem encS_len (s : ByteArray) : (encS (sl s)).length ≤ 9 + s.size := by
  have := enc_length (sl s).length
  simp only [encS, List.length_append, sl_length] at *
  omega
theorem encT_len : ∀ ss : List ByteArray, (encT (sls ss)).length ≤ 9 * ss.length + sumS ss
  | [] => by simp [sls, encT]
  | s :: r => by
    have h1 := encT_len r
    have h2 := encS_len s
    have h3 : sumS (s :: r) = s.size + sumS r := by
      have := sumS_append [s] r
      simpa [sumS] using this
    simp only [sls, List.map_cons, encT, List.length_append, List.length_cons] at *
    omega
theorem lightB_spec {ss : List ByteArray} (h : lightB ss = true) : ss.length ≤ 300 ∧ ss.length + sumS ss ≤ 4000 := by
  simpa [lightB] using h

/-- Texts as strings. -/
def toS (ts : List (List UInt8)) : List ByteArray := ts.map fun t => ⟨t.toArray⟩
theorem toS_length (ts : List (List UInt8)) : (toS ts).length = ts.length := by simp [toS]
theorem OwnS.rdS {w : World} {B : Nat} {v : Value} {ts : List (List UInt8)} (h : OwnS w B v ts) : RdS w v (toS ts) := by
  have hc := h
  obtain ⟨h1, h2⟩ := h
  rcases h2 with ⟨rfl, hn⟩ | ⟨g, cap, cur, rfl, hg, hh, hnc, hcm, hcs, htk⟩
  · have : ts = [] := List.eq_nil_of_length_eq_zero hn
    subst this
    exact RdS_nil w
  · refine ⟨some ⟨g, 0, none⟩, cap, by rw [toS_length], by rw [toS_length]; exact hnc, hcm, fun h => by simp at h, fun _ => ⟨g, 0, rfl, ?_, fun j hj => ?_⟩⟩
    · exact (Array.getElem?_eq_some_iff.1 hh).1
    · rw [toS_length] at hj
      have := World.ownsRow.cells hc (g := g) rfl j (.string ⟨ts[j].toArray⟩) (by simp [hj])
      simpa [Addr.add_lit, toS] using this

theorem gL_len {l : List UInt8} {c m x : Nat} {ok : Bool} {ts : List (List UInt8)} (h : gL l c m = (ts, x, ok)) : ts.length ≤ l.length ∧ x ≤ l.length := by
  unfold gL at h
  rcases gn_cases l with hg | ⟨n, k, hg⟩
  · rw [hg] at h
    simp at h
    obtain ⟨rfl, rfl, -⟩ := h
    simp
  · obtain ⟨hk1, hk9, hkl, -, -⟩ := gn_ok hg
    rw [hg] at h
    simp only [true_and] at h
    split at h
    · cases hgl : gl l m k n with
      | none => rw [hgl] at h; simp at h; obtain ⟨rfl, rfl, -⟩ := h; simp
      | some q =>
        obtain ⟨us, y⟩ := q
        rw [hgl] at h
        simp at h
        obtain ⟨rfl, rfl, -⟩ := h
        obtain ⟨h1, h2, h3, h4, -, -⟩ := gl_ok hkl hk1 hgl
        omega
    · simp at h
      obtain ⟨rfl, rfl, -⟩ := h
      simp

end Go.Proofs.Ytcfakmjkbgcbhab
