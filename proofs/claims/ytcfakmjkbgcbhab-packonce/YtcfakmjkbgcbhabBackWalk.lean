/-
  indenturelaw01.PackBack: the walk: the call returns true and makes new memory alone.
-/
import Derived.Test.YtcfakmjkbgcbhabListsWalk
import Derived.Test.YtcfakmjkbgcbhabPlain3
namespace Go.Proofs.Ytcfakmjkbgcbhab
open Go.RowKit

theorem toS_sls (ss : List ByteArray) : toS (sls ss) = ss := by
  unfold toS sls sl
  rw [List.map_map]
  conv => rhs; rw [← List.map_id ss]
  apply List.map_congr_left
  intro s _
  rfl

theorem mem_size_le {ss : List ByteArray} {s : ByteArray} (h : s ∈ ss) : s.size ≤ sumS ss := by
  obtain ⟨a, b, rfl⟩ := List.append_of_mem h
  have h1 := sumS_append a (s :: b)
  have h2 := sumS_append [s] b
  simp only [List.singleton_append] at h2
  rw [h2] at h1
  have h3 : sumS [s] = s.size := by simp [sumS]
  omega

theorem light_sls {ss : List ByteArray} (h1 : ss.length ≤ 300) (h2 : ss.length + sumS ss ≤ 4000) : (sls ss).length ≤ 300 ∧ (sls ss).length < 256 ^ 8 ∧ ∀ t ∈ sls ss, t.length ≤ 4000 ∧ t.length < 256 ^ 8 := by
  have hp : (256 : Nat) ^ 8 = 18446744073709551616 := by decide
  refine ⟨by rw [sls_length]; exact h1, by rw [sls_length]; omega, fun t ht => ?_⟩
  obtain ⟨s, hs, rfl⟩ := List.mem_map.1 ht
  have := mem_size_le hs
  rw [sl_length]
  omega

theorem wf_small {z : Int} (h1 : -1 ≤ z) (h2 : z ≤ 4000) : (Lit.int .i64 z).wf = true := by
  simp [Lit.wf, IntKind.min, IntKind.max, IntKind.signed, IntKind.bits]
  omega

theorem few_is (ss : List ByteArray) (q2 : (sls ss).length < 256 ^ 8) (q3 : ∀ t ∈ sls ss, t.length ≤ 4000 ∧ t.length < 256 ^ 8) : (gL (encL (sls ss)) ((ss.length : Int) - 1).toNat 4000).2.2 = ((ss.length : Int) == 0) := by
  rcases Nat.eq_zero_or_pos ss.length with h0 | h0
  · have := gL_enc (sls ss) [] ((ss.length : Int) - 1).toNat 4000 (by rw [sls_length]; omega) q2 q3
    rw [List.append_nil] at this
    rw [this]
    simp [h0]
  · have hg : gn (encL (sls ss)) = ((sls ss).length, (enc (sls ss).length).length, true) := by
      have := gn_enc (sls ss).length (encT (sls ss)) q2
      exact this
    rw [gL_no hg (by rw [sls_length]; omega)]
    exact (beq_eq_false_iff_ne.2 (by omega)).symm

/-- How many it has, of what is owned. -/
theorem Own.form {w : World} {B : Nat} {v : Value} {l : List UInt8} (h : Own w B v l) : ∃ a cap, v = .slice a l.length cap ∧ l.length ≤ cap ∧ (0 < l.length → ∃ b off, a = some ⟨b, off, none⟩) := by
  obtain ⟨a, cap, rfl, h1, -, -, h4⟩ := h.rd
  exact ⟨a, cap, rfl, h1, fun hp => by obtain ⟨b, off, e, -⟩ := h4 hp; exact ⟨b, off, e⟩⟩

end Go.Proofs.Ytcfakmjkbgcbhab
