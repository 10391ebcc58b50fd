/-
  Rows of versions that the call owns and writes to.
-/
import Derived.Test.YtcngkeilleeanaaMakesWalk
namespace Go.Proofs.Ytcngkeilleeanaa
open Go.RowKit
theorem VCs_set {L : List Ver} {i k : Nat} (hi : i < L.length) (hk : k < 3) {u : Value} {y : Ver} (hy : (VC L[i]).set k u = VC y) : (VCs L).set (i * 3 + k) u = VCs (L.set i y) := by
  have e : VCs L = VCs (L.take i) ++ (VC L[i] ++ VCs (L.drop (i + 1))) := by
    rw [← VCs_cons, ← VCs_append, ← List.drop_eq_getElem_cons hi, List.take_append_drop]
  have hl : (VCs (L.take i)).length = i * 3 := by rw [VCs_length, List.length_take]; congr 1; omega
  rw [e, List.set_append_right _ _ (by omega), hl, Nat.add_sub_cancel_left, List.set_append_left _ _ (by rw [VC_length]; exact hk), hy, List.set_eq_take_append_cons_drop, if_pos hi, VCs_append, VCs_cons]
/-- Where a row that the call owns lies. -/
theorem OwnV.at {w : World} {B : Nat} {e : TypeId} {v : Value} {L : List Ver} (h : OwnV w B e v L) (hp : 0 < L.length) : ∃ g cap, v = .slice (some ⟨g, 0, none⟩) L.length cap ∧ B ≤ g ∧ g < w.heap.size ∧ L.length ≤ cap ∧ cap ≤ maxLen ∧ ∃ cur, Blk w g e cur ∧ cur.length = cap * 3 ∧ cur.take (L.length * 3) = VCs L := by
  obtain ⟨h1, h2⟩ := h
  rcases h2 with ⟨_, hn⟩ | ⟨g, cap, cur, rfl, hg, hh, hnc, hcm, hcs, htk⟩
  · omega
  · exact ⟨g, cap, rfl, hg, (Array.getElem?_eq_some_iff.1 hh).1, hnc, hcm, cur.toList, by unfold Blk; simpa using hh, by simpa using hcs, htk⟩
/-- A cell of it is written. -/
theorem OwnV.store {w : World} {B : Nat} {e : TypeId} {g n cap : Nat} {L : List Ver} (h : OwnV w B e (.slice (some ⟨g, 0, none⟩) n cap) L) {i k : Nat} (hi : i < L.length) (hk : k < 3) {u : Value} {y : Ver} (hy : (VC L[i]).set k u = VC y) :
    OwnV (w.setCell ⟨g, i * 3 + k, none⟩ u) B e (.slice (some ⟨g, 0, none⟩) n cap) (L.set i y) := by
  obtain ⟨g', cap', hv, h1, h2, h3, h3', cur, h4, h5, h6⟩ := h.at (by omega)
  simp only [Value.slice.injEq, Option.some.injEq, Addr.mk.injEq, and_true] at hv
  obtain ⟨rfl, rfl, rfl⟩ := hv
  have hb := h4.set (i * 3 + k) u
  refine ⟨VCs_length _, .inr ⟨g, cap, (cur.set (i * 3 + k) u).toArray, by rw [List.length_set], h1, hb, by rw [List.length_set]; exact h3, h3', by simp [h5], ?_⟩⟩
  rw [List.length_set, List.toList_toArray, List.take_set, h6, VCs_set hi hk hy]
theorem OwnV.cellV {w : World} {B : Nat} {e : TypeId} {g n cap : Nat} {L : List Ver} (h : OwnV w B e (.slice (some ⟨g, 0, none⟩) n cap) L) {i : Nat} (hi : i < L.length) : w.rangeAt g (i * 3) (VC L[i]) ∧ (∀ j, w.frozen? ⟨g, j, none⟩ = false) := by
  obtain ⟨g', cap', hv, h1, h2, h3, h3', cur, h4, h5, h6⟩ := h.at (by omega)
  simp only [Value.slice.injEq, Option.some.injEq, Addr.mk.injEq, and_true] at hv
  obtain ⟨rfl, rfl, rfl⟩ := hv
  refine ⟨fun j u hj => h4.cell ?_, fun j => h4.frozen j⟩
  have hj3 : j < 3 := by have := (List.getElem?_eq_some_iff.1 hj).1; simpa [VC] using this
  have e1 := VCs_get hi hj
  rw [← h6, List.getElem?_take_of_lt (by omega)] at e1
  exact e1
/-- What the call owns lies in another block than b. -/
theorem OwnV.but {w w' : World} {B b : Nat} {e : TypeId} {v : Value} {L : List Ver} (h : OwnV w B e v L) (hb : But b w w') (hlt : b < B) : OwnV w' B e v L := by
  obtain ⟨h1, h2⟩ := h
  refine ⟨h1, ?_⟩
  rcases h2 with h2 | ⟨g, cap, cur, hv, hg, hh, r⟩
  · exact Or.inl h2
  · have hlt' : g < w.heap.size := (Array.getElem?_eq_some_iff.1 hh).1
    exact Or.inr ⟨g, cap, cur, hv, hg, by rw [hb.block g hlt' (by omega)]; exact hh, r⟩
theorem ownV_room (w : World) (B : Nat) (e : TypeId) (m : Nat) (hB : B ≤ w.heap.size) (hm : m ≤ maxLen) : OwnV (w.alloc (.cells (VCs (List.replicate m zv)).toArray e (0, 0))) B e (.slice (some ⟨w.heap.size, 0, none⟩) 0 m) [] :=
  ⟨rfl, .inr ⟨w.heap.size, m, (VCs (List.replicate m zv)).toArray, rfl, hB, heap_alloc_new w _, Nat.zero_le _, hm, by simp [VCs_length], by simp [VCs]⟩⟩
#print axioms OwnV.store
end Go.Proofs.Ytcngkeilleeanaa
