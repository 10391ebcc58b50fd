/-
  Several disks that a law made, apart by their colours; acts in a list.
-/
import Derived.Test.YtgdhjgfoalianaaDoorWLight
import Derived.Test.YtgdhjgfoalianaaDoorGDc
namespace Go.Proofs.YtgdhjgfoalianaaDoor
open Go.RowKit
open Pd (DM)
/-- The colours of a law that began at w0. -/
structure Sea (w0 w : World) (c : Nat → Nat) : Prop where
  norm : Norm c w
  low : Low c w0.heap.size
  below : Below w0.heap.size w0 w
theorem Sea.kept {w0 w w' : World} {c : Nat → Nat} (h : Sea w0 w c) (hb : Below w.heap.size w w') : Sea w0 w' c := ⟨h.norm.kept hb.size, h.low, h.below.trans (hb.mono h.below.size)⟩
theorem Sea.step {w0 w w' : World} {c c' : Nat → Nat} {i : Nat} (h : Sea w0 w c) (hs : Step c i w c' w') (hi : i ≠ 0) : Sea w0 w' c' := ⟨hs.norm, h.low.step hs h.below.size, h.below.trans (hs.below hi h.below.size h.low)⟩
theorem Sea.cool {w0 w : World} {c : Nat → Nat} (h : Sea w0 w c) {v : Value} {l : List UInt8} (hr : Rd w0 v l) : Cool c v := fun x hx => h.low x (hr.inB_lt hx)
theorem Sea.coolN {w0 w : World} {c : Nat → Nat} (h : Sea w0 w c) {v : Value} {l : List Int} (hr : RdN w0 v l) : Cool c v := fun x hx => h.low x (hr.inB_lt hx)
/-- An act of a list. -/
theorem RdL.nth {w w' : World} {a : Option Addr} {n cp : Nat} {L : List ActP} (h : RdL w (.slice a n cp) L) (hn : L.length = n) (hb : Below w.heap.size w w') {i : Nat} (hi : i < n) :
    ∃ b off p ab cb ak ck, a = some ⟨b, off, none⟩ ∧ L[i]? = some p ∧ w'.rangeAt b (off + i * 5) (AC p (.slice ab p.B.length cb) (.slice ak p.keep.length ck)) ∧ IsA w p (.slice ab p.B.length cb) (.slice ak p.keep.length ck) := by
  obtain ⟨a', cp', e', _, _, h3⟩ := h
  simp only [Value.slice.injEq] at e'
  obtain ⟨rfl, -, rfl⟩ := e'
  have hlt' : i < L.length := by rw [hn]; exact hi
  obtain ⟨b, off, rfl, hlb, hx⟩ := h3 (by omega)
  obtain ⟨vb, vk, hr0, hA⟩ := hx i hlt'
  obtain ⟨ab, cb, hvb, -⟩ := hA.b
  obtain ⟨ak, ck, hvk, -⟩ := hA.k
  subst hvb hvk
  exact ⟨b, off, L[i], ab, cb, ak, ck, rfl, List.getElem?_eq_getElem hlt', fun j u hj => (hb.cell (p := ⟨b, off + i * 5 + j, none⟩) hlb).trans (hr0 j u hj), hA⟩
theorem Light.nth {L : List ActP} {i : Nat} {p : ActP} (h : Light L) (hp : L[i]? = some p) : (p.B.length ≤ 400 ∨ 8192 < p.B.length) ∧ p.B.length ≤ 30000 ∧ p.keep.length ≤ 100 := h.2 p (List.mem_of_getElem? hp)
end Go.Proofs.YtgdhjgfoalianaaDoor
