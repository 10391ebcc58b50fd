/-
  A row of texts of the law's own, beside its log.
-/
import Derived.Test.YtgdhjgfoalianaaDoorWStr
import Derived.Test.YtgdhjgfoalianaaDoorQSame
namespace Go.Proofs.YtgdhjgfoalianaaDoor
open Go.RowKit
open Pd (DM)

/-- Texts as cells. -/
def Tx (L : List (List UInt8)) : List Value := L.map fun t => Value.string ⟨t.toArray⟩
/-- The law's own row of texts, of colour 9. -/
structure MineT (w : World) (c : Nat → Nat) (v : Value) (L : List (List UInt8)) : Prop where
  own : w.ownsRow 0 9 1 v L.length (Tx L)
  col : ∀ b, v.ownBlock = some b → c b = 9
theorem mineT_nil (w : World) (c : Nat → Nat) : MineT w c (.slice none 0 0) [] := ⟨World.ownsRow_nil _ _ _ _, fun b hb => by simp [Value.ownBlock] at hb⟩
theorem MineT.block {w : World} {c : Nat → Nat} {v : Value} {L : List (List UInt8)} (h : MineT w c v L) {b : Nat} (hb : v.ownBlock = some b) : ∃ cur, w.heap[b]? = some (.cells cur 9 (0, 0)) := by
  rcases h.own.2 with ⟨rfl, _⟩ | ⟨g, cap, cur, rfl, _, hh, _⟩
  · simp [Value.ownBlock] at hb
  · have : g = b := by simpa [Value.ownBlock] using hb
    subst this
    exact ⟨cur, hh⟩
theorem MineT.lt {w : World} {c : Nat → Nat} {v : Value} {L : List (List UInt8)} (h : MineT w c v L) {b : Nat} (hb : v.ownBlock = some b) : b < w.heap.size := by
  obtain ⟨cur, hc⟩ := h.block hb
  exact (Array.getElem?_eq_some_iff.1 hc).1
theorem MineT.chg {w w' : World} {c c' : Nat → Nat} {F : Nat → Prop} {v : Value} {L : List (List UInt8)} (h : MineT w c v L) (hc : Chg F w w') (hF : ∀ b, v.ownBlock = some b → ¬ F b) (he : ∀ k, k < w.heap.size → c' k = c k) : MineT w' c' v L := by
  refine ⟨⟨h.own.1, ?_⟩, fun b hb => (he b (h.lt hb)).trans (h.col b hb)⟩
  rcases h.own.2 with h2 | ⟨g, cap, cur, rfl, hg, hh, q⟩
  · exact .inl h2
  · exact .inr ⟨g, cap, cur, rfl, hg, (hc.block g (Array.getElem?_eq_some_iff.1 hh).1 (hF g rfl)).trans hh, q⟩
theorem MineT.kept {w w' : World} {c : Nat → Nat} {v : Value} {L : List (List UInt8)} (h : MineT w c v L) (hb : Below w.heap.size w w') : MineT w' c v L := h.chg (F := fun _ => False) (Chg.of_below hb) (fun _ _ => id) (fun _ _ => rfl)
theorem MineT.step {w w' : World} {c c' : Nat → Nat} {v : Value} {L : List (List UInt8)} (h : MineT w c v L) (hs : Step c 1 w c' w') : MineT w' c' v L :=
  h.chg hs.chg (fun b hb e => by have := h.col b hb; omega) hs.ext
theorem MineT.apart {w : World} {c : Nat → Nat} {v : Value} {L : List (List UInt8)} (h : MineT w c v L) {Lg D E C Y : Nat} (hl : LogB w Lg D E C Y) {b : Nat} (hb : v.ownBlock = some b) : b ≠ Lg := fun e => by
  obtain ⟨cur, hc⟩ := h.block hb
  subst e
  have := hc.symm.trans hl
  simp at this
theorem MineT.stepL {w w' : World} {c c' : Nat → Nat} {v : Value} {L : List (List UInt8)} (h : MineT w c v L) {Lg D E C Y : Nat} (hl : LogB w Lg D E C Y) (hs : StepL c 1 Lg w c' w') : MineT w' c' v L :=
  h.chg hs.chg (fun b hb e => by
    rcases e with e | e
    · have := h.col b hb; omega
    · exact h.apart hl hb e) hs.ext
theorem MineT.form {w : World} {c : Nat → Nat} {v : Value} {L : List (List UInt8)} (h : MineT w c v L) : ∃ a cap, v = .slice a L.length cap := by
  rcases h.own.2 with ⟨rfl, h0⟩ | ⟨g, cap, cur, rfl, _⟩
  · exact ⟨none, 0, by rw [h0]⟩
  · exact ⟨_, _, rfl⟩
theorem MineT.rd {w : World} {c : Nat → Nat} {v : Value} {L : List (List UInt8)} (h : MineT w c v L) : RdT w v L := by
  have hr0 := h.own
  rcases h.own.2 with ⟨rfl, h0⟩ | ⟨g, cap, cur, rfl, _, hh, _⟩
  · exact ⟨none, 0, by rw [h0], fun h => by omega⟩
  · refine ⟨_, _, rfl, fun hp => ⟨g, 0, rfl, (Array.getElem?_eq_some_iff.1 hh).1, fun j hj => ?_⟩⟩
    have := World.ownsRow.cells hr0 (g := g) rfl j (.string ⟨L[j].toArray⟩) (by simp [Tx, hj])
    simpa [Addr.add_lit] using this
theorem OneC.grow {w0 w w' : World} {D n : Nat} {m : DM} {c : Nat → Nat} (h : OneC w0 w D n m c) {F : Nat → Prop} (hc : Chg F w w') (hF : ∀ k, F k → k < w.heap.size → c k = 9) : OneC w0 w' D n m (paint c w w' 9) := by
  obtain ⟨h1, h2, h3, h4⟩ := h
  refine ⟨h1.chg hc (fun k hk e f => by have := hF k f hk; omega) (fun k hk => paint_old hk), fun k hk => paint_norm hc.size hk, fun k hk => (paint_old (Nat.lt_of_lt_of_le hk h4.size)).trans (h3 k hk), h4.trans (hc.below h4.size (fun k hk f => ?_))⟩
  have h5 := hF k f (Nat.lt_of_lt_of_le hk h4.size)
  have h6 := h3 k hk
  omega
theorem Lw.grow {w0 w w' : World} {D n L E C Y : Nat} {m : DM} {c : Nat → Nat} (h : Lw w0 w D n L m E C Y c) {F : Nat → Prop} (hc : Chg F w w') (hF : ∀ k, F k → k < w.heap.size → c k = 9) (hL : ¬ F L) : Lw w0 w' D n L m E C Y (paint c w w' 9) :=
  ⟨h.one.grow hc hF, Blk.chg h.log hc hL, (paint_old h.log.lt).trans h.nine⟩
theorem Log1.grow {w0 w w' : World} {D n L Y : Nat} {ts : List (List UInt8)} {c : Nat → Nat} (h : Log1 w0 w D n L ts Y c) {F : Nat → Prop} (hc : Chg F w w') (hF : ∀ k, F k → k < w.heap.size → c k = 9) (hL : ¬ F L) : Log1 w0 w' D n L ts Y (paint c w w' 9) := by
  obtain ⟨m, h1, h2⟩ := h
  exact ⟨m, h1.grow hc hF hL, h2⟩
theorem Log1.logB {w0 w : World} {D n L Y : Nat} {ts : List (List UInt8)} {c : Nat → Nat} (h : Log1 w0 w D n L ts Y c) : LogB w L D (pads ts).length ts.length Y := by obtain ⟨m, h1, _⟩ := h; exact h1.log
theorem Tryd.info9 : (Tryd.prog.info? 9).map (fun i => (i.zero, i.size, i.bytes)) = some (some (.string ByteArray.empty), 1, 16) := by kernel_rfl
/-- The row behind an append. -/
theorem MineT.grown {w wa : World} {c : Nat → Nat} {v v' : Value} {L : List (List UInt8)} {t : List UInt8} (h : MineT w c v L) (ho : wa.ownsRow 0 9 1 v' (L.length + 1) (Tx L ++ [.string ⟨t.toArray⟩])) (hl : v'.ownBlock = v.ownBlock ∨ ∃ k, v'.ownBlock = some k ∧ w.heap.size ≤ k) :
    MineT wa (paint c w wa 9) v' (L ++ [t]) := by
  have hown : wa.ownsRow 0 9 1 v' (L ++ [t]).length (Tx (L ++ [t])) := by
    rw [List.length_append]
    simpa [Tx] using ho
  refine ⟨hown, fun b hb => ?_⟩
  rcases hl with e | ⟨k, e, hk⟩
  · rw [e] at hb
    rw [paint_old (h.lt hb)]
    exact h.col b hb
  · have hkb : k = b := by rw [e] at hb; simpa using hb
    subst hkb
    refine paint_new hk ?_
    rcases hown.2 with ⟨e', _⟩ | ⟨g, cap, cur, e', _, hh, _⟩
    · rw [e'] at hb; simp [Value.ownBlock] at hb
    · have : g = k := by rw [e'] at hb; simpa [Value.ownBlock] using hb
      subst this
      exact (Array.getElem?_eq_some_iff.1 hh).1
end Go.Proofs.YtgdhjgfoalianaaDoor
