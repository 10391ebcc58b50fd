/-
  A store and a session beside each other.
-/
import Derived.Test.YtcicekggeampcaaSeG
namespace Go.Proofs.Ytcicekggeampcaa
open Go.RowKit
/-- What changes blocks that are none of the store's leaves the store. -/
theorem LS.chg {w wr wr' : World} {D i : Nat} {s : SP} {O F : Nat → Prop} (h : LS w wr D i s O) (hc : Chg F wr wr') (hF : ∀ b, F b → O b ∧ w.heap.size ≤ b) (hn : NoCh wr F) : LS w wr' D i s O := by
  obtain ⟨M, vk, ks, h1, h2, h3, h4⟩ := h
  exact ⟨M, vk, ks, ⟨h1.st.chg hc (fun b hb hf => (h4 b (hF b hf).1).2 hb) hn, h1.hD, h1.hM, h1.hk, h1.lo.trans (hc.below h1.lo.size (fun k hk hf => by have := (hF k hf).2; omega))⟩, h2, h3, fun b hb => ⟨Nat.lt_of_lt_of_le (h4 b hb).1 hc.size, (h4 b hb).2⟩⟩
/-- Blocks that are new are none of the store's. -/
theorem LS.more {w wr wr' : World} {D i : Nat} {s : SP} {O O' : Nat → Prop} (h : LS w wr D i s O) (hb : Below wr.heap.size wr wr') (hO : ∀ b, O' b → O b ∨ (wr.heap.size ≤ b ∧ b < wr'.heap.size)) : LS w wr' D i s O' := by
  obtain ⟨M, vk, ks, h1, h2, h3, h4⟩ := h
  refine ⟨M, vk, ks, h1.kept hb, h2, h3, fun b hb' => ?_⟩
  rcases hO b hb' with h | h
  · exact ⟨Nat.lt_of_lt_of_le (h4 b h).1 hb.size, (h4 b h).2⟩
  · exact ⟨h.2, fun hm => by have := h1.st.lt hm; omega⟩
/-- What changes blocks that are none of the store's leaves the store; and new blocks are none of its. -/
theorem LS.step {w wr wr' : World} {D i : Nat} {s : SP} {O O' F : Nat → Prop} (h : LS w wr D i s O) (hc : Chg F wr wr') (hF : ∀ b, F b → O b ∧ w.heap.size ≤ b) (hn : NoCh wr F) (hO : ∀ b, O' b → (O b ∨ wr.heap.size ≤ b) ∧ b < wr'.heap.size) : LS w wr' D i s O' := by
  obtain ⟨M, vk, ks, h1, h2, h3, h4⟩ := h
  refine ⟨M, vk, ks, ⟨h1.st.chg hc (fun b hb hf => (h4 b (hF b hf).1).2 hb) hn, h1.hD, h1.hM, h1.hk, h1.lo.trans (hc.below h1.lo.size (fun k hk hf => by have := (hF k hf).2; omega))⟩, h2, h3, fun b hb => ⟨(hO b hb).2, fun hm => ?_⟩⟩
  rcases (hO b hb).1 with h5 | h5
  · exact (h4 b h5).2 hm
  · have := h1.st.lt hm
    omega
theorem SesAt.lt {w : World} {B X : Nat} {id : Int} {o : Option (Tb × Tx)} (h : SesAt w B X id o) {k : Nat} (hk : SG X o k) : k < w.heap.size := by
  cases o with
  | none => cases hk; exact h.x.lt
  | some z =>
    obtain ⟨b, t⟩ := z
    rcases hk with rfl | hk
    · exact h.x.lt
    · exact (h.tx b t rfl).lt hk
theorem SesAt.noch {w : World} {B X : Nat} {id : Int} {o : Option (Tb × Tx)} (h : SesAt w B X id o) : NoCh w (SG X o) := by
  intro k cur hb hk
  have hX : k ≠ X := fun e => by rw [e] at hb; exact cells_ne hb h.x (by decide) rfl
  cases o with
  | none => exact hX hk
  | some z =>
    obtain ⟨b, t⟩ := z
    have ht := h.tx b t rfl
    rcases hk with hk | hk | hk | hk | hk
    · exact hX hk
    · rw [hk] at hb; exact cells_ne hb ht.d (by decide) rfl
    · rw [hk] at hb; exact cells_map hb ht.set.block rfl
    · rw [hk] at hb; exact cells_map hb ht.buf.mp.block rfl
    · obtain ⟨_, _, cur', hc⟩ := ht.row.block hk
      exact cells_ne hb hc (by decide) rfl
/-- A store and a session that the law made at w0. -/
structure Duo (w0 w : World) (D i : Nat) (s : SP) (X : Nat) (id : Int) (o : Option (Tb × Tx)) : Prop where
  ls : LS w0 w D i s (SG X o)
  ss : SesAt w w0.heap.size X id o
theorem Duo.kept {w0 w w' : World} {D i : Nat} {s : SP} {X : Nat} {id : Int} {o : Option (Tb × Tx)} (h : Duo w0 w D i s X id o) (hb : Below w.heap.size w w') : Duo w0 w' D i s X id o := ⟨h.ls.kept hb, h.ss.kept hb⟩
/-- What the session does leaves the store. -/
theorem Duo.step {w0 w w' : World} {D i : Nat} {s : SP} {X : Nat} {id : Int} {o o' : Option (Tb × Tx)} (h : Duo w0 w D i s X id o) (hs : SesAt w' w0.heap.size X id o') {F : Nat → Prop} (hc : Chg F w w') (hF : ∀ k, F k → SG X o k) (hG : ∀ k, SG X o' k → SG X o k ∨ w.heap.size ≤ k) : Duo w0 w' D i s X id o' :=
  ⟨h.ls.step (hc.mono (fun k _ hk => hF k hk)) (fun _ hb => ⟨hb, h.ss.ge hb⟩) h.ss.noch (fun k hb => ⟨hG k hb, hs.lt hb⟩), hs⟩
end Go.Proofs.Ytcicekggeampcaa
