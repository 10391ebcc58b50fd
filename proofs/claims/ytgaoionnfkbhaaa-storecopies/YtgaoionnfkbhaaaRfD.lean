/-
  The store and the reference's store beside each other.
-/
import Derived.Test.YtgaoionnfkbhaaaRfC
namespace Go.Proofs.Ytgaoionnfkbhaaa
open Go.RowKit
theorem RdV.same {O : Nat → Prop} {w w' : World} {v : Value} {L : List Ver} (h : RdV w v L) (hs : Same O w w') (hO : ∀ b, InB v b → O b) (hc : w'.os = w.os ∧ w'.tape = w.tape ∧ w'.output = w.output ∧ w.heap.size ≤ w'.heap.size) : RdV w' v L :=
  h.chg (F := fun b => ¬ O b) ⟨hc.1, hc.2.1, hc.2.2.1, hc.2.2.2, fun b _ hb => hs b (Classical.not_not.1 hb)⟩ fun b hb hn => hn (hO b hb)
/-- What the store's calls leave, the reference's store keeps. -/
theorem RS.same {w w' : World} {R : Nat} {vr : Value} {rs : List RK} {s : SP} (h : RS w R vr rs s) (hs : Same (RB R vr rs) w w') (hc : w'.os = w.os ∧ w'.tape = w.tape ∧ w'.output = w.output ∧ w.heap.size ≤ w'.heap.size) : RS w' R vr rs s :=
  ⟨h.d.same hs (.inl rfl), h.own.same hs (fun _ hb => .inr (.inl hb)), h.inv, fun x hx => (h.ch x hx).same hs (fun _ hb => .inr (.inr ⟨x, hx, hb⟩)) hc, h.ap⟩
/-- The reference's blocks hold no chain of the store's. -/
theorem RS.noch {w : World} {R : Nat} {vr : Value} {rs : List RK} {s : SP} (h : RS w R vr rs s) : NoCh w (fun b => b = R ∨ vr.ownBlock = some b) := by
  intro b cur hb hF
  rcases hF with rfl | hF
  · have := h.d
    unfold Blk at this
    rw [hb] at this
    cases this
  · obtain ⟨_, _, cu2, h5⟩ := h.own.block hF
    rw [hb] at h5
    cases h5
/-- What changes blocks that are none of the store's leaves the store. -/
theorem LS.chg {w wr wr' : World} {D i : Nat} {s : SP} {O F : Nat → Prop} (h : LS w wr D i s O) (hc : Chg F wr wr') (hF : ∀ b, F b → O b ∧ w.heap.size ≤ b) (hn : NoCh wr F) : LS w wr' D i s O := by
  obtain ⟨M, vk, ks, h1, h2, h3, h4⟩ := h
  exact ⟨M, vk, ks, ⟨h1.st.chg hc (fun b hb hf => (h4 b (hF b hf).1).2 hb) hn, h1.hD, h1.hM, h1.hk, h1.lo.trans (hc.below h1.lo.size (fun k hk hf => by have := (hF k hf).2; omega))⟩, h2, h3, fun b hb => ⟨Nat.lt_of_lt_of_le (h4 b hb).1 hc.size, (h4 b hb).2⟩⟩
/-- Blocks that are new are none of the store's. -/
theorem LS.more {w wr wr' : World} {D i : Nat} {s : SP} {O O' : Nat → Prop} (h : LS w wr D i s O) (hb : Below wr.heap.size wr wr') (hO : ∀ b, O' b → O b ∨ (wr.heap.size ≤ b ∧ b < wr'.heap.size)) : LS w wr' D i s O' := by
  obtain ⟨M, vk, ks, h1, h2, h3, h4⟩ := h
  refine ⟨M, vk, ks, h1.kept hb, h2, h3, fun b hb' => ?_⟩
  rcases hO b hb' with h | h
  · exact ⟨Nat.lt_of_lt_of_le (h4 b h).1 hb.size, (h4 b h).2⟩
  · exact ⟨h.2, fun hm => by have := h1.st.lt hm; omega⟩
end Go.Proofs.Ytgaoionnfkbhaaa
