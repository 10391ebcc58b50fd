/-
  The reference's disk in memory, its colour, and Start.
-/
import Derived.Test.YtnkcjhfdmnpckaaRHas
import Derived.Test.YtnkcjhfdmnpckaaDSea
namespace Go.Proofs.Ytnkcjhfdmnpckaa
open Go.RowKit
open Pd (DM)
/-- The seven cells of the reference's disk. -/
def RC (vn vs vd : Value) (off : Bool) (armed : Int) (vk : Value) (torn : Int) : List Value := [vn, vs, vd, .bool off, .int .i64 armed, vk, .int .i64 torn]
theorem ownB_chg {w w' : World} {v : Value} {l : List UInt8} {F : Nat → Prop} (h : Own w 0 v l) (hc : Chg F w w') (hF : ∀ b, v.ownBlock = some b → ¬ F b) : Own w' 0 v l := by
  obtain ⟨h1, h2⟩ := h
  refine ⟨h1, ?_⟩
  rcases h2 with h2 | ⟨g, cap, cur, hv, hg, hh, r⟩
  · exact Or.inl h2
  · have hlt : g < w.heap.size := (Array.getElem?_eq_some_iff.1 hh).1
    exact Or.inr ⟨g, cap, cur, hv, hg, by rw [hc.block g hlt (hF g (by rw [hv]; rfl))]; exact hh, r⟩
theorem ownB_lt {w : World} {v : Value} {l : List UInt8} (h : Own w 0 v l) {b : Nat} (hb : v.ownBlock = some b) : b < w.heap.size := by
  obtain ⟨h1, h2⟩ := h
  rcases h2 with ⟨rfl, _⟩ | ⟨g, cap, cur, rfl, hg, hh, r⟩
  · cases hb
  · cases hb
    exact (Array.getElem?_eq_some_iff.1 hh).1
/-- The disk m lies at R. -/
structure RAt (w : World) (R : Nat) (vn vs vd vk : Value) (m : DM) : Prop where
  blk : Blk w R 60 (RC vn vs vd m.off (m.armed : Int) vk m.torn)
  now : Own w 0 vn m.now
  safe : Own w 0 vs m.safe
  dirty : OwnN w vd (Nats m.dirty)
  keep : OwnN w vk m.keep
  kw : ∀ k ∈ m.keep, (Lit.int .i64 k).wf = true
  ns : ∀ b, vn.ownBlock = some b → vs.ownBlock = some b → False
  dk : ∀ b, vd.ownBlock = some b → vk.ownBlock = some b → False
  am : m.armed ≤ 9223372036854775807
theorem RAt.chg {w w' : World} {R : Nat} {vn vs vd vk : Value} {m : DM} (h : RAt w R vn vs vd vk m) {F : Nat → Prop} (hc : Chg F w w') (h1 : ¬ F R) (h2 : ∀ b, vn.ownBlock = some b → ¬ F b) (h3 : ∀ b, vs.ownBlock = some b → ¬ F b) (h4 : ∀ b, vd.ownBlock = some b → ¬ F b) (h5 : ∀ b, vk.ownBlock = some b → ¬ F b) : RAt w' R vn vs vd vk m :=
  ⟨h.blk.chg hc h1, ownB_chg h.now hc h2, ownB_chg h.safe hc h3, h.dirty.chg hc h4, h.keep.chg hc h5, h.kw, h.ns, h.dk, h.am⟩
theorem RAt.nR {w : World} {R : Nat} {vn vs vd vk : Value} {m : DM} (h : RAt w R vn vs vd vk m) : (∀ b, vn.ownBlock = some b → b ≠ R) ∧ (∀ b, vs.ownBlock = some b → b ≠ R) ∧ (∀ b, vd.ownBlock = some b → b ≠ R) ∧ (∀ b, vk.ownBlock = some b → b ≠ R) := by
  have hB := h.blk
  unfold Blk at hB
  have h5 : ∀ {v : Value} {l : List UInt8}, Own w 0 v l → ∀ b, v.ownBlock = some b → b ≠ R := fun ho b hb e => by
    obtain ⟨_, h2⟩ := ho
    rcases h2 with ⟨rfl, _⟩ | ⟨g, cap, cur, rfl, hg, hh, r⟩
    · cases hb
    · cases hb
      rw [show g = R from e, hB] at hh
      simp at hh
  have h3 : ∀ {v : Value} {l : List Int}, OwnN w v l → ∀ b, v.ownBlock = some b → b ≠ R := fun ho b hb e => by
    obtain ⟨cur, hh⟩ := ho.block hb
    rw [e, hB] at hh
    simp at hh
  exact ⟨h5 h.now, h5 h.safe, h3 h.dirty, h3 h.keep⟩
/-- Block R is the reference's disk of n sectors of colour i. -/
def IsR (w : World) (c : Nat → Nat) (i R n : Nat) (m : DM) : Prop :=
  ∃ vn vs vd vk, RAt w R vn vs vd vk m ∧ Pd.Ok n m ∧ (Pd.Dark m ∧ 0 < n ∧ n ≤ 4096) ∧ c R = i ∧ (∀ b, vn.ownBlock = some b → c b = i) ∧ (∀ b, vs.ownBlock = some b → c b = i) ∧ (∀ b, vd.ownBlock = some b → c b = i) ∧ (∀ b, vk.ownBlock = some b → c b = i) ∧ i ≠ 0
theorem IsR.chg {w w' : World} {c c' : Nat → Nat} {i R n : Nat} {m : DM} (h : IsR w c i R n m) {F : Nat → Prop} (hc : Chg F w w') (hF : ∀ k, k < w.heap.size → c k = i ∨ c k = 0 → ¬ F k) (he : ∀ k, k < w.heap.size → c' k = c k) : IsR w' c' i R n m := by
  obtain ⟨vn, vs, vd, vk, hA, hO, hn, h1, h2, h3, h4, h5, h6⟩ := h
  refine ⟨vn, vs, vd, vk, hA.chg hc (hF R hA.blk.lt (.inl h1)) (fun b hb => hF b (ownB_lt hA.now hb) (.inl (h2 b hb))) (fun b hb => hF b (ownB_lt hA.safe hb) (.inl (h3 b hb))) (fun b hb => hF b (own_lt hA.dirty hb) (.inl (h4 b hb))) (fun b hb => hF b (own_lt hA.keep hb) (.inl (h5 b hb))), hO, hn, ?_, ?_, ?_, ?_, ?_, h6⟩
  · rw [he R hA.blk.lt]; exact h1
  · intro b hb; rw [he b (ownB_lt hA.now hb)]; exact h2 b hb
  · intro b hb; rw [he b (ownB_lt hA.safe hb)]; exact h3 b hb
  · intro b hb; rw [he b (own_lt hA.dirty hb)]; exact h4 b hb
  · intro b hb; rw [he b (own_lt hA.keep hb)]; exact h5 b hb
theorem IsR.step {w w' : World} {c c' : Nat → Nat} {i j R n : Nat} {m : DM} (h : IsR w c i R n m) (hs : Step c j w c' w') (hij : i ≠ j) (hj : j ≠ 0) : IsR w' c' i R n m :=
  h.chg hs.chg (fun _ _ hk e => hk.elim (fun e' => hij (e' ▸ e)) (fun e' => hj (e'.symm.trans e).symm)) hs.ext
theorem IsR.kept {w w' : World} {c c' : Nat → Nat} {i R n : Nat} {m : DM} (h : IsR w c i R n m) (hb : Below w.heap.size w w') (he : ∀ k, k < w.heap.size → c' k = c k) : IsR w' c' i R n m :=
  h.chg (F := fun _ => False) (Chg.of_below hb) (fun _ _ _ => id) he
end Go.Proofs.Ytnkcjhfdmnpckaa
