/-
  Calls as the laws ask them: with what they tell under names.
-/
import Derived.Test.YtooffljimdklfaaDoorG12d
import Derived.Test.YtooffljimdklfaaDoorG12c
import Derived.Test.YtooffljimdklfaaDoorLawX11
import Derived.Test.YtooffljimdklfaaDoorG11o
namespace Go.Proofs.YtooffljimdklfaaDoor
open Go.RowKit
theorem Tch.but {B0 c : Nat} {w w1 w' : World} (h : Tch B0 w w1) (hc : w.heap.size ≤ c) (hb : But c w1 w') : Tch B0 w w' := by
  refine ⟨hb.os.trans h.os, hb.tape.trans h.tape, hb.output.trans h.output, Nat.le_trans h.size hb.size, fun k hk => ?_⟩
  have hk1 : k < w1.heap.size := Nat.lt_of_lt_of_le hk h.size
  have e := hb.block k hk1 (by omega)
  rcases h.block k hk with e1 | ⟨M, a1, a2⟩
  · exact .inl (e.trans e1)
  · exact .inr ⟨M, a1, a2.low (fun j hj => hb.block j (by omega) (by omega))⟩
theorem bProve_m {B0 B : Nat} {w : World} {p : Nat} {m : List It} {pr : Pr} {ln : Nat} {k : Hs} (hpr : prP m k = pr) (hln : pr.1.length = ln) (h : TrieAt B0 w p m) (hL : m.length ≤ 1000000) (hT : Tabs w) (hB : B ≤ w.heap.size) : Calls Tryd.prog 13 #[PT p, HV k] w fun e w' => ∃ a c, e = .returned (.agg (PrC (.slice a ln c) pr).toArray) ∧ OwnG SE w' B 70 (.slice a ln c) pr.1 ∧ Below w.heap.size w w' := by
  refine (bProve_any k hpr hln h.map hL h.srt hT).mono ?_
  rintro e w' ⟨a, c, rfl, o, hb⟩
  exact ⟨a, c, rfl, o.mono hB, hb⟩
theorem bCheck_m {w : World} {v : Value} {p : Pr} {r k x : Hs} {hs ok : Bool} (hc : checkP r k p = (x, hs, ok)) (hr : RdG SE w v p.1) (hn : p.1.length ≤ 1000000) (hT : Tabs w) : Calls Tryd.prog 18 #[HV r, HV k, .agg (PrC v p).toArray] w fun e w' => e = .returned (.tuple #[.agg (By x.1).toArray, .bool hs, .bool ok]) ∧ Below w.heap.size w w' := by
  have := bCheck_any r k hr hn hT
  rwa [hc] at this
theorem eCheck_m {w : World} {v : Value} {p : Pr} {r k x : Hs} {hs ok : Bool} (hc : checkP r k p = (x, hs, ok)) (hr : RdG SE w v p.1) (hn : p.1.length ≤ 1000000) : Calls Tryd.prog 19 #[HV r, HV k, .agg (PrC v p).toArray] w fun e w' => e = .returned (.tuple #[.agg (By x.1).toArray, .bool hs, .bool ok]) ∧ Below w.heap.size w w' := by
  have := eCheck_any r k hr hn
  rwa [hc] at this
theorem bClimb_m {w : World} {v : Value} {p : Pr} {k x : Hs} {ok : Bool} (hc : climbP k p = (x, ok)) (hr : RdG SE w v p.1) (hn : p.1.length ≤ 1000000) (hT : Tabs w) : Calls Tryd.prog 16 #[HV k, .agg (PrC v p).toArray] w fun e w' => e = .returned (.tuple #[.agg (By x.1).toArray, .bool ok]) ∧ Below w.heap.size w w' := by
  have := bClimb_any k hr hn hT
  rwa [hc] at this
theorem eClimb_m {w : World} {v : Value} {p : Pr} {k x : Hs} {ok : Bool} (hc : climbP k p = (x, ok)) (hr : RdG SE w v p.1) (hn : p.1.length ≤ 1000000) : Calls Tryd.prog 17 #[HV k, .agg (PrC v p).toArray] w fun e w' => e = .returned (.tuple #[.agg (By x.1).toArray, .bool ok]) ∧ Below w.heap.size w w' := by
  have := eClimb_any k hr hn
  rwa [hc] at this
theorem bGood_m {w : World} {v : Value} {p : Pr} {g : Bool} (hg : goodP p = g) (hr : RdG SE w v p.1) : Calls Tryd.prog 20 #[.agg (PrC v p).toArray] w fun e w' => e = .returned (.bool g) ∧ Below w.heap.size w w' := by
  have := bGood_any hr
  rwa [hg] at this
theorem eGood_m {w : World} {v : Value} {p : Pr} {g : Bool} (hg : goodP p = g) (hr : RdG SE w v p.1) : Calls Tryd.prog 21 #[.agg (PrC v p).toArray] w fun e w' => e = .returned (.bool g) ∧ Below w.heap.size w w' := by
  have := eGood_any hr
  rwa [hg] at this
theorem plain_m {B : Nat} {w : World} {v : Value} {p : Pr} {ln : Nat} (hl : p.1.length = ln) (hr : RdG SE w v p.1) (hn : ln ≤ 1000000) (hB : B ≤ w.heap.size) : Calls Tryd.prog 12 #[.agg (PrC v p).toArray] w fun e w' => ∃ a c, e = .returned (.agg (PrC (.slice a ln c) p).toArray) ∧ OwnG SE w' B 69 (.slice a ln c) p.1 ∧ Below w.heap.size w w' := by
  subst hl
  refine (plain_any hr hn).mono ?_
  rintro e w' ⟨a, c, rfl, o, hb⟩
  exact ⟨a, c, rfl, o.mono hB, hb⟩
theorem roomP_below {w w9 : World} {E : Nat} (hE : w.heap.size = E) (hu : But E (w.alloc (.cells (PrC (.slice none 0 0) zp).toArray 39 (0, 0))) w9) : Below w.heap.size w w9 :=
  ((Below.refl _ _).alloc (Nat.le_refl _) _).trans (hu.below (Nat.le_of_eq hE) (by simp))
theorem roomR_below {w w9 : World} {E : Nat} (hE : w.heap.size = E) (hu : But E (w.alloc (.cells (PrC (.slice none 0 0) zp).toArray 35 (0, 0))) w9) : Below w.heap.size w w9 :=
  ((Below.refl _ _).alloc (Nat.le_refl _) _).trans (hu.below (Nat.le_of_eq hE) (by simp))
/-- A proof's steps are few. -/
theorem pr_short {m : List It} {k : Hs} {pr : Pr} (hs : Srt m) (h : prP m k = pr) : pr.1.length ≤ m.length := by
  rw [← h]
  unfold prP
  have := way_short k _ m rfl hs
  generalize wayP m k = y at this
  obtain ⟨l, e⟩ := y
  cases e with
  | none => simp
  | some x => exact this
#print axioms Tch.but
#print axioms plain_m
end Go.Proofs.YtooffljimdklfaaDoor
