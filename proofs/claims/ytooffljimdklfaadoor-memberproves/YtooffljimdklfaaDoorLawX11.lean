/-
  Calls as the laws ask them: with what they tell under names.
-/
import Derived.Test.YtooffljimdklfaaDoorG11l
namespace Go.Proofs.YtooffljimdklfaaDoor
open Go.RowKit
theorem room_below {w w9 : World} {E : Nat} (hE : w.heap.size = E) (hu : But E (w.alloc (.cells (By zh.1).toArray 24 (0, 0))) w9) : Below w.heap.size w w9 :=
  ((Below.refl _ _).alloc (Nat.le_refl _) _).trans (hu.below (Nat.le_of_eq hE) (by simp))
theorem tGet_m {B0 : Nat} {w : World} {p : Nat} {m : List It} {k vv : Hs} {hs : Bool} (hv : valP m k = vv) (hh : hasP m k = hs) (h : TrieAt B0 w p m) : Calls Tryd.prog 23 #[PT p, HV k] w fun e w' => e = .returned (.tuple #[.agg (By vv.1).toArray, .bool hs]) ∧ Below w.heap.size w w' := by
  subst hv
  subst hh
  exact tGet_any k h
theorem tLen_m {B0 : Nat} {w : World} {p : Nat} {m : List It} {ln : Nat} (hl : m.length = ln) (h : TrieAt B0 w p m) : Calls Tryd.prog 48 #[PT p] w fun e w' => e = .returned (.int .i64 (ln : Int)) ∧ w' = w := by
  subst hl
  exact tLen_any h
theorem tRoot_m {B0 : Nat} {w : World} {p : Nat} {m : List It} {rt : Hs} (hm : rootP m = rt) (h2 : 2 ≤ B0) (h : TrieAt B0 w p m) (hT : Tabs w) (hG : B0 ≤ w.heap.size) : Calls Tryd.prog 22 #[PT p] w fun e w' => e = .returned (.agg (By rt.1).toArray) ∧ Tch B0 w w' := by
  subst hm
  exact tRoot_any h2 h hT hG
theorem yRoot_m {w : World} {v : Value} {m : List It} {rt : Hs} (hm : rootP m = rt) (hr : RdG IE w v m) (hs : Srt m) (hn : m.length ≤ 1000000) : Calls Tryd.prog 32 #[v] w fun e w' => e = .returned (.agg (By rt.1).toArray) ∧ Below w.heap.size w w' := by
  subst hm
  exact yRoot_any hr hs hn
theorem tPut_m {B0 : Nat} {w : World} {p : Nat} {m m' : List It} {k v : Hs} (hm : putP m k v = m') (h : TrieAt B0 w p m) (hB0 : B0 ≤ w.heap.size) (hn : m.length ≤ 1000000) : Calls Tryd.prog 24 #[PT p, HV k, HV v] w fun e w' => ∃ p', e = .returned (PT p') ∧ TrieAt B0 w' p' m' ∧ Below w.heap.size w w' := by
  subst hm
  exact tPut_any k v h hB0 hn
theorem eqAA (x : Hs) (W : World) : (Op.equalIn 10000 24 (.agg (By x.1).toArray) (.agg (By x.1).toArray)).run Tryd.prog W = .ok true W := by
  rw [eqA, decide_eq_true rfl]
theorem takeM_all (m : List It) : takeM m (-1) = m := rfl
theorem takeM_nat (m : List It) (q : Nat) : takeM m (q : Int) = m.take q := by
  unfold takeM
  rw [if_neg (by omega)]
  rfl
end Go.Proofs.YtooffljimdklfaaDoor
