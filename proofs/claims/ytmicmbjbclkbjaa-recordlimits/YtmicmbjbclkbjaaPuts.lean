/-
  The act behind a region that draws its order, written out.
-/
import Derived.Test.YtmicmbjbclkbjaaRegion2
namespace Go.Proofs.Ytmicmbjbclkbjaa
open Go.RowKit
/-- The slots ds laid over an act. -/
def puts (a' : Act) (ds : List Nat) (a0 : Act) : Act := ds.foldl (fun a d => a.put (some d) (a'.eval (.tmp d))) a0
theorem puts_size (a' : Act) : ∀ (ds : List Nat) (a0 : Act), (puts a' ds a0).tmps.size = a0.tmps.size
  | [], _ => rfl
  | _ :: ds, _ => (puts_size a' ds _).trans put_size
theorem puts_defers (a' : Act) : ∀ (ds : List Nat) (a0 : Act), (puts a' ds a0).defers = a0.defers
  | [], _ => rfl
  | _ :: ds, _ => (puts_defers a' ds _).trans put_defers'
theorem puts_eval (a' : Act) (t : Nat) : ∀ (ds : List Nat) (a0 : Act), t < a0.tmps.size → a0.eval (.tmp t) = a'.eval (.tmp t) ∨ t ∈ ds → (puts a' ds a0).eval (.tmp t) = a'.eval (.tmp t)
  | [], a0, _, h => by
    rcases h with h | h
    · exact h
    · cases h
  | d :: ds, a0, hl, h => by
    refine puts_eval a' t ds _ (by rw [put_size]; exact hl) ?_
    by_cases hd : d = t
    · subst hd
      exact .inl (eval_put_same hl)
    · rcases h with h | h
      · exact .inl ((eval_put_other (fun e => hd (Option.some.inj e))).trans h)
      · rcases List.mem_cons.1 h with h | h
        · exact absurd h.symm hd
        · exact .inr h
/-- The act behind a region: the slots that the region writes, over the act ahead of it. -/
theorem act_puts {ops : Array Oper} {a0 a' : Act} (n : Nat) (h0 : a0.tmps.size = n) (hs : a'.tmps.size = n) (hd : a'.defers = a0.defers) (hk : Kept ops a0 a') (ds : List Nat) (hds : ((List.range n).all fun t => freeB ops t || ds.contains t) = true) :
    a' = puts a' ds a0 := by
  have hp := puts_size a' ds a0
  have hq := puts_defers a' ds a0
  have he : ∀ t, t < n → (puts a' ds a0).eval (.tmp t) = a'.eval (.tmp t) := fun t ht => by
    refine puts_eval a' t ds a0 (by omega) ?_
    have := List.all_eq_true.1 hds t (by simpa using ht)
    simp only [Bool.or_eq_true, List.contains_iff_mem] at this
    rcases this with h | h
    · exact .inl (hk.at t h).symm
    · exact .inr h
  have hpn : (puts a' ds a0).tmps.size = n := by omega
  generalize puts a' ds a0 = p at *
  refine (act_lit a' n hs).trans (Eq.trans ?_ (act_lit p n hpn).symm)
  congr 1
  · congr 1
    exact List.map_congr_left fun t ht => (he t (by simpa using ht)).symm
  · rw [hq]; exact hd
end Go.Proofs.Ytmicmbjbclkbjaa
