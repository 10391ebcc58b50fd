/-
  A region that draws its order, one of whose operations writes, and whose last one stores to a slot that others read.
-/
import Derived.Test.YtnkcjhfdmnpckaaPuts
namespace Go.Proofs.Ytnkcjhfdmnpckaa
open Go.RowKit
/-- Does operation z wait for all others? -/
def allB (ops : Array Oper) (z : Nat) : Bool := match ops[z]? with
  | some o => (List.range ops.size).all fun j => j == z || o.after.any fun e => Region.binds .any e && e.on == j
  | none => false
/-- Slots that none but z writes. -/
def freeZ (ops : Array Oper) (z t : Nat) : Bool := (List.range ops.size).all fun j => j == z || (match ops[j]? with | some o => o.dst != some t | none => true)
/-- What stands in the slots while z is still to come. -/
def KeptZ (ops : Array Oper) (z : Nat) (a0 a : Act) : Prop := ∀ t : Nat, freeZ ops z t = true → a.eval (.tmp t) = a0.eval (.tmp t)
/-- What an operation finds. -/
def Finds (ops : Array Oper) (V : Nat → Value) (o : Oper) (a : Act) : Prop := ∀ j d, depB ops o.after j d = true → a.eval (.tmp d) = V j
structure PJ (ops : Array Oper) (V : Nat → Value) (A B : World → Prop) (k z : Nat) (a0 : Act) (l : Nat → Bool) (a : Act) (w : World) : Prop where
  vals : ∀ (i : Nat) (o : Oper) (d : Nat), ops[i]? = some o → l i = true → o.dst = some d → a.eval (.tmp d) = V i
  kept : l z = false → KeptZ ops z a0 a
  all : l z = true → ∀ j, j < ops.size → l j = true
  pre : l k = false → A w
  post : l k = true → B w
theorem wp_region_pivot {P : Program} {id : Nat} {ops : Array Oper} {Q : Exit → Act → World → Prop} {a0 : Act} {w : World} (hm : P.follows .mixedOrders = true) (V : Nat → Value) (A B : World → Prop) (k z : Nat)
    (n : Nat) (hn : a0.tmps.size = n) (hf : formB ops n = true) (hz : allB ops z = true) (h0 : ∀ w', w'.heap = w.heap → Gr w w' → A w')
    (hstep : AllFrom (fun i o => o.guard = none ∧ (i ≠ k → ∀ a w', KeptZ ops z a0 a → Finds ops V o a → (execOp a.eval o).run P w' = .ok (.value (V i)) w') ∧
      (i = k → ∀ a w', KeptZ ops z a0 a → Finds ops V o a → A w' → o.wp P a w' (fun a' w'' => a' = a.put o.dst (V i) ∧ B w'') Q)) 0 ops.toList)
    (hQ : ∀ a w', a.tmps.size = a0.tmps.size → a.defers = a0.defers → Kept ops a0 a → (∀ (i : Nat) (o : Oper) (d : Nat), ops[i]? = some o → o.dst = some d → a.eval (.tmp d) = V i) → B w' → Q .normal a w')
    (hk : k < ops.size) : (Code.region id ops true).wp P Q a0 w := by
  have hzw : ∀ (o : Oper) (l : Nat → Bool), ops[z]? = some o → waitsB o l = true → ∀ j, j < ops.size → j ≠ z → l j = true := by
    intro o l ho hw j hj hne
    unfold allB at hz
    rw [ho] at hz
    have := List.all_eq_true.1 hz j (by simpa using hj)
    simp only [Bool.or_eq_true, beq_iff_eq] at this
    rcases this with h | h
    · exact absurd h hne
    · exact waitsB_at hw j h
  refine wp_region_J hm (PJ ops V A B k z a0) n hn hf ?_ ?_ ?_
  · intro w' hh hg
    exact ⟨fun i o d _ h => by simp at h, fun _ t _ => rfl, fun h => by simp at h, fun _ => h0 w' hh hg, fun h => by simp at h⟩
  · intro i o ho l a w1 hJ ht hd hkp hli hw
    have hs := AllFrom.at hstep (i := i) (o := o) (by simpa using ho)
    rw [Nat.zero_add] at hs
    have hi : i < ops.size := (Array.getElem?_eq_some_iff.1 ho).1
    have hlz : l z = false := by
      cases h : l z with
      | false => rfl
      | true => rw [hJ.all h i hi] at hli; cases hli
    have hfinds : Finds ops V o a := by
      intro j d hb
      unfold depB at hb
      rw [Bool.and_eq_true] at hb
      have hlj := waitsB_at hw j hb.1
      cases hoj : ops[j]? with
      | none => rw [hoj] at hb; simp at hb
      | some oj =>
        rw [hoj] at hb
        exact hJ.vals j oj d hoj hlj (by simpa using hb.2)
    have next : ∀ w2, ((l k || k == i) = false → A w2) → ((l k || k == i) = true → B w2) → PJ ops V A B k z a0 (fun j => l j || j == i) (a.put o.dst (V i)) w2 := by
      intro w2 hA hB
      refine ⟨fun j oj d hoj hl hdj => ?_, fun h t hft => ?_, fun h j hj => ?_, hA, hB⟩
      · by_cases hji : j = i
        · subst hji
          rw [ho] at hoj
          simp only [Option.some.injEq] at hoj
          subst hoj
          rw [hdj, eval_put_same (by rw [ht]; exact ((formB_spec hf ho).2 d hdj).1)]
        · rw [eval_put_other (fun e => hji (formB_ne hf hoj ho hdj e))]
          exact hJ.vals j oj d hoj (by simpa [hji] using hl) hdj
      · simp only [Bool.or_eq_false_iff, beq_eq_false_iff_ne] at h
        have hne : o.dst ≠ some t := by
          unfold freeZ at hft
          have := List.all_eq_true.1 hft i (by simpa using hi)
          rw [ho] at this
          simp only [Bool.or_eq_true, beq_iff_eq, bne_iff_ne] at this
          rcases this with h' | h'
          · exact absurd h'.symm h.2
          · exact h'
        rw [eval_put_other hne]
        exact hJ.kept hlz t hft
      · by_cases hji : j = i
        · simp [hji]
        · have hzi : z = i := by
            by_cases e : z = i
            · exact e
            · have : l z = true := by simpa [e] using h
              rw [hlz] at this; cases this
          subst hzi
          have := hzw o l ho hw j hj hji
          simp [this]
    refine ⟨hs.1, ?_⟩
    by_cases hik : i = k
    · subst hik
      refine Oper.wp_mono ?_ (hs.2.2 rfl a w1 (hJ.kept hlz) hfinds (hJ.pre hli))
      rintro a' w2 ⟨rfl, hB⟩
      exact ⟨V i, rfl, next w2 (fun h => by simp at h) (fun _ => hB)⟩
    · have hr := hs.2.1 hik a w1 (hJ.kept hlz) hfinds
      unfold Oper.wp
      rw [hr, Oper.upon_value]
      have hki : ¬ k = i := fun e => hik e.symm
      have e : (l k || k == i) = l k := by simp [hki]
      exact ⟨V i, rfl, next w1 (fun h => hJ.pre (by rw [← e]; exact h)) (fun h => hJ.post (by rw [← e]; exact h))⟩
  · intro l a w1 hall hJ ht hd hkp
    exact hQ a w1 (ht.trans hn.symm) hd hkp (fun i o d ho hdst => hJ.vals i o d ho (hall i (Array.getElem?_eq_some_iff.1 ho).1) hdst) (hJ.post (hall k hk))
end Go.Proofs.Ytnkcjhfdmnpckaa
