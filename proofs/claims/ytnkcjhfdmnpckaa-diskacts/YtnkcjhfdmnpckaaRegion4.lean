/-
  A region that draws its order, two of whose operations write, one behind the other, and whose last one waits for all.
-/
import Derived.Test.YtnkcjhfdmnpckaaRegion3
namespace Go.Proofs.Ytnkcjhfdmnpckaa
open Go.RowKit
/-- Does operation y wait for x? -/
def afterB (ops : Array Oper) (y x : Nat) : Bool := match ops[y]? with
  | some o => o.after.any fun e => Region.binds .any e && e.on == x
  | none => false
structure TJ (ops : Array Oper) (V : Nat → Value) (T : Bool → Bool → World → Prop) (k1 k2 z : Nat) (a0 : Act) (l : Nat → Bool) (a : Act) (w : World) : Prop where
  vals : ∀ (i : Nat) (o : Oper) (d : Nat), ops[i]? = some o → l i = true → o.dst = some d → a.eval (.tmp d) = V i
  kept : l z = false → KeptZ ops z a0 a
  all : l z = true → ∀ j, j < ops.size → l j = true
  ord : l k2 = true → l k1 = true
  st : T (l k1) (l k2) w
theorem wp_region_two {P : Program} {id : Nat} {ops : Array Oper} {Q : Exit → Act → World → Prop} {a0 : Act} {w : World} (hm : P.follows .mixedOrders = true) (V : Nat → Value) (T : Bool → Bool → World → Prop) (k1 k2 z : Nat)
    (n : Nat) (hn : a0.tmps.size = n) (hf : formB ops n = true) (hz : allB ops z = true) (h21 : afterB ops k2 k1 = true) (hne : k1 ≠ k2) (h0 : ∀ w', w'.heap = w.heap → Gr w w' → T false false w')
    (hstep : AllFrom (fun i o => o.guard = none ∧ (i ≠ k1 → i ≠ k2 → ∀ x y a w', KeptZ ops z a0 a → Finds ops V o a → T x y w' → (execOp a.eval o).run P w' = .ok (.value (V i)) w') ∧
      (i = k1 → ∀ a w', KeptZ ops z a0 a → Finds ops V o a → T false false w' → o.wp P a w' (fun a' w'' => a' = a.put o.dst (V i) ∧ T true false w'') Q) ∧
      (i = k2 → ∀ a w', KeptZ ops z a0 a → Finds ops V o a → T true false w' → o.wp P a w' (fun a' w'' => a' = a.put o.dst (V i) ∧ T true true w'') Q)) 0 ops.toList)
    (hQ : ∀ a w', a.tmps.size = a0.tmps.size → a.defers = a0.defers → Kept ops a0 a → (∀ (i : Nat) (o : Oper) (d : Nat), ops[i]? = some o → o.dst = some d → a.eval (.tmp d) = V i) → T true true w' → Q .normal a w')
    (hk1 : k1 < ops.size) (hk2 : k2 < ops.size) : (Code.region id ops true).wp P Q a0 w := by
  have hzw : ∀ (o : Oper) (l : Nat → Bool), ops[z]? = some o → waitsB o l = true → ∀ j, j < ops.size → j ≠ z → l j = true := by
    intro o l ho hw j hj hne
    unfold allB at hz
    rw [ho] at hz
    have := List.all_eq_true.1 hz j (by simpa using hj)
    simp only [Bool.or_eq_true, beq_iff_eq] at this
    rcases this with h | h
    · exact absurd h hne
    · exact waitsB_at hw j h
  refine wp_region_J hm (TJ ops V T k1 k2 z a0) n hn hf ?_ ?_ ?_
  · intro w' hh hg
    exact ⟨fun i o d _ h => by simp at h, fun _ t _ => rfl, fun h => by simp at h, fun h => by simp at h, h0 w' hh hg⟩
  · intro i o ho l a w1 hJ ht hd hkp hli hw
    have hs := AllFrom.at hstep (i := i) (o := o) (by simpa using ho)
    rw [Nat.zero_add] at hs
    have hi : i < ops.size := (Array.getElem?_eq_some_iff.1 ho).1
    have hlz : l z = false := by
      cases h : l z with
      | false => rfl
      | true => rw [hJ.all h i hi] at hli; cases hli
    have hfinds : Finds ops V o a := by
      intro j d hb
      unfold depB at hb
      rw [Bool.and_eq_true] at hb
      have hlj := waitsB_at hw j hb.1
      cases hoj : ops[j]? with
      | none => rw [hoj] at hb; simp at hb
      | some oj =>
        rw [hoj] at hb
        exact hJ.vals j oj d hoj hlj (by simpa using hb.2)
    have next : ∀ w2, ((l k2 || k2 == i) = true → (l k1 || k1 == i) = true) → T (l k1 || k1 == i) (l k2 || k2 == i) w2 → TJ ops V T k1 k2 z a0 (fun j => l j || j == i) (a.put o.dst (V i)) w2 := by
      intro w2 hO hT
      refine ⟨fun j oj d hoj hl hdj => ?_, fun h t hft => ?_, fun h j hj => ?_, hO, hT⟩
      · by_cases hji : j = i
        · subst hji
          rw [ho] at hoj
          simp only [Option.some.injEq] at hoj
          subst hoj
          rw [hdj, eval_put_same (by rw [ht]; exact ((formB_spec hf ho).2 d hdj).1)]
        · rw [eval_put_other (fun e => hji (formB_ne hf hoj ho hdj e))]
          exact hJ.vals j oj d hoj (by simpa [hji] using hl) hdj
      · simp only [Bool.or_eq_false_iff, beq_eq_false_iff_ne] at h
        have hne : o.dst ≠ some t := by
          unfold freeZ at hft
          have := List.all_eq_true.1 hft i (by simpa using hi)
          rw [ho] at this
          simp only [Bool.or_eq_true, beq_iff_eq, bne_iff_ne] at this
          rcases this with h' | h'
          · exact absurd h'.symm h.2
          · exact h'
        rw [eval_put_other hne]
        exact hJ.kept hlz t hft
      · by_cases hji : j = i
        · simp [hji]
        · have hzi : z = i := by
            by_cases e : z = i
            · exact e
            · have : l z = true := by simpa [e] using h
              rw [hlz] at this; cases this
          subst hzi
          have := hzw o l ho hw j hj hji
          simp [this]
    refine ⟨hs.1, ?_⟩
    have hst := hJ.st
    by_cases hi1 : i = k1
    · subst hi1
      have h2 : l k2 = false := by
        cases h : l k2 with
        | false => rfl
        | true => rw [hJ.ord h] at hli; cases hli
      rw [hli, h2] at hst
      refine Oper.wp_mono ?_ (hs.2.2.1 rfl a w1 (hJ.kept hlz) hfinds hst)
      rintro a' w2 ⟨rfl, hB⟩
      have e2 : (l k2 || k2 == i) = false := by rw [h2]; simpa using hne.symm
      exact ⟨V i, rfl, next w2 (fun _ => by simp) (by rw [e2, show (l i || i == i) = true by simp]; exact hB)⟩
    · by_cases hi2 : i = k2
      · subst hi2
        have h1 : l k1 = true := by
          unfold afterB at h21
          rw [ho] at h21
          exact waitsB_at hw k1 h21
        rw [hli, h1] at hst
        refine Oper.wp_mono ?_ (hs.2.2.2 rfl a w1 (hJ.kept hlz) hfinds hst)
        rintro a' w2 ⟨rfl, hB⟩
        exact ⟨V i, rfl, next w2 (fun _ => by simp [h1]) (by rw [show (l k1 || k1 == i) = true by simp [h1], show (l i || i == i) = true by simp]; exact hB)⟩
      · have hr := hs.2.1 hi1 hi2 _ _ a w1 (hJ.kept hlz) hfinds hst
        unfold Oper.wp
        rw [hr, Oper.upon_value]
        have n1 : ¬ k1 = i := fun e => hi1 e.symm
        have n2 : ¬ k2 = i := fun e => hi2 e.symm
        have e1 : (l k1 || k1 == i) = l k1 := by simp [n1]
        have e2 : (l k2 || k2 == i) = l k2 := by simp [n2]
        exact ⟨V i, rfl, next w1 (by rw [e1, e2]; exact hJ.ord) (by rw [e1, e2]; exact hst)⟩
  · intro l a w1 hall hJ ht hd hkp
    have hst := hJ.st
    rw [hall k1 hk1, hall k2 hk2] at hst
    exact hQ a w1 (ht.trans hn.symm) hd hkp (fun i o d ho hdst => hJ.vals i o d ho (hall i (Array.getElem?_eq_some_iff.1 ho).1) hdst) hst
/-- A call that returns a known value. -/
theorem wp_call_at {P : Program} {o : Oper} {a : Act} {w : World} {T : World → Prop} {Q : Exit → Act → World → Prop} (f : FuncId) (args : Array Value) (v : Value) (hrun : (execOp a.eval o).run P w = .ok (.enter f args) w)
    (hc : Calls P f args w fun e w' => e = .returned v ∧ T w') : o.wp P a w (fun a' w' => a' = a.put o.dst v ∧ T w') Q := by
  unfold Oper.wp
  rw [hrun]
  refine hc.mono ?_
  rintro e w' ⟨rfl, hv⟩
  exact ⟨rfl, hv⟩
end Go.Proofs.Ytnkcjhfdmnpckaa
