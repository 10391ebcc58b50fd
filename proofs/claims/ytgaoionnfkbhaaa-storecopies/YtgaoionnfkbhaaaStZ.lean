/-
  A region that draws its order, in which one operation writes and others may still come behind it.
-/
import Derived.Test.YtgaoionnfkbhaaaStW
namespace Go.Proofs.Ytgaoionnfkbhaaa
open Go.RowKit
structure ZJ (ops : Array Oper) (S : Nat → World → Value → Prop) (C : World → Prop) (z : Nat) (w0 : World) (l : Nat → Bool) (a : Act) (w : World) : Prop where
  cl : Closed ops l
  pre : l z = false → (∀ (i : Nat) (o : Oper) (d : Nat), ops[i]? = some o → l i = true → o.dst = some d → S i w (a.eval (.tmp d))) ∧ Gr w0 w
  post : l z = true → (∀ (i : Nat) (o : Oper) (d : Nat), i ≠ z → ops[i]? = some o → l i = true → o.dst = some d → ∃ W, S i W (a.eval (.tmp d))) ∧ C w ∧ ∀ j, reachB ops ops.size z j = true → l j = true
abbrev OwesZ (P : Program) (ops : Array Oper) (S : Nat → World → Value → Prop) (C : World → Prop) (z : Nat) (a0 : Act) (w : World) (Q : Exit → Act → World → Prop) (i : Nat) (o : Oper) : Prop :=
  o.guard = none ∧ (if i = z then (∀ a w', Gr w w' → Kept ops a0 a → (∀ (j : Nat) (oj : Oper) (d : Nat), reachB ops ops.size z j = true → ops[j]? = some oj → oj.dst = some d → S j w' (a.eval (.tmp d))) →
      o.wp P a w' (fun a' w'' => ∃ v, a' = a.put o.dst v ∧ C w'') Q)
    else (∀ a w', Gr w w' → Kept ops a0 a → Deps ops S a w' o.after.toList → o.wp P a w' (fun a' w'' => ∃ v, a' = a.put o.dst v ∧ S i w'' v ∧ Gr w' w'') Q) ∧
      (reachB ops ops.size z i = false → ∀ a w', Kept ops a0 a → C w' → (∀ j d, depB ops o.after j d = true → ∃ W, S j W (a.eval (.tmp d))) → ∃ v, (execOp a.eval o).run P w' = .ok (.value v) w' ∧ ∃ W, S i W v))
theorem wp_region_z {P : Program} {id : Nat} {ops : Array Oper} {Q : Exit → Act → World → Prop} {a0 : Act} {w : World} (hm : P.follows .mixedOrders = true) (S : Nat → World → Value → Prop) (C : World → Prop)
    (n : Nat) (hn : a0.tmps.size = n) (hf : formB ops n = true) (z : Nat) (hzs : z < ops.size) (hzd : ((ops[z]?).bind (·.dst)) = none) (hmono : ∀ i w w' x, Gr w w' → S i w x → S i w' x)
    (hstep : AllFrom (OwesZ P ops S C z a0 w Q) 0 ops.toList)
    (hQ : ∀ a w', a.tmps.size = a0.tmps.size → a.defers = a0.defers → Kept ops a0 a → (∀ (i : Nat) (o : Oper) (d : Nat), i ≠ z → ops[i]? = some o → o.dst = some d → ∃ W, S i W (a.eval (.tmp d))) → C w' → Q .normal a w') :
    (Code.region id ops true).wp P Q a0 w := by
  refine wp_region_J hm (ZJ ops S C z w) n hn hf ?_ ?_ ?_
  · intro w' _ hg
    exact ⟨fun i o _ h => by simp at h, fun _ => ⟨fun i o d _ h => by simp at h, hg⟩, fun h => by simp at h⟩
  · intro i o ho l a w1 hJ ht hd hkp hli hw
    have hs := AllFrom.at hstep (i := i) (o := o) (by simpa using ho)
    rw [Nat.zero_add] at hs
    have hcl := hJ.cl.step ho hw
    refine ⟨hs.1, ?_⟩
    have hput : ∀ (v : Value) (j : Nat) (oj : Oper) (d : Nat), j ≠ i → ops[j]? = some oj → oj.dst = some d → (a.put o.dst v).eval (.tmp d) = a.eval (.tmp d) := fun v j oj d hji hoj hdj => eval_put_other (fun e => hji (formB_ne hf hoj ho hdj e))
    have hsame : ∀ (v : Value) (d : Nat), o.dst = some d → (a.put o.dst v).eval (.tmp d) = v := fun v d hd' => by rw [hd', eval_put_same (by rw [ht]; exact ((formB_spec hf ho).2 d hd').1)]
    by_cases hiz : i = z
    · have h2 := hs.2
      rw [if_pos hiz] at h2
      subst hiz
      obtain ⟨hv, hg⟩ := hJ.pre hli
      have hr : ∀ j, reachB ops ops.size i j = true → l j = true := fun j hj => reach_done hJ.cl _ i j o ho hw hj
      refine Oper.wp_mono ?_ (h2 a w1 hg hkp (fun j oj d hj hoj hdj => hv j oj d hoj (hr j hj) hdj))
      rintro a' w2 ⟨v, rfl, hC⟩
      refine ⟨v, rfl, hcl, fun h => by simp at h, fun _ => ⟨fun j oj d hji hoj hl hdj => ?_, hC, fun j hj => by simp [hr j hj]⟩⟩
      rw [hput v j oj d hji hoj hdj]
      exact ⟨w1, hv j oj d hoj (by have : (j == i) = false := by simp [hji]
                                   simpa [this] using hl) hdj⟩
    · have h2 := hs.2
      rw [if_neg hiz] at h2
      have hzi : (z == i) = false := by simp; exact fun e => hiz e.symm
      cases hlz : l z with
      | false =>
        obtain ⟨hv, hg⟩ := hJ.pre hlz
        refine Oper.wp_mono ?_ (h2.1 a w1 hg hkp (Deps.of fun e he hb o' ho' d' hd' => hv e.on o' d' ho' (waitsB_at hw e.on (by
          rw [Array.any_eq_true']
          exact ⟨e, by simpa using he, by simp [hb]⟩)) hd'))
        rintro a' w2 ⟨v, rfl, hS, hgr⟩
        refine ⟨v, rfl, hcl, fun _ => ⟨fun j oj d hoj hl hdj => ?_, hg.trans hgr⟩, fun h => by rw [hlz, hzi] at h; cases h⟩
        by_cases hji : j = i
        · subst hji
          rw [ho] at hoj
          simp only [Option.some.injEq] at hoj
          subst hoj
          rw [hsame v d hdj]
          exact hS
        · rw [hput v j oj d hji hoj hdj]
          have : (j == i) = false := by simp [hji]
          exact hmono j w1 w2 _ hgr (hv j oj d hoj (by simpa [this] using hl) hdj)
      | true =>
        obtain ⟨hv, hC, hall⟩ := hJ.post hlz
        have hnr : reachB ops ops.size z i = false := by
          cases hr : reachB ops ops.size z i with
          | false => rfl
          | true => rw [hall i hr] at hli; cases hli
        obtain ⟨v, hrun, hS⟩ := h2.2 hnr a w1 hkp hC (fun j d hb => by
          unfold depB at hb
          rw [Bool.and_eq_true] at hb
          have hlj := waitsB_at hw j hb.1
          cases hoj : ops[j]? with
          | none => rw [hoj] at hb; simp at hb
          | some oj =>
            rw [hoj] at hb
            by_cases hjz : j = z
            · subst hjz
              rw [hoj] at hzd
              simp only [Option.bind_some] at hzd
              have := hb.2
              simp only [Option.bind_some, hzd] at this
              cases this
            · exact hv j oj d hjz hoj hlj (by simpa using hb.2))
        unfold Oper.wp
        rw [hrun, Oper.upon_value]
        refine ⟨v, rfl, hcl, (fun h => by simp [hlz] at h), fun _ => ⟨fun j oj d hjz hoj hl hdj => ?_, hC, fun j hj => by simp [hall j hj]⟩⟩
        by_cases hji : j = i
        · subst hji
          rw [ho] at hoj
          simp only [Option.some.injEq] at hoj
          subst hoj
          rw [hsame v d hdj]
          exact hS
        · rw [hput v j oj d hji hoj hdj]
          have : (j == i) = false := by simp [hji]
          exact hv j oj d hjz hoj (by simpa [this] using hl) hdj
  · intro l a w1 hall hJ ht hd hkp
    obtain ⟨hv, hC, -⟩ := hJ.post (hall z hzs)
    exact hQ a w1 (ht.trans hn.symm) hd hkp (fun i o d hiz ho hdst => hv i o d hiz ho (hall i (Array.getElem?_eq_some_iff.1 ho).1) hdst) hC
#print axioms wp_region_z
end Go.Proofs.Ytgaoionnfkbhaaa
