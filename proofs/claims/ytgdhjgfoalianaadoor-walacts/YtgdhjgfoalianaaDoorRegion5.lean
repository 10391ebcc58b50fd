/-
  A region that draws its order, some of whose operations are calls that write, one behind the other; guards that are known to hold.
-/
import Derived.Test.YtgdhjgfoalianaaDoorGRb
namespace Go.Proofs.YtgdhjgfoalianaaDoor
open Go.RowKit
/-- A guard that holds: the operation that it asks is waited for, and yields what is wanted. -/
def GuardOk (ops : Array Oper) (V : Nat → Value) (o : Oper) : Prop :=
  o.guard = none ∨ ∃ j d want, o.guard = some (j, want) ∧ depB ops o.after j d = true ∧ V j = .bool want
theorem wpAny_Jg {P : Program} {ops : Array Oper} {a0 : Act} {Q : Exit → Act → World → Prop} (J : (Nat → Bool) → Act → World → Prop) (hf : formB ops a0.tmps.size = true)
    (hstep : ∀ (i : Nat) (o : Oper), ops[i]? = some o → ∀ (l : Nat → Bool) a w, J l a w → a.tmps.size = a0.tmps.size → a.defers = a0.defers → Kept ops a0 a → l i = false → waitsB o l = true →
      Region.wanted o (yielded ops a.tmps) = true ∧ o.wp P a w (fun a' w' => ∃ v, a' = a.put o.dst v ∧ J (fun k => l k || k == i) a' w') Q)
    (hQ : ∀ (l : Nat → Bool) a w, (∀ i, i < ops.size → l i = true) → J l a w → a.tmps.size = a0.tmps.size → a.defers = a0.defers → Kept ops a0 a → Q .normal a w) :
    ∀ (fuel : Nat) (listed : Array Bool) (a : Act) (w : World), listed.toList.countP (! ·) = fuel → listed.size = ops.size → a.tmps.size = a0.tmps.size → a.defers = a0.defers → Kept ops a0 a → J (fun i => listed.getD i false) a w → wpAny P .any ops Q fuel listed a w := by
  have hall : ∀ (listed : Array Bool), listed.size = ops.size → (∀ (i : Nat) (o : Oper), ops[i]? = some o → listed[i]? = some true) → ∀ i, i < ops.size → listed.getD i false = true := by
    intro listed hs h i hi
    have := h i _ (Array.getElem?_eq_getElem hi)
    rw [Array.getD_eq_getD_getElem?, this]; rfl
  have hready : ∀ (listed : Array Bool), listed.size = ops.size → Region.ready .any ops listed = [] → ∀ (i : Nat) (o : Oper), ops[i]? = some o → listed[i]? = some true := by
    intro listed hs hr i
    induction i using Nat.strongRecOn with
    | _ i ih =>
      intro o ho
      have hlt : i < ops.size := (Array.getElem?_eq_some_iff.1 ho).1
      cases hl : listed[i]? with
      | none => rw [Array.getElem?_eq_none_iff] at hl; omega
      | some b =>
        cases b with
        | true => rfl
        | false =>
          exfalso
          have hm : i ∈ Region.ready .any ops listed := by
            rw [mem_ready]
            refine ⟨by simp [hl], o, ho, fun e he hbe => ?_⟩
            have hlt' := (formB_spec hf ho).1 e he hbe
            have hoe : ops[e.on]? = some ops[e.on] := Array.getElem?_eq_getElem (by omega)
            have := ih e.on hlt' _ hoe
            simp [this]
          rw [hr] at hm
          cases hm
  intro fuel
  induction fuel with
  | zero =>
    intro listed a w hc hs ht hd hk hJ
    have hal : ∀ (i : Nat) (o : Oper), ops[i]? = some o → listed[i]? = some true := by
      intro i o ho
      have hlt : i < listed.size := by have := (Array.getElem?_eq_some_iff.1 ho).1; omega
      rw [List.countP_eq_zero] at hc
      have := hc listed[i] (by simp)
      rw [Array.getElem?_eq_getElem hlt]
      simpa using this
    exact wpAny_done hal (hQ _ a w (hall listed hs hal) hJ ht hd hk) 0
  | succ fuel ih =>
    intro listed a w hc hs ht hd hk hJ
    refine ⟨fun hr => hQ _ a w (hall listed hs (hready listed hs hr)) hJ ht hd hk, fun i hi => ?_⟩
    rw [mem_ready] at hi
    obtain ⟨h1, o, ho, hw⟩ := hi
    have hlt : i < listed.size := by have := (Array.getElem?_eq_some_iff.1 ho).1; omega
    have hfalse : listed[i] = false := by simpa [hlt] using h1
    have hli : listed.getD i false = false := by simp [hlt, hfalse]
    obtain ⟨hwn, hwp⟩ := hstep i o ho _ a w hJ ht hd hk hli (waitsB_of fun e he hb => by
      have := hw e he hb
      by_cases hlt' : e.on < listed.size
      · simpa [hlt'] using this
      · simp [hlt'] at this)
    unfold wpOp
    simp only [ho]
    rw [if_pos hwn]
    refine .inl (Oper.wp_mono ?_ hwp)
    rintro a' w' ⟨v, rfl, hJ'⟩
    refine ih _ _ _ ?_ (by simpa using hs) (put_size.trans ht) (put_defers'.trans hd) (fun t h => (eval_put_other (h i o ho)).trans (hk t h)) ?_
    · rw [Array.toList_setIfInBounds, List.countP_set (by simpa using hlt)]
      simp [hfalse, hc]
    · have e : (fun k => (listed.setIfInBounds i true).getD k false) = fun k => listed.getD k false || k == i := by
        funext k
        by_cases hki : k = i
        · subst hki; simp [hlt]
        · simp [Array.getD_eq_getD_getElem?, Array.getElem?_setIfInBounds_ne (fun e => hki e.symm), hki]
      rw [e]
      exact hJ'
structure SJ (ops : Array Oper) (V : Nat → Value) (T : Nat → World → Prop) (ks : List Nat) (z : Nat) (a0 : Act) (l : Nat → Bool) (a : Act) (w : World) : Prop where
  vals : ∀ (i : Nat) (o : Oper) (d : Nat), ops[i]? = some o → l i = true → o.dst = some d → a.eval (.tmp d) = V i
  kept : l z = false → KeptZ ops z a0 a
  all : l z = true → ∀ j, j < ops.size → l j = true
  st : ∃ s, (∀ r k, ks[r]? = some k → l k = decide (r < s)) ∧ s ≤ ks.length ∧ T s w
  cl : ∀ (j : Nat) (oj : Oper), ops[j]? = some oj → l j = true → waitsB oj l = true
theorem waitsB_mono {o : Oper} {l l' : Nat → Bool} (h : waitsB o l = true) (hm : ∀ j, l j = true → l' j = true) : waitsB o l' = true := by
  unfold waitsB at *
  rw [Array.all_eq_true_iff_forall_mem] at *
  intro e he
  have := h e he
  rw [Bool.or_eq_true] at *
  rcases this with h | h
  · exact .inl h
  · exact .inr (hm _ h)
/-- Does each of these wait for the one ahead of it? -/
def chainB (ops : Array Oper) (ks : List Nat) : Bool := (List.range ks.length).all fun r => r == 0 || (afterB ops (ks.getD r 0) (ks.getD (r - 1) 0) || (List.range ops.size).any fun j => afterB ops (ks.getD r 0) j && afterB ops j (ks.getD (r - 1) 0))
/-- What is owed of operation i. -/
abbrev OwesS (P : Program) (ops : Array Oper) (V : Nat → Value) (T : Nat → World → Prop) (ks : List Nat) (z : Nat) (a0 : Act) (Q : Exit → Act → World → Prop) (i : Nat) (o : Oper) : Prop :=
  GuardOk ops V o ∧ ((ks.all (· != i) = true ∧ ∀ s a w', KeptZ ops z a0 a → Finds ops V o a → T s w' → (execOp a.eval o).run P w' = .ok (.value (V i)) w') ∨
    (∃ r, ks[r]? = some i ∧ ∀ a w', KeptZ ops z a0 a → Finds ops V o a → T r w' → o.wp P a w' (fun a' w'' => a' = a.put o.dst (V i) ∧ T (r + 1) w'') Q))
theorem wp_region_chain {P : Program} {id : Nat} {ops : Array Oper} {Q : Exit → Act → World → Prop} {a0 : Act} {w : World} (hm : P.follows .mixedOrders = true) (V : Nat → Value) (T : Nat → World → Prop) (ks : List Nat) (z : Nat)
    (n : Nat) (hn : a0.tmps.size = n) (hf : formB ops n = true) (hz : (allB ops z || (ops[z]?).isNone) = true) (hch : chainB ops ks = true) (hnd : ks.Nodup) (hks : ks.all (· < ops.size) = true) (h0 : ∀ w', w'.heap = w.heap → Gr w w' → T 0 w')
    (hstep : AllFrom (OwesS P ops V T ks z a0 Q) 0 ops.toList)
    (hQ : ∀ a w', a.tmps.size = a0.tmps.size → a.defers = a0.defers → Kept ops a0 a → (∀ (i : Nat) (o : Oper) (d : Nat), ops[i]? = some o → o.dst = some d → a.eval (.tmp d) = V i) → T ks.length w' → Q .normal a w') :
    (Code.region id ops true).wp P Q a0 w := by
  have hzw : ∀ (o : Oper) (l : Nat → Bool), ops[z]? = some o → waitsB o l = true → ∀ j, j < ops.size → j ≠ z → l j = true := by
    intro o l ho hw j hj hne
    rw [ho, Option.isNone_some, Bool.or_false] at hz
    unfold allB at hz
    rw [ho] at hz
    have := List.all_eq_true.1 hz j (by simpa using hj)
    simp only [Bool.or_eq_true, beq_iff_eq] at this
    rcases this with h | h
    · exact absurd h hne
    · exact waitsB_at hw j h
  subst hn
  refine wp_region_any hm (wpAny_Jg (SJ ops V T ks z a0) hf ?_ ?_ ops.size _ a0 _ ?_ (by simp) rfl rfl (fun _ _ => rfl) ?_)
  · intro i o ho l a w1 hJ ht hd hkp hli hw
    have hs := AllFrom.at hstep (i := i) (o := o) (by simpa using ho)
    rw [Nat.zero_add] at hs
    have hi : i < ops.size := (Array.getElem?_eq_some_iff.1 ho).1
    have hlz : l z = false := by
      cases h : l z with
      | false => rfl
      | true => rw [hJ.all h i hi] at hli; cases hli
    have hfinds : Finds ops V o a := by
      intro j d hb
      unfold depB at hb
      rw [Bool.and_eq_true] at hb
      have hlj := waitsB_at hw j hb.1
      cases hoj : ops[j]? with
      | none => rw [hoj] at hb; simp at hb
      | some oj =>
        rw [hoj] at hb
        exact hJ.vals j oj d hoj hlj (by simpa using hb.2)
    have hwant : Region.wanted o (yielded ops a.tmps) = true := by
      rcases hs.1 with hg | ⟨j, d, want, hg, hdep, hV⟩
      · simp [Region.wanted, hg]
      · have he := hfinds j d hdep
        rw [hV] at he
        unfold depB at hdep
        rw [Bool.and_eq_true] at hdep
        cases hoj : ops[j]? with
        | none => rw [hoj] at hdep; simp at hdep
        | some oj =>
          rw [hoj] at hdep
          have hdj : oj.dst = some d := by simpa using hdep.2
          have hdl : d < a.tmps.size := by rw [ht]; exact ((formB_spec hf hoj).2 d hdj).1
          have hx : a.tmps[d]? = some (.bool want) := by
            rw [Array.getElem?_eq_getElem hdl]
            simp only [Act.eval] at he
            rw [Option.some.injEq]
            simpa [Array.getD_eq_getD_getElem?, Array.getElem?_eq_getElem hdl] using he
          simp [Region.wanted, hg, yielded, hoj, hdj, hx]
    have next : ∀ w2, (∃ s, (∀ r k, ks[r]? = some k → (l k || k == i) = decide (r < s)) ∧ s ≤ ks.length ∧ T s w2) → SJ ops V T ks z a0 (fun j => l j || j == i) (a.put o.dst (V i)) w2 := by
      intro w2 hT
      refine ⟨fun j oj d hoj hl hdj => ?_, fun h t hft => ?_, fun h j hj => ?_, hT, fun j oj hoj hl => ?_⟩
      · by_cases hji : j = i
        · subst hji
          rw [ho] at hoj
          simp only [Option.some.injEq] at hoj
          subst hoj
          rw [hdj, eval_put_same (by rw [ht]; exact ((formB_spec hf ho).2 d hdj).1)]
        · rw [eval_put_other (fun e => hji (formB_ne hf hoj ho hdj e))]
          exact hJ.vals j oj d hoj (by simpa [hji] using hl) hdj
      · simp only [Bool.or_eq_false_iff, beq_eq_false_iff_ne] at h
        have hne : o.dst ≠ some t := by
          unfold freeZ at hft
          have := List.all_eq_true.1 hft i (by simpa using hi)
          rw [ho] at this
          simp only [Bool.or_eq_true, beq_iff_eq, bne_iff_ne] at this
          rcases this with h' | h'
          · exact absurd h'.symm h.2
          · exact h'
        rw [eval_put_other hne]
        exact hJ.kept hlz t hft
      · by_cases hji : j = i
        · simp [hji]
        · have hzi : z = i := by
            by_cases e : z = i
            · exact e
            · have : l z = true := by simpa [e] using h
              rw [hlz] at this; cases this
          subst hzi
          have := hzw o l ho hw j hj hji
          simp [this]
      · by_cases hji : j = i
        · subst hji
          rw [ho] at hoj
          simp only [Option.some.injEq] at hoj
          subst hoj
          exact waitsB_mono hw (fun q hq => by simp [hq])
        · exact waitsB_mono (hJ.cl j oj hoj (by simpa [hji] using hl)) (fun q hq => by simp [hq])
    refine ⟨hwant, ?_⟩
    obtain ⟨s, hst, hsl, hTs⟩ := hJ.st
    rcases hs.2 with ⟨hni, hrun⟩ | ⟨r, hr, hcall⟩
    · have hr := hrun s a w1 (hJ.kept hlz) hfinds hTs
      unfold Oper.wp
      rw [hr, Oper.upon_value]
      refine ⟨V i, rfl, next w1 ⟨s, fun r k hk => ?_, hsl, hTs⟩⟩
      have := List.all_eq_true.1 hni k (List.mem_of_getElem? hk)
      rw [show (k == i) = false by simpa using this, Bool.or_false]
      exact hst r k hk
    · have hrl : r < ks.length := (List.getElem?_eq_some_iff.1 hr).1
      have hsr : s = r := by
        have h1 : ¬ r < s := by have := hst r i hr; rw [hli] at this; simpa using this.symm
        have h2 : r ≤ s := by
          cases r with
          | zero => omega
          | succ q =>
            unfold chainB at hch
            have := List.all_eq_true.1 hch (q + 1) (by simpa using hrl)
            simp only [Nat.add_eq_zero_iff, Nat.succ_ne_self, and_false, Bool.or_eq_true, beq_iff_eq, false_or, Nat.add_sub_cancel] at this
            have hq : q < ks.length := by omega
            have e1 : ks.getD (q + 1) 0 = i := by rw [List.getD_eq_getElem?_getD, hr]; rfl
            have e2 : ks.getD q 0 = ks[q] := by rw [List.getD_eq_getElem?_getD, List.getElem?_eq_getElem hq]; rfl
            rw [e1, e2] at this
            have hdir : ∀ x, afterB ops i x = true → l x = true := fun x hx => by
              unfold afterB at hx
              rw [ho] at hx
              exact waitsB_at hw x hx
            have hl : l ks[q] = true := by
              rcases this with h | h
              · exact hdir _ h
              · rw [List.any_eq_true] at h
                obtain ⟨j, -, hj⟩ := h
                rw [Bool.and_eq_true] at hj
                have hlj := hdir j hj.1
                have hx := hj.2
                unfold afterB at hx
                cases hoj : ops[j]? with
                | none => rw [hoj] at hx; cases hx
                | some oj =>
                  rw [hoj] at hx
                  exact waitsB_at (hJ.cl j oj hoj hlj) _ hx
            rw [hst q _ (List.getElem?_eq_getElem hq)] at hl
            exact of_decide_eq_true hl
        omega
      subst hsr
      refine Oper.wp_mono ?_ (hcall a w1 (hJ.kept hlz) hfinds hTs)
      rintro a' w2 ⟨rfl, hB⟩
      refine ⟨V i, rfl, next w2 ⟨s + 1, fun r k hk => ?_, hrl, hB⟩⟩
      rw [hst r k hk]
      by_cases hki : k = i
      · subst hki
        have hrk : r < ks.length := (List.getElem?_eq_some_iff.1 hk).1
        have e : r = s := (List.getElem_inj hnd (h₀ := hrk) (h₁ := hrl)).1 ((List.getElem?_eq_some_iff.1 hk).2.trans (List.getElem?_eq_some_iff.1 hr).2.symm)
        subst e; simp
      · have hrs : r ≠ s := fun e => hki (by subst e; rw [hr] at hk; exact (Option.some.inj hk).symm)
        rw [show (k == i) = false by simpa using hki, Bool.or_false]
        by_cases h1 : r < s
        · rw [decide_eq_true h1, decide_eq_true (by omega)]
        · rw [decide_eq_false h1, decide_eq_false (by omega)]
  · intro l a w1 hall hJ ht hd hkp
    obtain ⟨s, hst, hsl, hTs⟩ := hJ.st
    have : s = ks.length := by
      by_cases hs : s < ks.length
      · have h1 := hst s _ (List.getElem?_eq_getElem hs)
        rw [hall _ (by simpa using List.all_eq_true.1 hks _ (List.getElem_mem hs))] at h1
        simp at h1
      · omega
    subst this
    exact hQ a w1 ht hd hkp (fun i o d ho hdst => hJ.vals i o d ho (hall i (Array.getElem?_eq_some_iff.1 ho).1) hdst) hTs
  · simp [List.countP_replicate]
  · have e : (fun i => (Array.replicate ops.size false).getD i false) = fun _ => false := by
      funext i
      by_cases hi : i < ops.size
      · simp [hi]
      · simp [hi]
    rw [e]
    exact ⟨fun i o d _ h => by simp at h, fun _ t _ => rfl, fun h => by simp at h, ⟨0, fun _ _ _ => by simp, Nat.zero_le _, h0 _ rfl ⟨rfl, rfl, rfl, Nat.le_refl _, fun _ _ => rfl⟩⟩, fun _ _ _ h => by simp at h⟩
#print axioms wp_region_chain
end Go.Proofs.YtgdhjgfoalianaaDoor
