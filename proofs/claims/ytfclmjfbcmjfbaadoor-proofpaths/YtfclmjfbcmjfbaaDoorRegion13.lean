/-
  A region that draws its order, with guards, in which one operation writes to memory that is new since the region began, and others take what it yields.
-/
import Derived.Test.YtfclmjfbcmjfbaaDoorGR10
namespace Go.Proofs.YtfclmjfbcmjfbaaDoor
open Go.RowKit
theorem wpAny_fresh2 {P : Program} {ops : Array Oper} {S : Nat → World → Value → Prop} {fr : Nat → Bool} {z : Nat} {a0 : Act} {w0 : World} {Q : Exit → Act → World → Prop}
    (hf : formB ops a0.tmps.size = true) (hmono : ∀ i w w' x, Gr w w' → S i w x → S i w' x) (hmonoZ : ∀ i, fr i = false → i ≠ z → reachB ops ops.size i z = false → ∀ w w' x, Below w0.heap.size w w' → S i w x → S i w' x)
    (hstep : AllFrom (fun i o => ∀ a w, Gr w0 w → Kept ops a0 a → Deps ops S a w (afterZ ops fr z i o).toList → (i = z → o.guard = none ∧ ∀ Q, o.wp P a w (fun a' w' => ∃ v, a' = a.put o.dst v ∧ S i w' v ∧ Below w0.heap.size w w') Q) ∧ (i ≠ z → StepOk P ops S i o a w)) 0 ops.toList)
    (hQ : ∀ a w, a.tmps.size = a0.tmps.size → a.defers = a0.defers → Kept ops a0 a →
      (∀ (i : Nat) (o : Oper) (d : Nat), ops[i]? = some o → o.dst = some d → fr i = false → S i w (a.eval (.tmp d))) → Gr w0 w → Q .normal a w) :
    ∀ (fuel : Nat) (listed : Array Bool) (a : Act) (w : World), listed.toList.countP (! ·) = fuel → RInvZ ops S fr z a0 w0 listed a w → wpAny P .any ops Q fuel listed a w := by
  have hend : ∀ (listed : Array Bool) (a : Act) (w : World), (∀ (i : Nat) (o : Oper), ops[i]? = some o → listed[i]? = some true) → RInvZ ops S fr z a0 w0 listed a w → Q .normal a w := fun listed a w hall hI =>
    hQ a w hI.tmps hI.defers hI.old (fun i o d ho hd hfr => hI.new i o d ho (hall i o ho) hd (.inl hfr)) hI.grown
  have hready : ∀ (listed : Array Bool) (a : Act) (w : World), RInvZ ops S fr z a0 w0 listed a w → Region.ready .any ops listed = [] → ∀ (i : Nat) (o : Oper), ops[i]? = some o → listed[i]? = some true := by
    intro listed a w hI hr i
    induction i using Nat.strongRecOn with
    | _ i ih =>
      intro o ho
      have hlt : i < ops.size := (Array.getElem?_eq_some_iff.1 ho).1
      cases hl : listed[i]? with
      | none => rw [Array.getElem?_eq_none_iff] at hl; have := hI.size; omega
      | some b =>
        cases b with
        | true => rfl
        | false =>
          exfalso
          have hm : i ∈ Region.ready .any ops listed := by
            rw [mem_ready]
            refine ⟨by simp [hl], o, ho, fun e he hbe => ?_⟩
            have hlt' := (formB_spec hf ho).1 e he hbe
            have hoe : ops[e.on]? = some ops[e.on] := Array.getElem?_eq_getElem (by omega)
            have := ih e.on hlt' _ hoe
            simp [this]
          rw [hr] at hm
          cases hm
  intro fuel
  induction fuel with
  | zero =>
    intro listed a w hc hI
    have hall : ∀ (i : Nat) (o : Oper), ops[i]? = some o → listed[i]? = some true := by
      intro i o ho
      have hlt : i < listed.size := by have := (Array.getElem?_eq_some_iff.1 ho).1; have := hI.size; omega
      rw [List.countP_eq_zero] at hc
      have := hc listed[i] (by simp)
      rw [Array.getElem?_eq_getElem hlt]
      simpa using this
    refine ⟨?_, hend listed a w hall hI⟩
    cases hr : Region.ready .any ops listed with
    | nil => rfl
    | cons i r =>
      have hm : i ∈ Region.ready .any ops listed := by rw [hr]; simp
      rw [mem_ready] at hm
      obtain ⟨h1, o, ho, _⟩ := hm
      have := hall i o ho
      simp [this] at h1
  | succ fuel ih =>
    intro listed a w hc hI
    refine ⟨fun hr => hend listed a w (hready listed a w hI hr) hI, fun i hi => ?_⟩
    have hm := hi
    rw [mem_ready] at hm
    obtain ⟨h1, o, ho, hall⟩ := hm
    have hlt : i < listed.size := by have := (Array.getElem?_eq_some_iff.1 ho).1; have := hI.size; omega
    have hfalse : listed[i] = false := by simpa [hlt] using h1
    have hgd : ∀ q, listed.getD q false = true ↔ listed[q]? = some true := fun q => by
      rw [Array.getD_eq_getD_getElem?]
      cases listed[q]? with
      | none => simp
      | some b => simp
    have hwt : waitsB o (fun q => listed.getD q false) = true := waitsB_of fun e he hb => by
      have := hall e he hb
      by_cases hlt' : e.on < listed.size
      · simpa [hlt'] using this
      · simp [hlt'] at this
    have hli : listed.getD i false = false := by simp [hlt, hfalse]
    have hzi : (i == z || reachB ops ops.size z i) = true → listed.getD z false = false := fun hr => by
      cases hz : listed.getD z false with
      | false => rfl
      | true =>
        exfalso
        rw [Bool.or_eq_true] at hr
        rcases hr with hr | hr
        · rw [beq_iff_eq.1 hr, hz] at hli
          cases hli
        · cases hoz : ops[z]? with
          | none => rw [reach_none hoz] at hr; cases hr
          | some oz =>
            have := reach_done hI.closed _ z i oz hoz (hI.closed z oz hoz hz) hr
            rw [hli] at this
            cases this
    have hdeps : Deps ops S a w (afterZ ops fr z i o).toList := Deps.of fun e he hb oj hj d hd => by
      have hm : e ∈ o.after ∧ (fr e.on = false ∨ listed.getD z false = false) := by
        unfold afterZ at he
        by_cases hr : (i == z || reachB ops ops.size z i) = true
        · rw [if_pos hr] at he
          exact ⟨by simpa using he, .inr (hzi hr)⟩
        · rw [if_neg hr] at he
          simp only [Array.toList_filter, List.mem_filter, Bool.not_eq_true'] at he
          exact ⟨by simpa using he.1, .inl he.2⟩
      have := hall e hm.1 hb
      refine hI.new e.on oj d hj ?_ hd hm.2
      have hlt' : e.on < listed.size := by have := (Array.getElem?_eq_some_iff.1 hj).1; have := hI.size; omega
      simpa [hlt'] using this
    have hs0 := AllFrom.at hstep (i := i) (o := o) (by simpa using ho)
    rw [Nat.zero_add] at hs0
    have hs := hs0 a w hI.grown hI.old hdeps
    have hcnt : (listed.setIfInBounds i true).toList.countP (! ·) = fuel := by
      rw [Array.toList_setIfInBounds, List.countP_set (by simpa using hlt)]
      simp [hfalse, hc]
    have hset : ∀ q, (listed.setIfInBounds i true).getD q false = (listed.getD q false || q == i) := fun q => by
      by_cases hqi : q = i
      · subst hqi; simp [hlt]
      · simp [Array.getD_eq_getD_getElem?, Array.getElem?_setIfInBounds_ne (fun e => hqi e.symm), hqi]
    have hclosed : Closed ops (fun q => (listed.setIfInBounds i true).getD q false) := by
      have := hI.closed.step ho hwt
      have e : (fun q => (listed.setIfInBounds i true).getD q false) = fun q => listed.getD q false || q == i := funext hset
      rw [e]
      exact this
    have hnext : ∀ v w', S i w' v → Gr w0 w' → (∀ (j : Nat) (oj : Oper) (x : Value), ops[j]? = some oj → listed.getD j false = true → j ≠ i → (fr j = false ∨ (i ≠ z ∧ listed.getD z false = false)) → S j w x → S j w' x) → RInvZ ops S fr z a0 w0 (listed.setIfInBounds i true) (a.put o.dst v) w' := by
      intro v w' hv hgr hm
      refine ⟨by simpa using hI.size, put_size.trans hI.tmps, put_defers'.trans hI.defers, fun t ht => ?_, hclosed, fun j oj d hj hl hd hfr => ?_, hgr⟩
      · rw [eval_put_other (ht i o ho)]
        exact hI.old t ht
      · by_cases hij : i = j
        · subst hij
          rw [ho] at hj
          simp only [Option.some.injEq] at hj
          subst hj
          rw [hd, eval_put_same (by rw [hI.tmps]; exact ((formB_spec hf ho).2 d hd).1)]
          exact hv
        · rw [eval_put_other (fun e => hij (formB_ne hf ho hj e hd))]
          rw [hset] at hfr
          have hfr' : fr j = false ∨ (i ≠ z ∧ listed.getD z false = false) := by
            rcases hfr with h | h
            · exact .inl h
            · simp only [Bool.or_eq_false_iff, beq_eq_false_iff_ne] at h
              exact .inr ⟨fun e => h.2 e.symm, h.1⟩
          have hl' : listed[j]? = some true := by rw [Array.getElem?_setIfInBounds_ne hij] at hl; exact hl
          refine hm j oj _ hj ((hgd j).2 hl') (fun e => hij e.symm) hfr' (hI.new j oj d hj hl' hd ?_)
          rcases hfr' with h | h
          · exact .inl h
          · exact .inr h.2
    by_cases hiz : i = z
    · replace hs := hs.1 hiz
      unfold wpOp
      simp only [ho]
      have hw : Region.wanted o (yielded ops a.tmps) = true := by simp [Region.wanted, hs.1]
      rw [if_pos hw]
      refine .inl (Oper.wp_mono ?_ (hs.2 Q))
      rintro a' w' ⟨v, rfl, hv, hgr⟩
      refine ih _ _ _ hcnt (hnext v w' hv (Below.trans hI.grown hgr) (fun j oj x hoj hlj hj hfr hS => ?_))
      rcases hfr with h | h
      · refine hmonoZ j h (fun e => hj (e.trans hiz.symm)) ?_ w w' x hgr hS
        cases hr : reachB ops ops.size j z with
        | false => rfl
        | true =>
          exfalso
          have := reach_done hI.closed _ j z oj hoj (hI.closed j oj hoj hlj) hr
          rw [← hiz, hli] at this
          cases this
      · exact absurd hiz h.1
    · replace hs := hs.2 hiz
      exact stepOk_wpOp ho hs fun v w' hv hg => ih _ _ _ hcnt (hnext v w' hv (hI.grown.trans hg) (fun j _ x _ _ _ _ hS => hmono j w w' x hg hS))
/-- **ONE OPERATION OF THE REGION WRITES TO WHAT IS NEW IN IT.** -/
theorem wp_region_fresh2 {P : Program} {id : Nat} {ops : Array Oper} {Q : Exit → Act → World → Prop} {a0 : Act} {w : World} (hm : P.follows .mixedOrders = true) (S : Nat → World → Value → Prop) (fr : Nat → Bool) (z : Nat)
    (n : Nat) (hn : a0.tmps.size = n) (hf : formB ops n = true) (hmono : ∀ i w w' x, Gr w w' → S i w x → S i w' x) (hmonoZ : ∀ i, fr i = false → i ≠ z → reachB ops ops.size i z = false → ∀ w1 w2 x, Below w.heap.size w1 w2 → S i w1 x → S i w2 x)
    (hstep : AllFrom (fun i o => ∀ a w', Gr w w' → Kept ops a0 a → Deps ops S a w' (afterZ ops fr z i o).toList → (i = z → o.guard = none ∧ ∀ Q, o.wp P a w' (fun a' w'' => ∃ v, a' = a.put o.dst v ∧ S i w'' v ∧ Below w.heap.size w' w'') Q) ∧ (i ≠ z → StepOk P ops S i o a w')) 0 ops.toList)
    (hQ : ∀ a w', a.tmps.size = a0.tmps.size → a.defers = a0.defers → Kept ops a0 a →
      (∀ (i : Nat) (o : Oper) (d : Nat), ops[i]? = some o → o.dst = some d → fr i = false → S i w' (a.eval (.tmp d))) → Gr w w' → Q .normal a w') : (Code.region id ops true).wp P Q a0 w := by
  subst hn
  have e0 : (fun i => (Array.replicate ops.size false).getD i false) = fun _ => false := by
    funext i
    by_cases hi : i < ops.size
    · simp [hi]
    · simp [hi]
  refine wp_region_any hm (wpAny_fresh2 hf hmono hmonoZ hstep hQ ops.size _ a0 _ ?_ ⟨by simp, rfl, rfl, fun _ _ => rfl, ?_, fun i o d ho hl _ _ => ?_, ?_⟩)
  · simp [List.countP_replicate]
  · rw [e0]
    intro i o _ h
    cases h
  · have hlt : i < ops.size := (Array.getElem?_eq_some_iff.1 ho).1
    simp [hlt] at hl
  · exact ⟨rfl, rfl, rfl, Nat.le_refl _, fun _ _ => rfl⟩
#print axioms wp_region_fresh2
end Go.Proofs.YtfclmjfbcmjfbaaDoor
