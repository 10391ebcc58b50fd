/-
  A region that draws its order and whose operations leave the world as a relation R tells (any that is reflexive and transitive): a fact of its own for each operation's value, shown once, serves every order.
-/
import Derived.Test.YtmicmbjbclkbjaaRegion6
namespace Go.Proofs.Ytmicmbjbclkbjaa
open Go.RowKit
/-- A relation that serves: nothing done, one behind another, an order drawn. -/
structure RelOk (R : World → World → Prop) : Prop where
  refl : ∀ w, R w w
  trans : ∀ {a b c : World}, R a b → R b c → R a c
  grown : ∀ {w w' : World}, Gr w w' → R w w'
section
variable {R : World → World → Prop}
/-- One operation: what is owed. -/
def StepOkR (R : World → World → Prop) (P : Program) (ops : Array Oper) (S : Nat → World → Value → Prop) (i : Nat) (o : Oper) (a : Act) (w : World) : Prop :=
  match o.guard with
  | none => ∀ Q, o.wp P a w (fun a' w' => ∃ v, a' = a.put o.dst v ∧ S i w' v ∧ R w w') Q
  | some (g, b) => ∃ d c, ((ops[g]?).bind (·.dst)) = some d ∧ a.eval (.tmp d) = .bool c ∧
      (c = b → ∀ Q, o.wp P a w (fun a' w' => ∃ v, a' = a.put o.dst v ∧ S i w' v ∧ R w w') Q) ∧ (c ≠ b → S i w undef)

structure RInvR (R : World → World → Prop) (ops : Array Oper) (S : Nat → World → Value → Prop) (a0 : Act) (w0 : World) (listed : Array Bool) (a : Act) (w : World) : Prop where
  size : listed.size = ops.size
  tmps : a.tmps.size = a0.tmps.size
  defers : a.defers = a0.defers
  old : Kept ops a0 a
  new : ∀ (i : Nat) (o : Oper) (d : Nat), ops[i]? = some o → listed[i]? = some true → o.dst = some d → S i w (a.eval (.tmp d))
  grown : R w0 w

theorem RInvR.step (hR : RelOk R) {ops : Array Oper} {S : Nat → World → Value → Prop} {a0 : Act} {w0 : World} {listed : Array Bool} {a : Act} {w w' : World} {i : Nat} {o : Oper} {v : Value}
    (hf : formB ops a0.tmps.size = true) (hmono : ∀ i w w' x, R w w' → S i w x → S i w' x) (h : RInvR R ops S a0 w0 listed a w) (ho : ops[i]? = some o) (hv : S i w' v) (hg : R w w') :
    RInvR R ops S a0 w0 (listed.setIfInBounds i true) (a.put o.dst v) w' := by
  refine ⟨by simpa using h.size, put_size.trans h.tmps, put_defers'.trans h.defers, fun t ht => ?_, fun j oj d hj hl hd => ?_, hR.trans h.grown hg⟩
  · rw [eval_put_other (ht i o ho)]
    exact h.old t ht
  · by_cases hij : i = j
    · subst hij
      rw [ho] at hj
      simp only [Option.some.injEq] at hj
      subst hj
      rw [hd, eval_put_same (by rw [h.tmps]; exact ((formB_spec hf ho).2 d hd).1)]
      exact hv
    · rw [eval_put_other (fun e => hij (formB_ne hf ho hj e hd))]
      refine hmono j w w' _ hg (h.new j oj d hj ?_ hd)
      rw [Array.getElem?_setIfInBounds_ne hij] at hl
      exact hl

theorem stepOk_wpOpR (hR : RelOk R) {P : Program} {ops : Array Oper} {S : Nat → World → Value → Prop} {Q : Exit → Act → World → Prop} {i : Nat} {o : Oper} {a : Act} {w : World} {K : Act → World → Prop}
    (ho : ops[i]? = some o) (h : StepOkR R P ops S i o a w) (hK : ∀ v w', S i w' v → R w w' → K (a.put o.dst v) w') : wpOp P ops Q i K a w := by
  unfold wpOp
  simp only [ho]
  unfold StepOkR at h
  cases hg : o.guard with
  | none =>
    rw [hg] at h
    have hw : Region.wanted o (yielded ops a.tmps) = true := by simp [Region.wanted, hg]
    rw [if_pos hw]
    refine .inl (Oper.wp_mono ?_ (h Q))
    rintro a' w' ⟨v, rfl, hv, hgr⟩
    exact hK v w' hv hgr
  | some gb =>
    obtain ⟨g, b⟩ := gb
    rw [hg] at h
    obtain ⟨d, c, hd, hc, h1, h2⟩ := h
    have hy := yielded_of hd hc
    by_cases hcb : c = b
    · have hw : Region.wanted o (yielded ops a.tmps) = true := by simp [Region.wanted, hg, hy, hcb]
      rw [if_pos hw]
      refine .inl (Oper.wp_mono ?_ (h1 hcb Q))
      rintro a' w' ⟨v, rfl, hv, hgr⟩
      exact hK v w' hv hgr
    · have hw : ¬ Region.wanted o (yielded ops a.tmps) = true := by simp [Region.wanted, hg, hy, hcb]
      rw [if_neg hw]
      exact hK undef w (h2 hcb) (hR.refl w)

theorem wpAny_invR (hR : RelOk R) {P : Program} {ops : Array Oper} {S : Nat → World → Value → Prop} {a0 : Act} {w0 : World} {Q : Exit → Act → World → Prop}
    (hf : formB ops a0.tmps.size = true) (hmono : ∀ i w w' x, R w w' → S i w x → S i w' x)
    (hstep : AllFrom (fun i o => ∀ a w, R w0 w → Kept ops a0 a → Deps ops S a w o.after.toList → StepOkR R P ops S i o a w) 0 ops.toList)
    (hQ : ∀ a w, a.tmps.size = a0.tmps.size → a.defers = a0.defers → Kept ops a0 a →
      (∀ (i : Nat) (o : Oper) (d : Nat), ops[i]? = some o → o.dst = some d → S i w (a.eval (.tmp d))) → R w0 w → Q .normal a w) :
    ∀ (fuel : Nat) (listed : Array Bool) (a : Act) (w : World), listed.toList.countP (! ·) = fuel → RInvR R ops S a0 w0 listed a w → wpAny P .any ops Q fuel listed a w := by
  have hend : ∀ (listed : Array Bool) (a : Act) (w : World), (∀ (i : Nat) (o : Oper), ops[i]? = some o → listed[i]? = some true) → RInvR R ops S a0 w0 listed a w → Q .normal a w := fun listed a w hall hI =>
    hQ a w hI.tmps hI.defers hI.old (fun i o d ho hd => hI.new i o d ho (hall i o ho) hd) hI.grown
  have hready : ∀ (listed : Array Bool) (a : Act) (w : World), RInvR R ops S a0 w0 listed a w → Region.ready .any ops listed = [] → ∀ (i : Nat) (o : Oper), ops[i]? = some o → listed[i]? = some true := by
    intro listed a w hI hr i
    induction i using Nat.strongRecOn with
    | _ i ih =>
      intro o ho
      have hlt : i < ops.size := (Array.getElem?_eq_some_iff.1 ho).1
      cases hl : listed[i]? with
      | none => rw [Array.getElem?_eq_none_iff] at hl; have := hI.size; omega
      | some b =>
        cases b with
        | true => rfl
        | false =>
          exfalso
          have hm : i ∈ Region.ready .any ops listed := by
            rw [mem_ready]
            refine ⟨by simp [hl], o, ho, fun e he hbe => ?_⟩
            have hlt' := (formB_spec hf ho).1 e he hbe
            have hoe : ops[e.on]? = some ops[e.on] := Array.getElem?_eq_getElem (by omega)
            have := ih e.on hlt' _ hoe
            simp [this]
          rw [hr] at hm
          cases hm
  intro fuel
  induction fuel with
  | zero =>
    intro listed a w hc hI
    have hall : ∀ (i : Nat) (o : Oper), ops[i]? = some o → listed[i]? = some true := by
      intro i o ho
      have hlt : i < listed.size := by have := (Array.getElem?_eq_some_iff.1 ho).1; have := hI.size; omega
      rw [List.countP_eq_zero] at hc
      have := hc listed[i] (by simp)
      rw [Array.getElem?_eq_getElem hlt]
      simpa using this
    refine ⟨?_, hend listed a w hall hI⟩
    cases hr : Region.ready .any ops listed with
    | nil => rfl
    | cons i r =>
      have hm : i ∈ Region.ready .any ops listed := by rw [hr]; simp
      rw [mem_ready] at hm
      obtain ⟨h1, o, ho, _⟩ := hm
      have := hall i o ho
      simp [this] at h1
  | succ fuel ih =>
    intro listed a w hc hI
    refine ⟨fun hr => hend listed a w (hready listed a w hI hr) hI, fun i hi => ?_⟩
    have hm := hi
    rw [mem_ready] at hm
    obtain ⟨h1, o, ho, hall⟩ := hm
    have hlt : i < listed.size := by have := (Array.getElem?_eq_some_iff.1 ho).1; have := hI.size; omega
    have hfalse : listed[i] = false := by simpa [hlt] using h1
    have hdeps : Deps ops S a w o.after.toList := Deps.of fun e he hb oj hj d hd => by
      have := hall e (by simpa using he) hb
      refine hI.new e.on oj d hj ?_ hd
      have hlt' : e.on < listed.size := by have := (Array.getElem?_eq_some_iff.1 hj).1; have := hI.size; omega
      simpa [hlt'] using this
    have hs := AllFrom.at hstep (i := i) (o := o) (by simpa using ho) a w hI.grown hI.old hdeps
    rw [Nat.zero_add] at hs
    refine stepOk_wpOpR hR ho hs fun v w' hv hg => ih _ _ _ ?_ (RInvR.step hR hf hmono hI ho hv hg)
    rw [Array.toList_setIfInBounds, List.countP_set (by simpa using hlt)]
    simp [hfalse, hc]

/-- **ONE STEP AN OPERATION SERVES EVERY ORDER.** -/
theorem wp_region_invR (hR : RelOk R) {P : Program} {id : Nat} {ops : Array Oper} {Q : Exit → Act → World → Prop} {a0 : Act} {w : World} (hm : P.follows .mixedOrders = true) (S : Nat → World → Value → Prop)
    (n : Nat) (hn : a0.tmps.size = n) (hf : formB ops n = true) (hmono : ∀ i w w' x, R w w' → S i w x → S i w' x)
    (hstep : AllFrom (fun i o => ∀ a w', R w w' → Kept ops a0 a → Deps ops S a w' o.after.toList → StepOkR R P ops S i o a w') 0 ops.toList)
    (hQ : ∀ a w', a.tmps.size = a0.tmps.size → a.defers = a0.defers → Kept ops a0 a →
      (∀ (i : Nat) (o : Oper) (d : Nat), ops[i]? = some o → o.dst = some d → S i w' (a.eval (.tmp d))) → R w w' → Q .normal a w') : (Code.region id ops true).wp P Q a0 w := by
  subst hn
  refine wp_region_any hm (wpAny_invR hR hf hmono hstep hQ ops.size _ a0 _ ?_ ⟨by simp, rfl, rfl, fun _ _ => rfl, fun i o d ho hl _ => ?_, ?_⟩)
  · simp [List.countP_replicate]
  · have hlt : i < ops.size := (Array.getElem?_eq_some_iff.1 ho).1
    simp [hlt] at hl
  · exact hR.grown ⟨rfl, rfl, rfl, Nat.le_refl _, fun _ _ => rfl⟩
theorem wpAny_tailR (hR : RelOk R) {P : Program} {ops : Array Oper} {S : Nat → World → Value → Prop} {a0 : Act} {w0 : World} {Q : Exit → Act → World → Prop} (last : Nat) (ol : Oper) (hol : ops[last]? = some ol) (hlb : lastB ops last = true)
    (hf : formB ops a0.tmps.size = true) (hmono : ∀ i w w' x, R w w' → S i w x → S i w' x)
    (hstep : AllFrom (fun i o => ∀ a w, R w0 w → Kept ops a0 a → Deps ops S a w o.after.toList → StepOkR R P ops S i o a w) 0 (ops.toList.take last))
    (hQ : ∀ a w, a.tmps.size = a0.tmps.size → a.defers = a0.defers → Kept ops a0 a →
      (∀ (i : Nat) (o : Oper) (d : Nat), i < last → ops[i]? = some o → o.dst = some d → S i w (a.eval (.tmp d))) → R w0 w → ol.wp P a w (fun a' w' => Q .normal a' w') Q) :
    ∀ (fuel : Nat) (listed : Array Bool) (a : Act) (w : World), listed.toList.countP (! ·) = fuel → listed[last]? = some false → RInvR R ops S a0 w0 listed a w → wpAny P .any ops Q fuel listed a w := by
  unfold lastB at hlb
  rw [hol] at hlb
  simp only [Bool.and_eq_true, beq_iff_eq, List.all_eq_true, List.mem_range, Array.any_eq_true'] at hlb
  obtain ⟨⟨hlg, hlsz⟩, hle⟩ := hlb
  intro fuel
  induction fuel with
  | zero =>
    intro listed a w hc hlast hI
    rw [List.countP_eq_zero] at hc
    have hlt : last < listed.size := (Array.getElem?_eq_some_iff.1 hlast).1
    have := hc listed[last] (by simp)
    rw [Array.getElem?_eq_getElem hlt] at hlast
    simp at hlast
    simp [hlast] at this
  | succ fuel ih =>
    intro listed a w hc hlast hI
    have hltl : last < listed.size := (Array.getElem?_eq_some_iff.1 hlast).1
    refine ⟨fun hr => ?_, fun i hi => ?_⟩
    · exfalso
      have hall : ∀ i, i ≤ last → listed[i]? = some true := by
        intro i
        induction i using Nat.strongRecOn with
        | _ i ih2 =>
          intro hil
          have hlt : i < ops.size := by omega
          have ho : ops[i]? = some ops[i] := Array.getElem?_eq_getElem hlt
          cases hl : listed[i]? with
          | none => rw [Array.getElem?_eq_none_iff] at hl; have := hI.size; omega
          | some b =>
            cases b with
            | true => rfl
            | false =>
              exfalso
              have hm : i ∈ Region.ready .any ops listed := by
                rw [mem_ready]
                refine ⟨by simp [hl], _, ho, fun e he hbe => ?_⟩
                have hlt' := (formB_spec hf ho).1 e he hbe
                have := ih2 e.on hlt' (by omega)
                simp [this]
              rw [hr] at hm
              cases hm
      rw [hall last (Nat.le_refl _)] at hlast
      cases hlast
    · have hm := hi
      rw [mem_ready] at hm
      obtain ⟨h1, o, ho, hall⟩ := hm
      have hlt : i < listed.size := by have := (Array.getElem?_eq_some_iff.1 ho).1; have := hI.size; omega
      have hfalse : listed[i] = false := by simpa [hlt] using h1
      by_cases hil : i = last
      · subst hil
        rw [hol] at ho
        simp only [Option.some.injEq] at ho
        subst ho
        have hdone : ∀ j, j < i → listed[j]? = some true := by
          intro j hj
          obtain ⟨e, he, hbe, hon⟩ := by simpa using hle j hj
          have := hall e (by simpa using he) hbe
          rw [hon] at this
          have hlt' : j < listed.size := by omega
          simpa [hlt'] using this
        unfold wpOp
        simp only [hol]
        have hgn : ol.guard = none := by simpa using hlg
        have hw : Region.wanted ol (yielded ops a.tmps) = true := by simp [Region.wanted, hgn]
        rw [if_pos hw]
        refine .inl (Oper.wp_mono ?_ (hQ a w hI.tmps hI.defers hI.old (fun j oj d hj hoj hd => hI.new j oj d hoj (hdone j hj) hd) hI.grown))
        intro a' w' hq
        refine wpAny_done (fun j oj hoj => ?_) hq fuel
        have hj : j < ops.size := (Array.getElem?_eq_some_iff.1 hoj).1
        by_cases hji : j = i
        · subst hji; simp [hlt]
        · rw [Array.getElem?_setIfInBounds_ne (fun e => hji e.symm)]
          exact hdone j (by omega)
      · have hilt : i < last := by have := (Array.getElem?_eq_some_iff.1 ho).1; omega
        have hdeps : Deps ops S a w o.after.toList := Deps.of fun e he hb oj hj d hd => by
          have := hall e (by simpa using he) hb
          refine hI.new e.on oj d hj ?_ hd
          have hlt' : e.on < listed.size := by have := (Array.getElem?_eq_some_iff.1 hj).1; have := hI.size; omega
          simpa [hlt'] using this
        have hs := AllFrom.at hstep (i := i) (o := o) (by rw [List.getElem?_take_of_lt hilt]; simpa using ho) a w hI.grown hI.old hdeps
        rw [Nat.zero_add] at hs
        refine stepOk_wpOpR hR ho hs fun v w' hv hg => ih _ _ _ ?_ ?_ (RInvR.step hR hf hmono hI ho hv hg)
        · rw [Array.toList_setIfInBounds, List.countP_set (by simpa using hlt)]
          simp [hfalse, hc]
        · rw [Array.getElem?_setIfInBounds_ne hil]
          exact hlast
/-- The same, where the last operation waits for all others and may do what it likes. -/
theorem wp_region_tailR (hR : RelOk R) {P : Program} {id : Nat} {ops : Array Oper} {Q : Exit → Act → World → Prop} {a0 : Act} {w : World} (hm : P.follows .mixedOrders = true) (S : Nat → World → Value → Prop)
    (n : Nat) (hn : a0.tmps.size = n) (hf : formB ops n = true) (last : Nat) (ol : Oper) (hol : ops[last]? = some ol) (hlb : lastB ops last = true) (hmono : ∀ i w w' x, R w w' → S i w x → S i w' x)
    (hstep : AllFrom (fun i o => ∀ a w', R w w' → Kept ops a0 a → Deps ops S a w' o.after.toList → StepOkR R P ops S i o a w') 0 (ops.toList.take last))
    (hQ : ∀ a w', a.tmps.size = a0.tmps.size → a.defers = a0.defers → Kept ops a0 a →
      (∀ (i : Nat) (o : Oper) (d : Nat), i < last → ops[i]? = some o → o.dst = some d → S i w' (a.eval (.tmp d))) → R w w' → ol.wp P a w' (fun a' w'' => Q .normal a' w'') Q) : (Code.region id ops true).wp P Q a0 w := by
  subst hn
  have hlt0 : last < ops.size := (Array.getElem?_eq_some_iff.1 hol).1
  refine wp_region_any hm (wpAny_tailR hR last ol hol hlb hf hmono hstep hQ ops.size _ a0 _ ?_ ?_ ⟨by simp, rfl, rfl, fun _ _ => rfl, fun i o d ho hl _ => ?_, ?_⟩)
  · simp [List.countP_replicate]
  · simp [hlt0]
  · have hlt : i < ops.size := (Array.getElem?_eq_some_iff.1 ho).1
    simp [hlt] at hl
  · exact hR.grown ⟨rfl, rfl, rfl, Nat.le_refl _, fun _ _ => rfl⟩
/-- An operation that yields a value and leaves the world. -/
theorem wp_valueR (hR : RelOk R) {P : Program} {o : Oper} {a : Act} {w : World} {S : World → Value → Prop} {Q : Exit → Act → World → Prop} (v : Value) (hrun : (execOp a.eval o).run P w = .ok (.value v) w) (hS : S w v) :
    o.wp P a w (fun a' w' => ∃ v, a' = a.put o.dst v ∧ S w' v ∧ R w w') Q := by
  unfold Oper.wp
  rw [hrun]
  exact ⟨v, rfl, hS, hR.refl w⟩

/-- A call. -/
theorem wp_callR {P : Program} {o : Oper} {a : Act} {w : World} {S : World → Value → Prop} {Q : Exit → Act → World → Prop} (f : FuncId) (args : Array Value) (hrun : (execOp a.eval o).run P w = .ok (.enter f args) w)
    (hc : Calls P f args w fun e w' => ∃ v, e = .returned v ∧ S w' v ∧ R w w') :
    o.wp P a w (fun a' w' => ∃ v, a' = a.put o.dst v ∧ S w' v ∧ R w w') Q := by
  unfold Oper.wp
  rw [hrun]
  refine hc.mono ?_
  rintro e w' ⟨v, rfl, hv, hg⟩
  exact ⟨v, rfl, hv, hg⟩

structure TJR (R : World → World → Prop) (P : Program) (ops : Array Oper) (S : Nat → World → Value → Prop) (Q : Exit → Act → World → Prop) (k : Nat) (w0 : World) (l : Nat → Bool) (a : Act) (w : World) : Prop where
  closed : Closed ops l
  left : (∀ i, k ≤ i → i < ops.size → l i = false) → (∀ (i : Nat) (o : Oper) (d : Nat), ops[i]? = some o → l i = true → o.dst = some d → S i w (a.eval (.tmp d))) ∧ R w0 w
  right : (∃ i, k ≤ i ∧ i < ops.size ∧ l i = true) → ∃ m, k < m ∧ m ≤ ops.size ∧ (∀ i, i < m → l i = true) ∧ (∀ i, m ≤ i → i < ops.size → l i = false) ∧ wpSeq P Q (ops.toList.drop m) a w
theorem wp_region_tailsR (hR : RelOk R) {P : Program} {id : Nat} {ops : Array Oper} {Q : Exit → Act → World → Prop} {a0 : Act} {w : World} (hm : P.follows .mixedOrders = true) (S : Nat → World → Value → Prop)
    (n : Nat) (hn : a0.tmps.size = n) (hf : formB ops n = true) (k : Nat) (hk0 : k < ops.size) (hlb : tailsB ops k = true) (hmono : ∀ i w w' x, R w w' → S i w x → S i w' x)
    (hstep : AllFrom (fun i o => o.guard = none ∧ ∀ a w', R w w' → Kept ops a0 a → Deps ops S a w' o.after.toList → ∀ Q, o.wp P a w' (fun a' w'' => ∃ v, a' = a.put o.dst v ∧ S i w'' v ∧ R w' w'') Q) 0 (ops.toList.take k))
    (hQ : ∀ a w', a.tmps.size = a0.tmps.size → a.defers = a0.defers → Kept ops a0 a →
      (∀ (i : Nat) (o : Oper) (d : Nat), i < k → ops[i]? = some o → o.dst = some d → S i w' (a.eval (.tmp d))) → R w w' → wpSeq P Q (ops.toList.drop k) a w') : (Code.region id ops true).wp P Q a0 w := by
  subst hn
  have hdrop : ∀ {i : Nat} {o : Oper}, ops[i]? = some o → ops.toList.drop i = o :: ops.toList.drop (i + 1) := by
    intro i o ho
    have hi : i < ops.toList.length := by have := (Array.getElem?_eq_some_iff.1 ho).1; simpa using this
    rw [List.drop_eq_getElem_cons hi]
    congr 1
    have : ops.toList[i]? = some o := by simpa using ho
    rw [List.getElem?_eq_getElem hi] at this
    exact Option.some.inj this
  refine wp_region_J hm (TJR R P ops S Q k w) a0.tmps.size rfl hf ?_ ?_ ?_
  · intro w' _ hg
    exact ⟨fun i o _ hl => by simp at hl, fun _ => ⟨fun i o d _ hl => by simp at hl, hR.grown hg⟩, fun ⟨i, _, _, hl⟩ => by simp at hl⟩
  · intro i o ho l a w1 hJ hsz hdf hkp hli hwt
    have hi : i < ops.size := (Array.getElem?_eq_some_iff.1 ho).1
    by_cases hr : ∃ j, k ≤ j ∧ j < ops.size ∧ l j = true
    · obtain ⟨m, hkm, hms, hdone, hnot, hseq⟩ := hJ.right hr
      have him : m ≤ i := Nat.le_of_not_lt fun h => by rw [hdone i h] at hli; cases hli
      have hall := tailsB_at hJ.closed hlb ho (by omega) hwt
      obtain rfl : i = m := by
        rcases Nat.lt_or_ge m i with h | h
        · have := hall m h
          rw [hnot m (Nat.le_refl _) (by omega)] at this
          cases this
        · omega
      rw [hdrop ho] at hseq
      refine ⟨hseq.1, Oper.wp_mono ?_ hseq.2⟩
      rintro a' w' ⟨v, rfl, hs⟩
      refine ⟨v, rfl, hJ.closed.step ho hwt, fun h => ?_, fun _ => ⟨i + 1, by omega, by omega, fun j hj => ?_, fun j h1 h2 => ?_, hs⟩⟩
      · have := h i (by omega) hi
        simp at this
      · rcases Nat.lt_or_ge j i with h | h
        · simp [hdone j h]
        · obtain rfl : j = i := by omega
          simp
      · have : (j == i) = false := by simp; omega
        simp [hnot j (by omega) h2, this]
    · have hno : ∀ j, k ≤ j → j < ops.size → l j = false := fun j h1 h2 => by
        cases hl : l j with
        | false => rfl
        | true => exact absurd ⟨j, h1, h2, hl⟩ hr
      obtain ⟨hS, hg⟩ := hJ.left hno
      by_cases hik : i < k
      · have hst := AllFrom.at (i := i) hstep (by rw [List.getElem?_take_of_lt hik]; simpa using ho)
        rw [Nat.zero_add] at hst
        refine ⟨hst.1, Oper.wp_mono ?_ (hst.2 a w1 hg hkp (Deps.of fun e he hb o' ho' d' hd' => hS e.on o' d' ho' (waitsB_at hwt e.on (by
          rw [Array.any_eq_true']
          exact ⟨e, by simpa using he, by simp [hb]⟩)) hd') Q)⟩
        rintro a' w' ⟨v, rfl, hv, hgr⟩
        refine ⟨v, rfl, hJ.closed.step ho hwt, fun _ => ⟨fun j oj d hj hl hd => ?_, hR.trans hg hgr⟩, fun ⟨j, h1, h2, h3⟩ => ?_⟩
        · by_cases hij : i = j
          · subst hij
            rw [ho] at hj
            simp only [Option.some.injEq] at hj
            subst hj
            rw [hd, eval_put_same (by rw [hsz]; exact ((formB_spec hf ho).2 d hd).1)]
            exact hv
          · rw [eval_put_other (fun e => hij (formB_ne hf ho hj e hd))]
            refine hmono j w1 w' _ hgr (hS j oj d hj ?_ hd)
            have : (j == i) = false := by simp; omega
            simpa [this] using hl
        · have : (j == i) = false := by simp; omega
          rw [hno j h1 h2, this] at h3
          cases h3
      · have hall := tailsB_at hJ.closed hlb ho (by omega) hwt
        obtain rfl : i = k := by
          rcases Nat.lt_or_ge k i with h | h
          · have := hall k h
            rw [hno k (Nat.le_refl _) (by omega)] at this
            cases this
          · omega
        have hseq := hQ a w1 hsz hdf hkp (fun j o' d h1 h2 h3 => hS j o' d h2 (hall j h1) h3) hg
        rw [hdrop ho] at hseq
        refine ⟨hseq.1, Oper.wp_mono ?_ hseq.2⟩
        rintro a' w' ⟨v, rfl, hs⟩
        refine ⟨v, rfl, hJ.closed.step ho hwt, fun h => ?_, fun _ => ⟨i + 1, by omega, by omega, fun j hj => ?_, fun j h1 h2 => ?_, hs⟩⟩
        · have := h i (by omega) hi
          simp at this
        · rcases Nat.lt_or_ge j i with h | h
          · simp [hall j h]
          · obtain rfl : j = i := by omega
            simp
        · have : (j == i) = false := by simp; omega
          simp [hno j (by omega) h2, this]
  · intro l a w1 hall hJ _ _ _
    obtain ⟨m, hkm, hms, _, hnot, hseq⟩ := hJ.right ⟨k, Nat.le_refl _, hk0, hall k hk0⟩
    obtain rfl : m = ops.size := by
      rcases Nat.lt_or_ge m ops.size with h | h
      · have := hnot m (Nat.le_refl _) h
        rw [hall m h] at this
        cases this
      · omega
    rw [List.drop_of_length_le (by simp)] at hseq
    exact hseq
end
/-- What is known of a value: it stays so where R leads. -/
structure KnR (R : World → World → Prop) where
  p : World → Value → Prop
  h : ∀ w w' x, R w w' → p w x → p w' x
section
variable {R : World → World → Prop}
def KnR.val (v : Value) : KnR R := ⟨fun _ x => x = v, fun _ _ _ _ h => h⟩
def KnR.of (p : World → Value → Prop) (h : ∀ w w' x, R w w' → p w x → p w' x) : KnR R := ⟨p, h⟩
def KnR.free : KnR R := ⟨fun _ _ => True, fun _ _ _ _ _ => trivial⟩
def KR (F : Nat → KnR R) : Nat → World → Value → Prop := fun i w x => (F i).p w x
theorem KR_mono (F : Nat → KnR R) : ∀ i w w' x, R w w' → KR F i w x → KR F i w' x := fun i w w' x hg h => (F i).h w w' x hg h
theorem KR_val {F : Nat → KnR R} {i : Nat} {w : World} {x v : Value} (h : KR F i w x) (hl : F i = .val v) : x = v := by
  unfold KR at h; rw [hl] at h; exact h
theorem KR_of {F : Nat → KnR R} {i : Nat} {w : World} {x : Value} {p : World → Value → Prop} {hp : ∀ w w' x, R w w' → p w x → p w' x} (h : KR F i w x) (hl : F i = .of p hp) : p w x := by
  unfold KR at h; rw [hl] at h; exact h
theorem KR_mkv {F : Nat → KnR R} {i : Nat} {w : World} {x v : Value} (hl : F i = .val v) (h : x = v) : KR F i w x := by
  unfold KR; rw [hl]; exact h
theorem KR_mko {F : Nat → KnR R} {i : Nat} {w : World} {x : Value} {p : World → Value → Prop} {hp : ∀ w w' x, R w w' → p w x → p w' x} (hl : F i = .of p hp) (h : p w x) : KR F i w x := by
  unfold KR; rw [hl]; exact h
theorem KR_mkf {F : Nat → KnR R} {i : Nat} {w : World} {x : Value} (hl : F i = .free) : KR F i w x := by
  unfold KR; rw [hl]; trivial
end
#print axioms wp_region_tailR
#print axioms wp_region_invR
end Go.Proofs.Ytmicmbjbclkbjaa
