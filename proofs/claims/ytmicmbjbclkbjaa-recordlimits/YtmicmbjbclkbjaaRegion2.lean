/-
  A region that draws its order, by whatever is kept of what is done so far; variables that are made and stored to in it.
-/
import Derived.Test.YtmicmbjbclkbjaaVals
namespace Go.Proofs.Ytmicmbjbclkbjaa
open Go.RowKit

/-- Are the operations done for which this one waits? -/
def waitsB (o : Oper) (l : Nat → Bool) : Bool := o.after.all fun e => !Region.binds .any e || l e.on
theorem waitsB_of {o : Oper} {l : Nat → Bool} (h : ∀ e ∈ o.after, Region.binds .any e = true → l e.on = true) : waitsB o l = true := by
  unfold waitsB
  rw [Array.all_eq_true_iff_forall_mem]
  intro e he
  cases hb : Region.binds .any e with
  | false => rfl
  | true => simp [h e he hb]
theorem waitsB_at {o : Oper} {l : Nat → Bool} (h : waitsB o l = true) (j : Nat) (hj : (o.after.any fun e => Region.binds .any e && e.on == j) = true) : l j = true := by
  unfold waitsB at h
  rw [Array.all_eq_true_iff_forall_mem] at h
  simp only [Array.any_eq_true', Bool.and_eq_true, beq_iff_eq] at hj
  obtain ⟨e, he, hb, rfl⟩ := hj
  have := h e he
  rw [hb] at this
  simpa using this
theorem wpAny_J {P : Program} {ops : Array Oper} {a0 : Act} {Q : Exit → Act → World → Prop} (J : (Nat → Bool) → Act → World → Prop) (hf : formB ops a0.tmps.size = true)
    (hstep : ∀ (i : Nat) (o : Oper), ops[i]? = some o → ∀ (l : Nat → Bool) a w, J l a w → a.tmps.size = a0.tmps.size → a.defers = a0.defers → Kept ops a0 a → l i = false → waitsB o l = true →
      o.guard = none ∧ o.wp P a w (fun a' w' => ∃ v, a' = a.put o.dst v ∧ J (fun k => l k || k == i) a' w') Q)
    (hQ : ∀ (l : Nat → Bool) a w, (∀ i, i < ops.size → l i = true) → J l a w → a.tmps.size = a0.tmps.size → a.defers = a0.defers → Kept ops a0 a → Q .normal a w) :
    ∀ (fuel : Nat) (listed : Array Bool) (a : Act) (w : World), listed.toList.countP (! ·) = fuel → listed.size = ops.size → a.tmps.size = a0.tmps.size → a.defers = a0.defers → Kept ops a0 a → J (fun i => listed.getD i false) a w → wpAny P .any ops Q fuel listed a w := by
  have hall : ∀ (listed : Array Bool), listed.size = ops.size → (∀ (i : Nat) (o : Oper), ops[i]? = some o → listed[i]? = some true) → ∀ i, i < ops.size → listed.getD i false = true := by
    intro listed hs h i hi
    have := h i _ (Array.getElem?_eq_getElem hi)
    rw [Array.getD_eq_getD_getElem?, this]; rfl
  have hready : ∀ (listed : Array Bool), listed.size = ops.size → Region.ready .any ops listed = [] → ∀ (i : Nat) (o : Oper), ops[i]? = some o → listed[i]? = some true := by
    intro listed hs hr i
    induction i using Nat.strongRecOn with
    | _ i ih =>
      intro o ho
      have hlt : i < ops.size := (Array.getElem?_eq_some_iff.1 ho).1
      cases hl : listed[i]? with
      | none => rw [Array.getElem?_eq_none_iff] at hl; omega
      | some b =>
        cases b with
        | true => rfl
        | false =>
          exfalso
          have hm : i ∈ Region.ready .any ops listed := by
            rw [mem_ready]
            refine ⟨by simp [hl], o, ho, fun e he hbe => ?_⟩
            have hlt' := (formB_spec hf ho).1 e he hbe
            have hoe : ops[e.on]? = some ops[e.on] := Array.getElem?_eq_getElem (by omega)
            have := ih e.on hlt' _ hoe
            simp [this]
          rw [hr] at hm
          cases hm
  intro fuel
  induction fuel with
  | zero =>
    intro listed a w hc hs ht hd hk hJ
    have hal : ∀ (i : Nat) (o : Oper), ops[i]? = some o → listed[i]? = some true := by
      intro i o ho
      have hlt : i < listed.size := by have := (Array.getElem?_eq_some_iff.1 ho).1; omega
      rw [List.countP_eq_zero] at hc
      have := hc listed[i] (by simp)
      rw [Array.getElem?_eq_getElem hlt]
      simpa using this
    exact wpAny_done hal (hQ _ a w (hall listed hs hal) hJ ht hd hk) 0
  | succ fuel ih =>
    intro listed a w hc hs ht hd hk hJ
    refine ⟨fun hr => hQ _ a w (hall listed hs (hready listed hs hr)) hJ ht hd hk, fun i hi => ?_⟩
    rw [mem_ready] at hi
    obtain ⟨h1, o, ho, hw⟩ := hi
    have hlt : i < listed.size := by have := (Array.getElem?_eq_some_iff.1 ho).1; omega
    have hfalse : listed[i] = false := by simpa [hlt] using h1
    have hli : listed.getD i false = false := by simp [hlt, hfalse]
    obtain ⟨hgd, hwp⟩ := hstep i o ho _ a w hJ ht hd hk hli (waitsB_of fun e he hb => by
      have := hw e he hb
      by_cases hlt' : e.on < listed.size
      · simpa [hlt'] using this
      · simp [hlt'] at this)
    unfold wpOp
    simp only [ho]
    have hwn : Region.wanted o (yielded ops a.tmps) = true := by simp [Region.wanted, hgd]
    rw [if_pos hwn]
    refine .inl (Oper.wp_mono ?_ hwp)
    rintro a' w' ⟨v, rfl, hJ'⟩
    refine ih _ _ _ ?_ (by simpa using hs) (put_size.trans ht) (put_defers'.trans hd) (fun t h => (eval_put_other (h i o ho)).trans (hk t h)) ?_
    · rw [Array.toList_setIfInBounds, List.countP_set (by simpa using hlt)]
      simp [hfalse, hc]
    · have e : (fun k => (listed.setIfInBounds i true).getD k false) = fun k => listed.getD k false || k == i := by
        funext k
        by_cases hki : k = i
        · subst hki; simp [hlt]
        · simp [Array.getD_eq_getD_getElem?, Array.getElem?_setIfInBounds_ne (fun e => hki e.symm), hki]
      rw [e]
      exact hJ'
/-- **WHATEVER IS KEPT OF WHAT IS DONE SO FAR.** -/
theorem wp_region_J {P : Program} {id : Nat} {ops : Array Oper} {Q : Exit → Act → World → Prop} {a0 : Act} {w : World} (hm : P.follows .mixedOrders = true) (J : (Nat → Bool) → Act → World → Prop)
    (n : Nat) (hn : a0.tmps.size = n) (hf : formB ops n = true) (h0 : ∀ w', w'.heap = w.heap → Gr w w' → J (fun _ => false) a0 w')
    (hstep : ∀ (i : Nat) (o : Oper), ops[i]? = some o → ∀ (l : Nat → Bool) a w, J l a w → a.tmps.size = n → a.defers = a0.defers → Kept ops a0 a → l i = false → waitsB o l = true →
      o.guard = none ∧ o.wp P a w (fun a' w' => ∃ v, a' = a.put o.dst v ∧ J (fun k => l k || k == i) a' w') Q)
    (hQ : ∀ (l : Nat → Bool) a w, (∀ i, i < ops.size → l i = true) → J l a w → a.tmps.size = n → a.defers = a0.defers → Kept ops a0 a → Q .normal a w) : (Code.region id ops true).wp P Q a0 w := by
  subst hn
  refine wp_region_any hm (wpAny_J J hf hstep hQ ops.size _ a0 _ ?_ (by simp) rfl rfl (fun _ _ => rfl) ?_)
  · simp [List.countP_replicate]
  · have e : (fun i => (Array.replicate ops.size false).getD i false) = fun _ => false := by
      funext i
      by_cases hi : i < ops.size
      · simp [hi]
      · simp [hi]
    rw [e]
    exact h0 _ rfl ⟨rfl, rfl, rfl, Nat.le_refl _, fun _ _ => rfl⟩

/-- A variable that is made in the region: the operation that makes it, its slot, the operation that stores to it, its type, its cells ahead of that and behind it. -/
structure Cel where
  i : Nat
  d : Nat
  s : Nat
  T : TypeId
  Z : List Value
  X : List Value
/-- What is kept. -/
structure CJ (ops : Array Oper) (S : Nat → World → Value → Prop) (cells : List Cel) (w : World) (l : Nat → Bool) (a : Act) (w1 : World) : Prop where
  low : Below w.heap.size w w1
  vals : ∀ (i : Nat) (o : Oper) (d : Nat), ops[i]? = some o → l i = true → (∀ c ∈ cells, c.i ≠ i) → o.dst = some d → S i w1 (a.eval (.tmp d))
  made : ∀ c ∈ cells, l c.s = true → l c.i = true
  cels : ∃ B : Nat → Nat, (∀ c ∈ cells, l c.i = true → a.eval (.tmp c.d) = .pointer (some ⟨B c.i, 0, none⟩) ∧ w.heap.size ≤ B c.i ∧ Blk w1 (B c.i) c.T (if l c.s = true then c.X else c.Z)) ∧
    (∀ c ∈ cells, ∀ c' ∈ cells, l c.i = true → l c'.i = true → c.i ≠ c'.i → B c.i ≠ B c'.i)
/-- What is owed of an operation that yields a value. -/
structure OwesVal (P : Program) (ops : Array Oper) (S : Nat → World → Value → Prop) (cells : List Cel) (a0 : Act) (w : World) (i : Nat) (o : Oper) : Prop where
  hg : o.guard = none
  h1 : ∀ c ∈ cells, c.i ≠ i
  h2 : ∀ c ∈ cells, c.s ≠ i
  h : ∀ (a : Act) (w' : World), Below w.heap.size w w' → Kept ops a0 a → (∀ (j d : Nat), depB ops o.after j d = true → (∀ c ∈ cells, c.i ≠ j) → S j w' (a.eval (.tmp d))) → ∀ Q, o.wp P a w' (fun a' w'' => ∃ v, a' = a.put o.dst v ∧ S i w'' v ∧ Gr w' w'') Q
/-- .. that makes a variable. -/
structure OwesNew (P : Program) (cells : List Cel) (i : Nat) (o : Oper) (c : Cel) : Prop where
  hg : o.guard = none
  hc : c ∈ cells
  h1 : c.i = i
  h2 : ∀ c ∈ cells, c.s ≠ i
  hd : o.dst = some c.d
  h : ∀ (a : Act) (w' : World), (execOp a.eval o).run P w' = .ok (.value (.pointer (some ⟨w'.heap.size, 0, none⟩))) (w'.alloc (.cells c.Z.toArray c.T (0, 0)))
/-- .. that stores to one. -/
structure OwesPut (P : Program) (ops : Array Oper) (S : Nat → World → Value → Prop) (cells : List Cel) (a0 : Act) (w : World) (i : Nat) (o : Oper) (c : Cel) (y : Operand) : Prop where
  hg : o.guard = none
  hc : c ∈ cells
  h1 : ∀ c ∈ cells, c.i ≠ i
  h2 : c.s = i
  hd : o.dst = none
  ho : o.op = .store c.T (.tmp c.d) y
  hdep : (o.after.any fun e => Region.binds .any e && e.on == c.i) = true
  hy : ∀ (a : Act) (w' : World), Below w.heap.size w w' → Kept ops a0 a → (∀ (j d : Nat), depB ops o.after j d = true → (∀ c ∈ cells, c.i ≠ j) → S j w' (a.eval (.tmp d))) → a.eval y = .agg c.X.toArray
  hl : c.X.length = c.Z.length
  hs : (P.info? c.T).map (·.size) = some c.X.length
  h1X : ∀ u ∈ c.X, u.oneCell' = true
/-- What is owed of an operation. -/
def Owes (P : Program) (ops : Array Oper) (S : Nat → World → Value → Prop) (cells : List Cel) (a0 : Act) (w : World) (i : Nat) (o : Oper) : Prop :=
  OwesVal P ops S cells a0 w i o ∨ (∃ c, OwesNew P cells i o c) ∨ (∃ c y, OwesPut P ops S cells a0 w i o c y)
theorem Owes.val {P : Program} {ops : Array Oper} {S : Nat → World → Value → Prop} {cells : List Cel} {a0 : Act} {w : World} {i : Nat} {o : Oper} (hg : o.guard = none) (h1 : ∀ c ∈ cells, c.i ≠ i) (h2 : ∀ c ∈ cells, c.s ≠ i)
    (h : ∀ (a : Act) (w' : World), Below w.heap.size w w' → Kept ops a0 a → (∀ (j d : Nat), depB ops o.after j d = true → (∀ c ∈ cells, c.i ≠ j) → S j w' (a.eval (.tmp d))) → ∀ Q, o.wp P a w' (fun a' w'' => ∃ v, a' = a.put o.dst v ∧ S i w'' v ∧ Gr w' w'') Q) :
    Owes P ops S cells a0 w i o := .inl ⟨hg, h1, h2, h⟩
theorem Owes.new {P : Program} {ops : Array Oper} {S : Nat → World → Value → Prop} {cells : List Cel} {a0 : Act} {w : World} {i : Nat} {o : Oper} (hg : o.guard = none) (c : Cel) (hc : c ∈ cells) (h1 : c.i = i) (h2 : ∀ c ∈ cells, c.s ≠ i) (hd : o.dst = some c.d)
    (h : ∀ (a : Act) (w' : World), (execOp a.eval o).run P w' = .ok (.value (.pointer (some ⟨w'.heap.size, 0, none⟩))) (w'.alloc (.cells c.Z.toArray c.T (0, 0)))) :
    Owes P ops S cells a0 w i o := .inr (.inl ⟨c, hg, hc, h1, h2, hd, h⟩)
theorem Owes.put {P : Program} {ops : Array Oper} {S : Nat → World → Value → Prop} {cells : List Cel} {a0 : Act} {w : World} {i : Nat} {o : Oper} (hg : o.guard = none) (c : Cel) (hc : c ∈ cells) (h1 : ∀ c ∈ cells, c.i ≠ i) (h2 : c.s = i) (hd : o.dst = none) (y : Operand) (ho : o.op = .store c.T (.tmp c.d) y)
    (hdep : (o.after.any fun e => Region.binds .any e && e.on == c.i) = true)
    (hy : ∀ (a : Act) (w' : World), Below w.heap.size w w' → Kept ops a0 a → (∀ (j d : Nat), depB ops o.after j d = true → (∀ c ∈ cells, c.i ≠ j) → S j w' (a.eval (.tmp d))) → a.eval y = .agg c.X.toArray)
    (hl : c.X.length = c.Z.length) (hs : (P.info? c.T).map (·.size) = some c.X.length) (h1X : ∀ u ∈ c.X, u.oneCell' = true) :
    Owes P ops S cells a0 w i o := .inr (.inr ⟨c, y, hg, hc, h1, h2, hd, ho, hdep, hy, hl, hs, h1X⟩)
theorem wp_region_cells {P : Program} {id : Nat} {ops : Array Oper} {Q : Exit → Act → World → Prop} {a0 : Act} {w : World} (hm : P.follows .mixedOrders = true) (S : Nat → World → Value → Prop) (cells : List Cel)
    (n : Nat) (hn : a0.tmps.size = n) (hf : formB ops n = true) (hmono : ∀ i w1 w2 x, Below w.heap.size w1 w2 → S i w1 x → S i w2 x)
    (hdi : ∀ c ∈ cells, ∀ c' ∈ cells, c.i = c'.i → c = c') (hds : ∀ c ∈ cells, ∀ c' ∈ cells, c.s = c'.s → c = c') (hdd : ∀ c ∈ cells, ((ops[c.i]?).bind (·.dst)) = some c.d)
    (hstep : AllFrom (fun i o => Owes P ops S cells a0 w i o) 0 ops.toList)
    (hQ : ∀ a w', a.tmps.size = a0.tmps.size → a.defers = a0.defers → Kept ops a0 a →
      (∀ (i : Nat) (o : Oper) (d : Nat), ops[i]? = some o → (∀ c ∈ cells, c.i ≠ i) → o.dst = some d → S i w' (a.eval (.tmp d))) → Below w.heap.size w w' →
      (∃ B : Nat → Nat, (∀ c ∈ cells, c.i < ops.size → c.s < ops.size → a.eval (.tmp c.d) = .pointer (some ⟨B c.i, 0, none⟩) ∧ w.heap.size ≤ B c.i ∧ Blk w' (B c.i) c.T c.X) ∧ (∀ c ∈ cells, ∀ c' ∈ cells, c.i < ops.size → c'.i < ops.size → c.i ≠ c'.i → B c.i ≠ B c'.i)) → Q .normal a w') :
    (Code.region id ops true).wp P Q a0 w := by
  have cellOp : ∀ c ∈ cells, ∃ o, ops[c.i]? = some o ∧ o.dst = some c.d := fun c hc => by
    have := hdd c hc
    cases ho : ops[c.i]? with
    | none => rw [ho] at this; cases this
    | some o => rw [ho] at this; exact ⟨o, rfl, this⟩
  refine wp_region_J hm (CJ ops S cells w) n hn hf ?_ ?_ ?_
  · intro w' hh hg
    exact ⟨hg, fun i o d _ h => by simp at h, fun c _ h => by simp at h, fun _ => 0, fun c _ h => by simp at h, fun c _ c' _ h => by simp at h⟩
  · intro i o ho l a w1 hJ ht hd hk hli hw
    have hs := AllFrom.at hstep (i := i) (o := o) (by simpa using ho)
    rw [Nat.zero_add] at hs
    have hdeps : ∀ (j d : Nat), depB ops o.after j d = true → (∀ c ∈ cells, c.i ≠ j) → S j w1 (a.eval (.tmp d)) := by
      intro j d hb hc
      unfold depB at hb
      rw [Bool.and_eq_true] at hb
      have hlj := waitsB_at hw j hb.1
      cases hoj : ops[j]? with
      | none => rw [hoj] at hb; simp at hb
      | some oj =>
        rw [hoj] at hb
        exact hJ.vals j oj d hoj hlj hc (by simpa using hb.2)
    obtain ⟨B, hB1, hB2⟩ := hJ.cels
    rcases hs with ⟨hg, h1, h2, h⟩ | ⟨c, hg, hc, h1, h2, hdst, h⟩ | ⟨c, y, hg, hc, h1, h2, hdst, hop, hdep, hy, hlen, hsz, h1X⟩
    · refine ⟨hg, Oper.wp_mono ?_ (h a w1 hJ.low hk hdeps Q)⟩
      rintro a' w2 ⟨v, rfl, hv, hgr⟩
      have hlow : Below w.heap.size w1 w2 := Below.mono hgr hJ.low.size
      refine ⟨v, rfl, hJ.low.trans hlow, fun j oj d hoj hl hc hdj => ?_, fun c hc hl => ?_, B, fun c hc hl => ?_, fun c hc c' hc' hl hl' hne => hB2 c hc c' hc' ?_ ?_ hne⟩
      · by_cases hji : j = i
        · subst hji
          rw [ho] at hoj
          simp only [Option.some.injEq] at hoj
          subst hoj
          rw [hdj, eval_put_same (by rw [ht]; exact ((formB_spec (hn ▸ hf) ho).2 d hdj).1 |> fun h => by rwa [hn] at h)]
          exact hv
        · rw [eval_put_other (fun e => hji (formB_ne hf hoj ho hdj e))]
          exact hmono j w1 w2 _ hlow (hJ.vals j oj d hoj (by simpa [hji] using hl) hc hdj)
      · have hl' : l c.s = true := by simpa [h2 c hc] using hl
        simp [hJ.made c hc hl']
      · have hl' : l c.i = true := by simpa [h1 c hc] using hl
        obtain ⟨e1, e2, e3⟩ := hB1 c hc hl'
        obtain ⟨oc, hoc, hdc⟩ := cellOp c hc
        refine ⟨?_, e2, ?_⟩
        · rw [eval_put_other (fun e => h1 c hc (formB_ne hf hoc ho hdc e))]; exact e1
        · have : (l c.s || c.s == i) = l c.s := by simp [h2 c hc]
          rw [this]
          exact e3.kept hgr
      · simpa [h1 c hc] using hl
      · simpa [h1 c' hc'] using hl'
    · refine ⟨hg, ?_⟩
      unfold Oper.wp
      rw [h a w1]
      have hlow : Below w.heap.size w1 (w1.alloc (.cells c.Z.toArray c.T (0, 0))) := (Below.refl _ _).alloc hJ.low.size _
      have hdlt : c.d < a.tmps.size := by rw [ht]; exact ((formB_spec hf ho).2 c.d hdst).1
      refine ⟨_, rfl, hJ.low.trans hlow, fun j oj d hoj hl hcj hdj => ?_, fun c' hc' hl => ?_, fun k => if k = i then w1.heap.size else B k, fun c' hc' hl => ?_, fun c1 hc1 c2 hc2 hl1 hl2 hne => ?_⟩
      · have hji : j ≠ i := fun e => hcj c hc (by rw [h1, e])
        rw [eval_put_other (fun e => hji (formB_ne hf hoj ho hdj e))]
        exact hmono j w1 _ _ hlow (hJ.vals j oj d hoj (by simpa [hji] using hl) hcj hdj)
      · have hl' : l c'.s = true := by simpa [h2 c' hc'] using hl
        simp [hJ.made c' hc' hl']
      · have hls : (l c'.s || c'.s == i) = l c'.s := by simp [h2 c' hc']
        rw [hls]
        by_cases hci : c'.i = i
        · obtain rfl : c' = c := hdi c' hc' c hc (by rw [hci, h1])
          have hns : l c'.s = false := by
            cases hh : l c'.s with
            | false => rfl
            | true => have := hJ.made c' hc' hh; rw [hci, hli] at this; cases this
          have hBi : (if c'.i = i then w1.heap.size else B c'.i) = w1.heap.size := if_pos hci
          simp only [hns, hBi]
          refine ⟨?_, hJ.low.size, ?_⟩
          · rw [hdst]; exact eval_put_same hdlt
          · simpa using Blk.new w1 c'.T c'.Z
        · have hl' : l c'.i = true := by simpa [hci] using hl
          obtain ⟨e1, e2, e3⟩ := hB1 c' hc' hl'
          obtain ⟨oc, hoc, hdc⟩ := cellOp c' hc'
          have hBi : (if c'.i = i then w1.heap.size else B c'.i) = B c'.i := if_neg hci
          simp only [hBi]
          refine ⟨?_, e2, e3.alloc _⟩
          rw [eval_put_other (fun e => hci (formB_ne hf hoc ho hdc e))]; exact e1
      · by_cases e1 : c1.i = i
        · have e2 : c2.i ≠ i := fun e => hne (by rw [e1, e])
          have hl' : l c2.i = true := by simpa [e2] using hl2
          have := (hB1 c2 hc2 hl').2.2.lt
          simp only [e1, e2, if_true, if_false]
          omega
        · have hl' : l c1.i = true := by simpa [e1] using hl1
          by_cases e2 : c2.i = i
          · have := (hB1 c1 hc1 hl').2.2.lt
            simp only [e1, e2, if_true, if_false]
            omega
          · simp only [e1, e2, if_false]
            exact hB2 c1 hc1 c2 hc2 hl' (by simpa [e2] using hl2) hne
    · refine ⟨hg, ?_⟩
      have hli' : l c.i = true := waitsB_at hw c.i hdep
      obtain ⟨e1, e2, e3⟩ := hB1 c hc hli'
      have hns : l c.s = false := by rw [h2]; exact hli
      rw [hns] at e3
      have e3' : Blk w1 (B c.i) c.T c.Z := by simpa using e3
      refine wp_store_mid c.T (.tmp c.d) y hop (B c.i) 0 c.X.toArray e1 (hy a w1 hJ.low hk hdeps) ?_ (by simpa using hsz) (all_one h1X) ?_
      · have := e3'.there 0 c.X.length (by rw [Nat.zero_add]; exact Nat.le_of_eq hlen)
        simpa using this
      have hbut := But.setCells (B c.i) c.X 0 w1
      have hlow : Below w.heap.size w1 (w1.setCells (B c.i) 0 c.X) := hbut.below e2 hJ.low.size
      have hnew : Blk (w1.setCells (B c.i) 0 c.X) (B c.i) c.T c.X := by
        have := e3'.over c.X 0 (by omega)
        rwa [over_all _ _ (by omega)] at this
      have hput : a.put o.dst undef = a := by rw [hdst]; rfl
      refine ⟨undef, rfl, ?_⟩
      rw [hput]
      refine ⟨hJ.low.trans hlow, fun j oj d hoj hl hcj hdj => ?_, fun c' hc' hl => ?_, B, fun c' hc' hl => ?_, fun c1 hc1 c2 hc2 hl1 hl2 hne => hB2 c1 hc1 c2 hc2 ?_ ?_ hne⟩
      · have hji : j ≠ i := fun e => by
          subst e
          rw [ho] at hoj
          simp only [Option.some.injEq] at hoj
          subst hoj
          rw [hdst] at hdj
          cases hdj
        exact hmono j w1 _ _ hlow (hJ.vals j oj d hoj (by simpa [hji] using hl) hcj hdj)
      · by_cases hs : c'.s = i
        · obtain rfl : c' = c := hds c' hc' c hc (by rw [hs, h2])
          simp [hli']
        · have hl' : l c'.s = true := by simpa [hs] using hl
          simp [hJ.made c' hc' hl']
      · have hl' : l c'.i = true := by simpa [h1 c' hc'] using hl
        obtain ⟨f1, f2, f3⟩ := hB1 c' hc' hl'
        refine ⟨f1, f2, ?_⟩
        by_cases hs : c'.s = i
        · obtain rfl : c' = c := hds c' hc' c hc (by rw [hs, h2])
          simpa [hs] using hnew
        · have hne : c'.i ≠ c.i := fun e => hs (by rw [hdi c' hc' c hc e, h2])
          have : (l c'.s || c'.s == i) = l c'.s := by simp [hs]
          rw [this]
          exact f3.but hbut (hB2 c' hc' c hc hl' hli' hne)
      · simpa [h1 c1 hc1] using hl1
      · simpa [h1 c2 hc2] using hl2
  · intro l a w1 hall hJ ht hd hk
    obtain ⟨B, hB1, hB2⟩ := hJ.cels
    refine hQ a w1 (ht.trans hn.symm) hd hk (fun i o d ho hc hdst => hJ.vals i o d ho (hall i (Array.getElem?_eq_some_iff.1 ho).1) hc hdst) hJ.low ⟨B, fun c hc hi hs => ?_, fun c hc c' hc' hi hi' hne => hB2 c hc c' hc' (hall _ hi) (hall _ hi') hne⟩
    obtain ⟨e1, e2, e3⟩ := hB1 c hc (hall _ hi)
    rw [hall _ hs] at e3
    exact ⟨e1, e2, by simpa using e3⟩
theorem notI {cells : List Cel} {i : Nat} (h : (cells.all fun c => c.i != i) = true) : ∀ c ∈ cells, c.i ≠ i := fun c hc => by
  have := List.all_eq_true.1 h c hc
  simpa using this
theorem notS {cells : List Cel} {i : Nat} (h : (cells.all fun c => c.s != i) = true) : ∀ c ∈ cells, c.s ≠ i := fun c hc => by
  have := List.all_eq_true.1 h c hc
  simpa using this
/-- It hangs on no memory. -/
def Kn.isVal (k : Kn) : Prop := ∀ w w' x, k.p w x → k.p w' x
theorem KS_mono_val (F : Nat → Kn) (hF : ∀ i, (F i).isVal) {N : Nat} : ∀ i w w' x, Below N w w' → KS F i w x → KS F i w' x := fun i w w' x _ h => hF i w w' x h
end Go.Proofs.Ytmicmbjbclkbjaa
