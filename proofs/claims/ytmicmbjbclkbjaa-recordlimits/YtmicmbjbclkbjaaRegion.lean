/-
  A region that draws its order and whose operations make new memory and turn nothing that was there: a fact of its own for each operation's value, shown once, serves every order.
-/
import Derived.Test.YtmicmbjbclkbjaaRowsB
import Derived.Orders
import Derived.Deep.DrawnRows
namespace Go.Proofs.Ytmicmbjbclkbjaa
open Go.RowKit

/-- New memory alone: what was there is as it was. -/
def Gr (w w' : World) : Prop := Below w.heap.size w w'
theorem Gr.refl (w : World) : Gr w w := Below.refl _ _
theorem Gr.trans {a b c : World} (h : Gr a b) (k : Gr b c) : Gr a c := Below.trans h (Below.mono k h.size)

/-- What the operations ahead of this one have yielded. -/
def Deps (ops : Array Oper) (S : Nat → World → Value → Prop) (a : Act) (w : World) : List Edge → Prop
  | [] => True
  | e :: r => (Region.binds .any e = true → ∀ o, ops[e.on]? = some o → ∀ d, o.dst = some d → S e.on w (a.eval (.tmp d))) ∧ Deps ops S a w r

theorem Deps.of {ops : Array Oper} {S : Nat → World → Value → Prop} {a : Act} {w : World} : ∀ {l : List Edge},
    (∀ e ∈ l, Region.binds .any e = true → ∀ o, ops[e.on]? = some o → ∀ d, o.dst = some d → S e.on w (a.eval (.tmp d))) → Deps ops S a w l
  | [], _ => trivial
  | e :: _, h => ⟨h e (by simp), Deps.of fun e' he' => h e' (by simp [he'])⟩

/-- One operation: what is owed. -/
def StepOk (P : Program) (ops : Array Oper) (S : Nat → World → Value → Prop) (i : Nat) (o : Oper) (a : Act) (w : World) : Prop :=
  match o.guard with
  | none => ∀ Q, o.wp P a w (fun a' w' => ∃ v, a' = a.put o.dst v ∧ S i w' v ∧ Gr w w') Q
  | some (g, b) => ∃ d c, ((ops[g]?).bind (·.dst)) = some d ∧ a.eval (.tmp d) = .bool c ∧
      (c = b → ∀ Q, o.wp P a w (fun a' w' => ∃ v, a' = a.put o.dst v ∧ S i w' v ∧ Gr w w') Q) ∧ (c ≠ b → S i w undef)

/-- Each operation of a list, from number k on. -/
def AllFrom (p : Nat → Oper → Prop) : Nat → List Oper → Prop
  | _, [] => True
  | k, o :: r => p k o ∧ AllFrom p (k + 1) r
theorem AllFrom.nil {p : Nat → Oper → Prop} {k : Nat} : AllFrom p k [] := trivial
theorem AllFrom.cons {p : Nat → Oper → Prop} {k : Nat} {o : Oper} {r : List Oper} (h : p k o) (t : AllFrom p (k + 1) r) : AllFrom p k (o :: r) := ⟨h, t⟩
theorem AllFrom.at {p : Nat → Oper → Prop} : ∀ {l : List Oper} {k i : Nat} {o : Oper}, AllFrom p k l → l[i]? = some o → p (k + i) o
  | [], _, _, _, _, h => by simp at h
  | _ :: _, k, 0, _, h, e => by simp at e; subst e; exact h.1
  | _ :: _, k, i + 1, _, h, e => by
    have := AllFrom.at (i := i) h.2 (by simpa using e)
    rwa [show k + 1 + i = k + (i + 1) from by omega] at this

/-- The region's form: each operation waits for earlier ones alone; no slot is written twice; the slots are there. -/
def formB (ops : Array Oper) (n : Nat) : Bool :=
  (List.range ops.size).all fun i => match ops[i]? with
    | some o => o.after.all (fun e => !Region.binds .any e || decide (e.on < i)) && (match o.dst with
        | some d => decide (d < n) && (List.range i).all (fun j => match ops[j]? with | some o' => o'.dst != some d | none => true)
        | none => true)
    | none => true

theorem formB_spec {ops : Array Oper} {n : Nat} (h : formB ops n = true) {i : Nat} {o : Oper} (ho : ops[i]? = some o) :
    (∀ e ∈ o.after, Region.binds .any e = true → e.on < i) ∧ (∀ d, o.dst = some d → d < n ∧ ∀ j o', j < i → ops[j]? = some o' → o'.dst ≠ some d) := by
  have hi : i < ops.size := (Array.getElem?_eq_some_iff.1 ho).1
  have := (List.all_eq_true.1 h) i (by simpa using hi)
  rw [ho] at this
  simp only [Bool.and_eq_true] at this
  refine ⟨fun e he hb => ?_, fun d hd => ?_⟩
  · have h1 := this.1
    rw [Array.all_eq_true_iff_forall_mem] at h1
    have h2 := h1 e he
    rw [hb] at h2
    simpa using h2
  · have h2 := this.2
    rw [hd] at h2
    simp only [Bool.and_eq_true, decide_eq_true_eq] at h2
    refine ⟨h2.1, fun j o' hj ho' => ?_⟩
    have h3 := (List.all_eq_true.1 h2.2) j (by simpa using hj)
    rw [ho'] at h3
    simpa using h3

theorem formB_ne {ops : Array Oper} {n : Nat} (h : formB ops n = true) {i j : Nat} {o o' : Oper} {d : Nat} (ho : ops[i]? = some o) (ho' : ops[j]? = some o') (hd : o.dst = some d) (hd' : o'.dst = some d) : i = j := by
  rcases Nat.lt_trichotomy i j with hl | hl | hl
  · exact absurd hd (((formB_spec h ho').2 d hd').2 i o hl ho)
  · exact hl
  · exact absurd hd' (((formB_spec h ho).2 d hd).2 j o' hl ho')

/-- What no operation of the region writes stands as it stood. -/
def Kept (ops : Array Oper) (a0 a : Act) : Prop := ∀ t : Nat, (∀ (i : Nat) (o : Oper), ops[i]? = some o → o.dst ≠ some t) → a.eval (.tmp t) = a0.eval (.tmp t)
/-- .. told by a run. -/
def freeB (ops : Array Oper) (t : Nat) : Bool := ops.all fun o => o.dst != some t
theorem Kept.at {ops : Array Oper} {a0 a : Act} (h : Kept ops a0 a) (t : Nat) (hb : freeB ops t = true) : a.eval (.tmp t) = a0.eval (.tmp t) :=
  h t fun i o ho => by
    have := (Array.all_eq_true_iff_forall_mem.1 hb) o (Array.mem_of_getElem? ho)
    simpa using this

structure RInv (ops : Array Oper) (S : Nat → World → Value → Prop) (a0 : Act) (w0 : World) (listed : Array Bool) (a : Act) (w : World) : Prop where
  size : listed.size = ops.size
  tmps : a.tmps.size = a0.tmps.size
  defers : a.defers = a0.defers
  old : Kept ops a0 a
  new : ∀ (i : Nat) (o : Oper) (d : Nat), ops[i]? = some o → listed[i]? = some true → o.dst = some d → S i w (a.eval (.tmp d))
  grown : Gr w0 w

theorem eval_put_same {a : Act} {d : Nat} {v : Value} (h : d < a.tmps.size) : (a.put (some d) v).eval (.tmp d) = v := by
  simp [Act.eval, Act.put, h]
theorem eval_put_other {a : Act} {x : Option Tmp} {t : Nat} {v : Value} (h : x ≠ some t) : (a.put x v).eval (.tmp t) = a.eval (.tmp t) :=
  Act.eval_put (fun d hd e => h (by rw [hd]; simp at e; rw [e]))
theorem put_size {a : Act} {x : Option Tmp} {v : Value} : (a.put x v).tmps.size = a.tmps.size := by cases x <;> simp [Act.put]
theorem put_defers' {a : Act} {x : Option Tmp} {v : Value} : (a.put x v).defers = a.defers := by cases x <;> simp [Act.put]

theorem RInv.step {ops : Array Oper} {S : Nat → World → Value → Prop} {a0 : Act} {w0 : World} {listed : Array Bool} {a : Act} {w w' : World} {i : Nat} {o : Oper} {v : Value}
    (hf : formB ops a0.tmps.size = true) (hmono : ∀ i w w' x, Gr w w' → S i w x → S i w' x) (h : RInv ops S a0 w0 listed a w) (ho : ops[i]? = some o) (hv : S i w' v) (hg : Gr w w') :
    RInv ops S a0 w0 (listed.setIfInBounds i true) (a.put o.dst v) w' := by
  refine ⟨by simpa using h.size, put_size.trans h.tmps, put_defers'.trans h.defers, fun t ht => ?_, fun j oj d hj hl hd => ?_, h.grown.trans hg⟩
  · rw [eval_put_other (ht i o ho)]
    exact h.old t ht
  · by_cases hij : i = j
    · subst hij
      rw [ho] at hj
      simp only [Option.some.injEq] at hj
      subst hj
      rw [hd, eval_put_same (by rw [h.tmps]; exact ((formB_spec hf ho).2 d hd).1)]
      exact hv
    · rw [eval_put_other (fun e => hij (formB_ne hf ho hj e hd))]
      refine hmono j w w' _ hg (h.new j oj d hj ?_ hd)
      rw [Array.getElem?_setIfInBounds_ne hij] at hl
      exact hl

theorem yielded_of {ops : Array Oper} {a : Act} {g d : Nat} {c : Bool} (hd : ((ops[g]?).bind (·.dst)) = some d) (he : a.eval (.tmp d) = .bool c) : yielded ops a.tmps g = some c := by
  unfold yielded
  rw [hd]
  simp only [Option.bind_some]
  have he' : a.tmps.getD d undef = .bool c := he
  by_cases hlt : d < a.tmps.size
  · simp [hlt] at he' ⊢
    rw [he']
  · simp [hlt, undef] at he'

theorem stepOk_wpOp {P : Program} {ops : Array Oper} {S : Nat → World → Value → Prop} {Q : Exit → Act → World → Prop} {i : Nat} {o : Oper} {a : Act} {w : World} {K : Act → World → Prop}
    (ho : ops[i]? = some o) (h : StepOk P ops S i o a w) (hK : ∀ v w', S i w' v → Gr w w' → K (a.put o.dst v) w') : wpOp P ops Q i K a w := by
  unfold wpOp
  simp only [ho]
  unfold StepOk at h
  cases hg : o.guard with
  | none =>
    rw [hg] at h
    have hw : Region.wanted o (yielded ops a.tmps) = true := by simp [Region.wanted, hg]
    rw [if_pos hw]
    refine .inl (Oper.wp_mono ?_ (h Q))
    rintro a' w' ⟨v, rfl, hv, hgr⟩
    exact hK v w' hv hgr
  | some gb =>
    obtain ⟨g, b⟩ := gb
    rw [hg] at h
    obtain ⟨d, c, hd, hc, h1, h2⟩ := h
    have hy := yielded_of hd hc
    by_cases hcb : c = b
    · have hw : Region.wanted o (yielded ops a.tmps) = true := by simp [Region.wanted, hg, hy, hcb]
      rw [if_pos hw]
      refine .inl (Oper.wp_mono ?_ (h1 hcb Q))
      rintro a' w' ⟨v, rfl, hv, hgr⟩
      exact hK v w' hv hgr
    · have hw : ¬ Region.wanted o (yielded ops a.tmps) = true := by simp [Region.wanted, hg, hy, hcb]
      rw [if_neg hw]
      exact hK undef w (h2 hcb) (Gr.refl w)

theorem wpAny_inv {P : Program} {ops : Array Oper} {S : Nat → World → Value → Prop} {a0 : Act} {w0 : World} {Q : Exit → Act → World → Prop}
    (hf : formB ops a0.tmps.size = true) (hmono : ∀ i w w' x, Gr w w' → S i w x → S i w' x)
    (hstep : AllFrom (fun i o => ∀ a w, Gr w0 w → Kept ops a0 a → Deps ops S a w o.after.toList → StepOk P ops S i o a w) 0 ops.toList)
    (hQ : ∀ a w, a.tmps.size = a0.tmps.size → a.defers = a0.defers → Kept ops a0 a →
      (∀ (i : Nat) (o : Oper) (d : Nat), ops[i]? = some o → o.dst = some d → S i w (a.eval (.tmp d))) → Gr w0 w → Q .normal a w) :
    ∀ (fuel : Nat) (listed : Array Bool) (a : Act) (w : World), listed.toList.countP (! ·) = fuel → RInv ops S a0 w0 listed a w → wpAny P .any ops Q fuel listed a w := by
  have hend : ∀ (listed : Array Bool) (a : Act) (w : World), (∀ (i : Nat) (o : Oper), ops[i]? = some o → listed[i]? = some true) → RInv ops S a0 w0 listed a w → Q .normal a w := fun listed a w hall hI =>
    hQ a w hI.tmps hI.defers hI.old (fun i o d ho hd => hI.new i o d ho (hall i o ho) hd) hI.grown
  have hready : ∀ (listed : Array Bool) (a : Act) (w : World), RInv ops S a0 w0 listed a w → Region.ready .any ops listed = [] → ∀ (i : Nat) (o : Oper), ops[i]? = some o → listed[i]? = some true := by
    intro listed a w hI hr i
    induction i using Nat.strongRecOn with
    | _ i ih =>
      intro o ho
      have hlt : i < ops.size := (Array.getElem?_eq_some_iff.1 ho).1
      cases hl : listed[i]? with
      | none => rw [Array.getElem?_eq_none_iff] at hl; have := hI.size; omega
      | some b =>
        cases b with
        | true => rfl
        | false =>
          exfalso
          have hm : i ∈ Region.ready .any ops listed := by
            rw [mem_ready]
            refine ⟨by simp [hl], o, ho, fun e he hbe => ?_⟩
            have hlt' := (formB_spec hf ho).1 e he hbe
            have hoe : ops[e.on]? = some ops[e.on] := Array.getElem?_eq_getElem (by omega)
            have := ih e.on hlt' _ hoe
            simp [this]
          rw [hr] at hm
          cases hm
  intro fuel
  induction fuel with
  | zero =>
    intro listed a w hc hI
    have hall : ∀ (i : Nat) (o : Oper), ops[i]? = some o → listed[i]? = some true := by
      intro i o ho
      have hlt : i < listed.size := by have := (Array.getElem?_eq_some_iff.1 ho).1; have := hI.size; omega
      rw [List.countP_eq_zero] at hc
      have := hc listed[i] (by simp)
      rw [Array.getElem?_eq_getElem hlt]
      simpa using this
    refine ⟨?_, hend listed a w hall hI⟩
    cases hr : Region.ready .any ops listed with
    | nil => rfl
    | cons i r =>
      have hm : i ∈ Region.ready .any ops listed := by rw [hr]; simp
      rw [mem_ready] at hm
      obtain ⟨h1, o, ho, _⟩ := hm
      have := hall i o ho
      simp [this] at h1
  | succ fuel ih =>
    intro listed a w hc hI
    refine ⟨fun hr => hend listed a w (hready listed a w hI hr) hI, fun i hi => ?_⟩
    have hm := hi
    rw [mem_ready] at hm
    obtain ⟨h1, o, ho, hall⟩ := hm
    have hlt : i < listed.size := by have := (Array.getElem?_eq_some_iff.1 ho).1; have := hI.size; omega
    have hfalse : listed[i] = false := by simpa [hlt] using h1
    have hdeps : Deps ops S a w o.after.toList := Deps.of fun e he hb oj hj d hd => by
      have := hall e (by simpa using he) hb
      refine hI.new e.on oj d hj ?_ hd
      have hlt' : e.on < listed.size := by have := (Array.getElem?_eq_some_iff.1 hj).1; have := hI.size; omega
      simpa [hlt'] using this
    have hs := AllFrom.at hstep (i := i) (o := o) (by simpa using ho) a w hI.grown hI.old hdeps
    rw [Nat.zero_add] at hs
    refine stepOk_wpOp ho hs fun v w' hv hg => ih _ _ _ ?_ (hI.step hf hmono ho hv hg)
    rw [Array.toList_setIfInBounds, List.countP_set (by simpa using hlt)]
    simp [hfalse, hc]

/-- **ONE STEP AN OPERATION SERVES EVERY ORDER.** -/
theorem wp_region_inv {P : Program} {id : Nat} {ops : Array Oper} {Q : Exit → Act → World → Prop} {a0 : Act} {w : World} (hm : P.follows .mixedOrders = true) (S : Nat → World → Value → Prop)
    (n : Nat) (hn : a0.tmps.size = n) (hf : formB ops n = true) (hmono : ∀ i w w' x, Gr w w' → S i w x → S i w' x)
    (hstep : AllFrom (fun i o => ∀ a w', Gr w w' → Kept ops a0 a → Deps ops S a w' o.after.toList → StepOk P ops S i o a w') 0 ops.toList)
    (hQ : ∀ a w', a.tmps.size = a0.tmps.size → a.defers = a0.defers → Kept ops a0 a →
      (∀ (i : Nat) (o : Oper) (d : Nat), ops[i]? = some o → o.dst = some d → S i w' (a.eval (.tmp d))) → Gr w w' → Q .normal a w') : (Code.region id ops true).wp P Q a0 w := by
  subst hn
  refine wp_region_any hm (wpAny_inv hf hmono hstep hQ ops.size _ a0 _ ?_ ⟨by simp, rfl, rfl, fun _ _ => rfl, fun i o d ho hl _ => ?_, ?_⟩)
  · simp [List.countP_replicate]
  · have hlt : i < ops.size := (Array.getElem?_eq_some_iff.1 ho).1
    simp [hlt] at hl
  · exact ⟨rfl, rfl, rfl, Nat.le_refl _, fun _ _ => rfl⟩
/-- What is known of a value: it stays so while new memory alone is made. -/
structure Kn where
  p : World → Value → Prop
  h : ∀ w w' x, Gr w w' → p w x → p w' x
/-- It is this one. -/
def Kn.val (v : Value) : Kn := ⟨fun _ x => x = v, fun _ _ _ _ h => h⟩
/-- It reads as these bytes. -/
def Kn.rd (l : List UInt8) : Kn := ⟨fun w x => Rd w x l, fun _ _ _ hg h => Rd.kept h hg⟩
/-- It reads as these rows of bytes. -/
def Kn.rows (L : List (List UInt8)) : Kn := ⟨fun w x => RdR w x L, fun _ _ _ hg h => RdR.kept h hg⟩
def Kn.of (p : World → Value → Prop) (h : ∀ w w' x, Gr w w' → p w x → p w' x) : Kn := ⟨p, h⟩
/-- Nothing. -/
def Kn.free : Kn := ⟨fun _ _ => True, fun _ _ _ _ _ => trivial⟩
def KS (F : Nat → Kn) : Nat → World → Value → Prop := fun i w x => (F i).p w x
theorem KS_mono (F : Nat → Kn) : ∀ i w w' x, Gr w w' → KS F i w x → KS F i w' x := fun i w w' x hg h => (F i).h w w' x hg h
theorem KS_val {F : Nat → Kn} {i : Nat} {w : World} {x v : Value} (h : KS F i w x) (hl : F i = .val v) : x = v := by
  unfold KS at h; rw [hl] at h; exact h
theorem KS_rd {F : Nat → Kn} {i : Nat} {w : World} {x : Value} {l : List UInt8} (h : KS F i w x) (hl : F i = .rd l) : Rd w x l := by
  unfold KS at h; rw [hl] at h; exact h
theorem KS_rows {F : Nat → Kn} {i : Nat} {w : World} {x : Value} {L : List (List UInt8)} (h : KS F i w x) (hl : F i = .rows L) : RdR w x L := by
  unfold KS at h; rw [hl] at h; exact h
theorem KS_of {F : Nat → Kn} {i : Nat} {w : World} {x : Value} {p : World → Value → Prop} {hp : ∀ w w' x, Gr w w' → p w x → p w' x} (h : KS F i w x) (hl : F i = .of p hp) : p w x := by
  unfold KS at h; rw [hl] at h; exact h
theorem KS_mkv {F : Nat → Kn} {i : Nat} {w : World} {x v : Value} (hl : F i = .val v) (h : x = v) : KS F i w x := by
  unfold KS; rw [hl]; exact h
theorem KS_mkr {F : Nat → Kn} {i : Nat} {w : World} {x : Value} {l : List UInt8} (hl : F i = .rd l) (h : Rd w x l) : KS F i w x := by
  unfold KS; rw [hl]; exact h
theorem KS_mkR {F : Nat → Kn} {i : Nat} {w : World} {x : Value} {L : List (List UInt8)} (hl : F i = .rows L) (h : RdR w x L) : KS F i w x := by
  unfold KS; rw [hl]; exact h
theorem KS_mko {F : Nat → Kn} {i : Nat} {w : World} {x : Value} {p : World → Value → Prop} {hp : ∀ w w' x, Gr w w' → p w x → p w' x} (hl : F i = .of p hp) (h : p w x) : KS F i w x := by
  unfold KS; rw [hl]; exact h
theorem KS_mkf {F : Nat → Kn} {i : Nat} {w : World} {x : Value} (hl : F i = .free) : KS F i w x := by
  unfold KS; rw [hl]; trivial
/-- The last operation waits for every other one. -/
def lastB (ops : Array Oper) (n : Nat) : Bool := match ops[n]? with
  | some o => o.guard.isNone && (ops.size == n + 1) && (List.range n).all fun j => o.after.any fun e => Region.binds .any e && e.on == j
  | none => false
theorem wpAny_done {P : Program} {ops : Array Oper} {Q : Exit → Act → World → Prop} {listed : Array Bool} {a : Act} {w : World} (hall : ∀ (i : Nat) (o : Oper), ops[i]? = some o → listed[i]? = some true) (hQ : Q .normal a w) :
    ∀ fuel, wpAny P .any ops Q fuel listed a w := by
  have hr : Region.ready .any ops listed = [] := by
    cases hr : Region.ready .any ops listed with
    | nil => rfl
    | cons i r =>
      have hm : i ∈ Region.ready .any ops listed := by rw [hr]; simp
      rw [mem_ready] at hm
      obtain ⟨h1, o, ho, _⟩ := hm
      have := hall i o ho
      simp [this] at h1
  intro fuel
  cases fuel with
  | zero => exact ⟨hr, hQ⟩
  | succ fuel => exact ⟨fun _ => hQ, fun i hi => by rw [hr] at hi; cases hi⟩
theorem wpAny_tail {P : Program} {ops : Array Oper} {S : Nat → World → Value → Prop} {a0 : Act} {w0 : World} {Q : Exit → Act → World → Prop} (last : Nat) (ol : Oper) (hol : ops[last]? = some ol) (hlb : lastB ops last = true)
    (hf : formB ops a0.tmps.size = true) (hmono : ∀ i w w' x, Gr w w' → S i w x → S i w' x)
    (hstep : AllFrom (fun i o => ∀ a w, Gr w0 w → Kept ops a0 a → Deps ops S a w o.after.toList → StepOk P ops S i o a w) 0 (ops.toList.take last))
    (hQ : ∀ a w, a.tmps.size = a0.tmps.size → a.defers = a0.defers → Kept ops a0 a →
      (∀ (i : Nat) (o : Oper) (d : Nat), i < last → ops[i]? = some o → o.dst = some d → S i w (a.eval (.tmp d))) → Gr w0 w → ol.wp P a w (fun a' w' => Q .normal a' w') Q) :
    ∀ (fuel : Nat) (listed : Array Bool) (a : Act) (w : World), listed.toList.countP (! ·) = fuel → listed[last]? = some false → RInv ops S a0 w0 listed a w → wpAny P .any ops Q fuel listed a w := by
  unfold lastB at hlb
  rw [hol] at hlb
  simp only [Bool.and_eq_true, beq_iff_eq, List.all_eq_true, List.mem_range, Array.any_eq_true'] at hlb
  obtain ⟨⟨hlg, hlsz⟩, hle⟩ := hlb
  intro fuel
  induction fuel with
  | zero =>
    intro listed a w hc hlast hI
    rw [List.countP_eq_zero] at hc
    have hlt : last < listed.size := (Array.getElem?_eq_some_iff.1 hlast).1
    have := hc listed[last] (by simp)
    rw [Array.getElem?_eq_getElem hlt] at hlast
    simp at hlast
    simp [hlast] at this
  | succ fuel ih =>
    intro listed a w hc hlast hI
    have hltl : last < listed.size := (Array.getElem?_eq_some_iff.1 hlast).1
    refine ⟨fun hr => ?_, fun i hi => ?_⟩
    · exfalso
      have hall : ∀ i, i ≤ last → listed[i]? = some true := by
        intro i
        induction i using Nat.strongRecOn with
        | _ i ih2 =>
          intro hil
          have hlt : i < ops.size := by omega
          have ho : ops[i]? = some ops[i] := Array.getElem?_eq_getElem hlt
          cases hl : listed[i]? with
          | none => rw [Array.getElem?_eq_none_iff] at hl; have := hI.size; omega
          | some b =>
            cases b with
            | true => rfl
            | false =>
              exfalso
              have hm : i ∈ Region.ready .any ops listed := by
                rw [mem_ready]
                refine ⟨by simp [hl], _, ho, fun e he hbe => ?_⟩
                have hlt' := (formB_spec hf ho).1 e he hbe
                have := ih2 e.on hlt' (by omega)
                simp [this]
              rw [hr] at hm
              cases hm
      rw [hall last (Nat.le_refl _)] at hlast
      cases hlast
    · have hm := hi
      rw [mem_ready] at hm
      obtain ⟨h1, o, ho, hall⟩ := hm
      have hlt : i < listed.size := by have := (Array.getElem?_eq_some_iff.1 ho).1; have := hI.size; omega
      have hfalse : listed[i] = false := by simpa [hlt] using h1
      by_cases hil : i = last
      · subst hil
        rw [hol] at ho
        simp only [Option.some.injEq] at ho
        subst ho
        have hdone : ∀ j, j < i → listed[j]? = some true := by
          intro j hj
          obtain ⟨e, he, hbe, hon⟩ := by simpa using hle j hj
          have := hall e (by simpa using he) hbe
          rw [hon] at this
          have hlt' : j < listed.size := by omega
          simpa [hlt'] using this
        unfold wpOp
        simp only [hol]
        have hgn : ol.guard = none := by simpa using hlg
        have hw : Region.wanted ol (yielded ops a.tmps) = true := by simp [Region.wanted, hgn]
        rw [if_pos hw]
        refine .inl (Oper.wp_mono ?_ (hQ a w hI.tmps hI.defers hI.old (fun j oj d hj hoj hd => hI.new j oj d hoj (hdone j hj) hd) hI.grown))
        intro a' w' hq
        refine wpAny_done (fun j oj hoj => ?_) hq fuel
        have hj : j < ops.size := (Array.getElem?_eq_some_iff.1 hoj).1
        by_cases hji : j = i
        · subst hji; simp [hlt]
        · rw [Array.getElem?_setIfInBounds_ne (fun e => hji e.symm)]
          exact hdone j (by omega)
      · have hilt : i < last := by have := (Array.getElem?_eq_some_iff.1 ho).1; omega
        have hdeps : Deps ops S a w o.after.toList := Deps.of fun e he hb oj hj d hd => by
          have := hall e (by simpa using he) hb
          refine hI.new e.on oj d hj ?_ hd
          have hlt' : e.on < listed.size := by have := (Array.getElem?_eq_some_iff.1 hj).1; have := hI.size; omega
          simpa [hlt'] using this
        have hs := AllFrom.at hstep (i := i) (o := o) (by rw [List.getElem?_take_of_lt hilt]; simpa using ho) a w hI.grown hI.old hdeps
        rw [Nat.zero_add] at hs
        refine stepOk_wpOp ho hs fun v w' hv hg => ih _ _ _ ?_ ?_ (hI.step hf hmono ho hv hg)
        · rw [Array.toList_setIfInBounds, List.countP_set (by simpa using hlt)]
          simp [hfalse, hc]
        · rw [Array.getElem?_setIfInBounds_ne hil]
          exact hlast
/-- The same, where the last operation waits for all others and may do what it likes. -/
theorem wp_region_tail {P : Program} {id : Nat} {ops : Array Oper} {Q : Exit → Act → World → Prop} {a0 : Act} {w : World} (hm : P.follows .mixedOrders = true) (S : Nat → World → Value → Prop)
    (n : Nat) (hn : a0.tmps.size = n) (hf : formB ops n = true) (last : Nat) (ol : Oper) (hol : ops[last]? = some ol) (hlb : lastB ops last = true) (hmono : ∀ i w w' x, Gr w w' → S i w x → S i w' x)
    (hstep : AllFrom (fun i o => ∀ a w', Gr w w' → Kept ops a0 a → Deps ops S a w' o.after.toList → StepOk P ops S i o a w') 0 (ops.toList.take last))
    (hQ : ∀ a w', a.tmps.size = a0.tmps.size → a.defers = a0.defers → Kept ops a0 a →
      (∀ (i : Nat) (o : Oper) (d : Nat), i < last → ops[i]? = some o → o.dst = some d → S i w' (a.eval (.tmp d))) → Gr w w' → ol.wp P a w' (fun a' w'' => Q .normal a' w'') Q) : (Code.region id ops true).wp P Q a0 w := by
  subst hn
  have hlt0 : last < ops.size := (Array.getElem?_eq_some_iff.1 hol).1
  refine wp_region_any hm (wpAny_tail last ol hol hlb hf hmono hstep hQ ops.size _ a0 _ ?_ ?_ ⟨by simp, rfl, rfl, fun _ _ => rfl, fun i o d ho hl _ => ?_, ?_⟩)
  · simp [List.countP_replicate]
  · simp [hlt0]
  · have hlt : i < ops.size := (Array.getElem?_eq_some_iff.1 ho).1
    simp [hlt] at hl
  · exact ⟨rfl, rfl, rfl, Nat.le_refl _, fun _ _ => rfl⟩
/-- Does an operation with these edges wait for number j, which writes slot d? -/
def depB (ops : Array Oper) (l : Array Edge) (j d : Nat) : Bool := l.any (fun e => Region.binds .any e && e.on == j) && (((ops[j]?).bind (·.dst)) == some d)
theorem Deps.mem {ops : Array Oper} {S : Nat → World → Value → Prop} {a : Act} {w : World} : ∀ {l : List Edge}, Deps ops S a w l → ∀ e ∈ l, Region.binds .any e = true → ∀ o, ops[e.on]? = some o → ∀ d, o.dst = some d → S e.on w (a.eval (.tmp d))
  | e :: _, h, e', he, hb, o, ho, d, hd => by
    rcases List.mem_cons.1 he with rfl | he
    · exact h.1 hb o ho d hd
    · exact Deps.mem h.2 e' he hb o ho d hd
theorem Deps.val {ops : Array Oper} {S : Nat → World → Value → Prop} {a : Act} {w : World} {l : Array Edge} (h : Deps ops S a w l.toList) (j d : Nat) (hb : depB ops l j d = true) : S j w (a.eval (.tmp d)) := by
  unfold depB at hb
  simp only [Bool.and_eq_true, Array.any_eq_true', beq_iff_eq] at hb
  obtain ⟨⟨e, he, hbe, rfl⟩, hd⟩ := hb
  cases ho : ops[e.on]? with
  | none => rw [ho] at hd; simp at hd
  | some o =>
    rw [ho] at hd
    exact Deps.mem h e (by simpa using he) hbe o ho d (by simpa using hd)

/-- An operation that yields a value and leaves the world. -/
theorem wp_value {P : Program} {o : Oper} {a : Act} {w : World} {S : World → Value → Prop} {Q : Exit → Act → World → Prop} (v : Value) (hrun : (execOp a.eval o).run P w = .ok (.value v) w) (hS : S w v) :
    o.wp P a w (fun a' w' => ∃ v, a' = a.put o.dst v ∧ S w' v ∧ Gr w w') Q := by
  unfold Oper.wp
  rw [hrun]
  exact ⟨v, rfl, hS, Gr.refl w⟩

/-- What a call of a function with a body comes to. -/
def bodyB (P : Program) (f : FuncId) : Bool := match P.funcs[f]? with
  | some fn => !(fn.name == "runtime.NumGoroutine") && !fn.body.isNone
  | none => false
theorem run_enter {P : Program} {o : Oper} {a : Act} {w : World} (f : FuncId) (xs : Array Operand) (ts : Array TypeId) (ho : o.op = .call { callee := .value (.func f), args := xs, argTypes := ts }) (hb : bodyB P f = true) :
    (execOp a.eval o).run P w = .ok (.enter f (xs.map a.eval)) w := by
  unfold bodyB at hb
  cases hf : P.funcs[f]? with
  | none => rw [hf] at hb; simp at hb
  | some fn =>
    rw [hf] at hb
    simp only [Bool.and_eq_true, Bool.not_eq_true'] at hb
    have h1 : ¬ fn.name = "runtime.NumGoroutine" := by simpa using hb.1
    have h2 : ¬ fn.body = none := by have := hb.2; cases hh : fn.body <;> simp [hh] at this ⊢
    simp [execOp, ho, resolve, Act.eval, Deferred.ofValue, invoke, callFunc, hf, h1, h2, Result.andThen]
/-- A call. -/
theorem wp_call {P : Program} {o : Oper} {a : Act} {w : World} {S : World → Value → Prop} {Q : Exit → Act → World → Prop} (f : FuncId) (args : Array Value) (hrun : (execOp a.eval o).run P w = .ok (.enter f args) w)
    (hc : Calls P f args w fun e w' => ∃ v, e = .returned v ∧ S w' v ∧ Gr w w') :
    o.wp P a w (fun a' w' => ∃ v, a' = a.put o.dst v ∧ S w' v ∧ Gr w w') Q := by
  unfold Oper.wp
  rw [hrun]
  refine hc.mono ?_
  rintro e w' ⟨v, rfl, hv, hg⟩
  exact ⟨v, rfl, hv, hg⟩

#print axioms wp_region_tail
end Go.Proofs.Ytmicmbjbclkbjaa
