/-
  A region that draws its order, some of whose operations are calls that write, one behind the other; what is read between them; guards that are known to hold.
-/
import Derived.Test.YtcicekggeampcaaGreatGSd
import Derived.Test.YtcicekggeampcaaGreatGSb
namespace Go.Proofs.YtcicekggeampcaaGreat
open Go.RowKit
/-- A guard that holds: the operation that it asks is waited for, and yields what is wanted. -/
def GuardOk (ops : Array Oper) (V : Nat → Value) (o : Oper) : Prop :=
  o.guard = none ∨ ∃ j d want, o.guard = some (j, want) ∧ depB ops o.after j d = true ∧ V j = .bool want
/-- Each waits for the next one. -/
def pathB (ops : Array Oper) : Nat → List Nat → Bool
  | _, [] => true
  | i, j :: r => (match ops[i]? with | some o => o.after.any (fun e => Region.binds .any e && e.on == j) | none => false) && pathB ops j r
theorem path_done {ops : Array Oper} {l : Nat → Bool} (hc : Closed ops l) : ∀ (p : List Nat) (i : Nat) (o : Oper), ops[i]? = some o → waitsB o l = true → pathB ops i p = true → ∀ j ∈ p, l j = true
  | [], _, _, _, _, _ => fun _ h => by cases h
  | k :: r, i, o, ho, hw, h => by
    rw [pathB, ho, Bool.and_eq_true] at h
    have hlk : l k = true := waitsB_at hw k h.1
    intro j hj
    rcases List.mem_cons.1 hj with rfl | hj
    · exact hlk
    · cases hk : ops[k]? with
      | none =>
        cases r with
        | nil => cases hj
        | cons x r => rw [pathB, hk] at h; simp at h
      | some ok => exact path_done hc r k ok hk (hc k ok hk hlk) h.2 j hj
/-- Does the path lead there? -/
def leadsB (ops : Array Oper) (i : Nat) (p : List Nat) (j : Nat) : Bool := pathB ops i p && p.any (· == j)
theorem leads_done {ops : Array Oper} {l : Nat → Bool} (hc : Closed ops l) {p : List Nat} {i j : Nat} {o : Oper} (ho : ops[i]? = some o) (hw : waitsB o l = true) (h : leadsB ops i p j = true) : l j = true := by
  unfold leadsB at h
  rw [Bool.and_eq_true, List.any_eq_true] at h
  obtain ⟨h1, x, hx, e⟩ := h
  rw [beq_iff_eq] at e
  subst e
  exact path_done hc p i o ho hw h1 x hx
structure SJ8 (ops : Array Oper) (V : Nat → Value) (T : Nat → World → Prop) (ks : List Nat) (l : Nat → Bool) (a : Act) (w : World) : Prop where
  vals : ∀ (i : Nat) (o : Oper) (d : Nat), ops[i]? = some o → l i = true → o.dst = some d → a.eval (.tmp d) = V i
  st : ∃ s, (∀ r k, ks[r]? = some k → l k = decide (r < s)) ∧ s ≤ ks.length ∧ T s w
  cl : Closed ops l
/-- Does each of these wait for the one ahead of it? -/
def chain8 (ops : Array Oper) : List Nat → List (List Nat) → Bool
  | a :: b :: r, p :: ps => leadsB ops b p a && chain8 ops (b :: r) ps
  | _ :: _ :: _, [] => false
  | _, _ => true
theorem chain8_at {ops : Array Oper} : ∀ {ks : List Nat} {ps : List (List Nat)}, chain8 ops ks ps = true → ∀ {r x y : Nat}, ks[r]? = some x → ks[r + 1]? = some y → ∃ p, leadsB ops y p x = true
  | [], _, _, _, _, _, h1, _ => by simp at h1
  | [a], _, _, _, _, _, _, h2 => by simp at h2
  | a :: b :: r, [], h, _, _, _, _, _ => by simp [chain8] at h
  | a :: b :: r, p :: ps, h, n, x, y, h1, h2 => by
    rw [chain8, Bool.and_eq_true] at h
    cases n with
    | zero =>
      simp only [List.getElem?_cons_zero, Option.some.injEq, Nat.zero_add, List.getElem?_cons_succ] at h1 h2
      subst h1; subst h2
      exact ⟨p, h.1⟩
    | succ n =>
      simp only [List.getElem?_cons_succ] at h1 h2
      exact chain8_at h.2 (r := n) h1 h2
/-- What is owed of operation i: lo, hi: behind how many of the calls it may come. -/
abbrev Owes8 (P : Program) (ops : Array Oper) (V : Nat → Value) (T : Nat → World → Prop) (ks : List Nat) (a0 : Act) (Q : Exit → Act → World → Prop) (i : Nat) (o : Oper) : Prop :=
  GuardOk ops V o ∧ ((ks.all (· != i) = true ∧ ∃ (lo hi : Nat) (pl ph : List Nat), (lo == 0 || (decide (lo ≤ ks.length) && leadsB ops i pl (ks.getD (lo - 1) 0))) = true ∧ (decide (ks.length ≤ hi) || leadsB ops (ks.getD hi 0) ph i) = true ∧
      ∀ s a w', lo ≤ s → s ≤ hi → s ≤ ks.length → Kept ops a0 a → Finds ops V o a → T s w' → (execOp a.eval o).run P w' = .ok (.value (V i)) w') ∨
    (∃ r, ks[r]? = some i ∧ ∀ a w', Kept ops a0 a → Finds ops V o a → T r w' → o.wp P a w' (fun a' w'' => a' = a.put o.dst (V i) ∧ T (r + 1) w'') Q))
theorem wp_region_chain8 {P : Program} {id : Nat} {ops : Array Oper} {Q : Exit → Act → World → Prop} {a0 : Act} {w : World} (hm : P.follows .mixedOrders = true) (V : Nat → Value) (T : Nat → World → Prop) (ks : List Nat) (ps : List (List Nat))
    (n : Nat) (hn : a0.tmps.size = n) (hf : formB ops n = true) (hch : chain8 ops ks ps = true) (hnd : ks.Nodup) (hks : ks.all (· < ops.size) = true) (h0 : ∀ w', w'.heap = w.heap → Gr w w' → T 0 w')
    (hstep : AllFrom (Owes8 P ops V T ks a0 Q) 0 ops.toList)
    (hQ : ∀ a w', a.tmps.size = a0.tmps.size → a.defers = a0.defers → Kept ops a0 a → (∀ (i : Nat) (o : Oper) (d : Nat), ops[i]? = some o → o.dst = some d → a.eval (.tmp d) = V i) → T ks.length w' → Q .normal a w') :
    (Code.region id ops true).wp P Q a0 w := by
  subst hn
  refine wp_region_Jw hm (SJ8 ops V T ks) a0.tmps.size rfl hf ?_ ?_ ?_
  · intro w' hh hg
    exact ⟨fun i o d _ h => by simp at h, ⟨0, fun _ _ _ => by simp, Nat.zero_le _, h0 _ hh hg⟩, fun _ _ _ h => by simp at h⟩
  · intro i o ho l a w1 hJ ht hd hkp hli hw
    have hs := AllFrom.at hstep (i := i) (o := o) (by simpa using ho)
    rw [Nat.zero_add] at hs
    have hi : i < ops.size := (Array.getElem?_eq_some_iff.1 ho).1
    have hfinds : Finds ops V o a := by
      intro j d hb
      unfold depB at hb
      rw [Bool.and_eq_true] at hb
      have hlj := waitsB_at hw j hb.1
      cases hoj : ops[j]? with
      | none => rw [hoj] at hb; simp at hb
      | some oj =>
        rw [hoj] at hb
        exact hJ.vals j oj d hoj hlj (by simpa using hb.2)
    have hwant : Region.wanted o (yielded ops a.tmps) = true := by
      rcases hs.1 with hg | ⟨j, d, want, hg, hdep, hV⟩
      · exact wanted_none hg
      · have he := hfinds j d hdep
        rw [hV] at he
        unfold depB at hdep
        rw [Bool.and_eq_true] at hdep
        exact wanted_some hg d (by simpa using hdep.2) he
    have next : ∀ w2, (∃ s, (∀ r k, ks[r]? = some k → (l k || k == i) = decide (r < s)) ∧ s ≤ ks.length ∧ T s w2) → SJ8 ops V T ks (fun j => l j || j == i) (a.put o.dst (V i)) w2 := by
      intro w2 hT
      refine ⟨fun j oj d hoj hl hdj => ?_, hT, hJ.cl.step ho hw⟩
      by_cases hji : j = i
      · subst hji
        rw [ho] at hoj
        simp only [Option.some.injEq] at hoj
        subst hoj
        rw [hdj, eval_put_same (by rw [ht]; exact ((formB_spec hf ho).2 d hdj).1)]
      · rw [eval_put_other (fun e => hji (formB_ne hf hoj ho hdj e))]
        exact hJ.vals j oj d hoj (by simpa [hji] using hl) hdj
    refine ⟨hwant, ?_⟩
    obtain ⟨s, hst, hsl, hTs⟩ := hJ.st
    rcases hs.2 with ⟨hni, lo, hi', pl, ph, hlo, hhi, hrun⟩ | ⟨r, hr, hcall⟩
    · have h1 : lo ≤ s := by
        rw [Bool.or_eq_true, beq_iff_eq, Bool.and_eq_true, decide_eq_true_eq] at hlo
        rcases hlo with h | ⟨hle, h⟩
        · omega
        · by_cases h0' : lo = 0
          · omega
          · have hd' := leads_done hJ.cl ho hw h
            have hl : lo - 1 < ks.length := by omega
            have e2 : ks.getD (lo - 1) 0 = ks[lo - 1] := by rw [List.getD_eq_getElem?_getD, List.getElem?_eq_getElem hl]; rfl
            rw [e2, hst (lo - 1) _ (List.getElem?_eq_getElem hl)] at hd'
            have := of_decide_eq_true hd'
            omega
      have h2 : s ≤ hi' := by
        rw [Bool.or_eq_true, decide_eq_true_eq] at hhi
        rcases hhi with h | h
        · omega
        · refine Nat.le_of_not_lt fun hlt => ?_
          have hl : hi' < ks.length := by omega
          have e2 : ks.getD hi' 0 = ks[hi'] := by rw [List.getD_eq_getElem?_getD, List.getElem?_eq_getElem hl]; rfl
          rw [e2] at h
          have hk := hst hi' _ (List.getElem?_eq_getElem hl)
          rw [decide_eq_true hlt] at hk
          have hks' : ks[hi'] < ops.size := by simpa using List.all_eq_true.1 hks _ (List.getElem_mem hl)
          have hok := Array.getElem?_eq_getElem hks'
          have := leads_done hJ.cl hok (hJ.cl _ _ hok hk) h
          rw [hli] at this
          cases this
      have hr := hrun s a w1 h1 h2 hsl hkp hfinds hTs
      unfold Oper.wp
      rw [hr, Oper.upon_value]
      refine ⟨V i, rfl, next w1 ⟨s, fun r k hk => ?_, hsl, hTs⟩⟩
      have := List.all_eq_true.1 hni k (List.mem_of_getElem? hk)
      rw [show (k == i) = false by simpa using this, Bool.or_false]
      exact hst r k hk
    · have hrl : r < ks.length := (List.getElem?_eq_some_iff.1 hr).1
      have hsr : s = r := by
        have h1 : ¬ r < s := by have := hst r i hr; rw [hli] at this; simpa using this.symm
        have h2 : r ≤ s := by
          cases r with
          | zero => omega
          | succ q =>
            have hq : q < ks.length := by omega
            obtain ⟨p, hp⟩ := chain8_at hch (List.getElem?_eq_getElem hq) hr
            have hl := leads_done hJ.cl ho hw hp
            rw [hst q _ (List.getElem?_eq_getElem hq)] at hl
            exact of_decide_eq_true hl
        omega
      subst hsr
      refine Oper.wp_mono ?_ (hcall a w1 hkp hfinds hTs)
      rintro a' w2 ⟨rfl, hB⟩
      refine ⟨V i, rfl, next w2 ⟨s + 1, fun r k hk => ?_, hrl, hB⟩⟩
      rw [hst r k hk]
      by_cases hki : k = i
      · subst hki
        have hrk : r < ks.length := (List.getElem?_eq_some_iff.1 hk).1
        have e : r = s := (List.getElem_inj hnd (h₀ := hrk) (h₁ := hrl)).1 ((List.getElem?_eq_some_iff.1 hk).2.trans (List.getElem?_eq_some_iff.1 hr).2.symm)
        subst e; simp
      · have hrs : r ≠ s := fun e => hki (by subst e; rw [hr] at hk; exact (Option.some.inj hk).symm)
        rw [show (k == i) = false by simpa using hki, Bool.or_false]
        by_cases h1 : r < s
        · rw [decide_eq_true h1, decide_eq_true (by omega)]
        · rw [decide_eq_false h1, decide_eq_false (by omega)]
  · intro l a w1 hall hJ ht hd hkp
    obtain ⟨s, hst, hsl, hTs⟩ := hJ.st
    have : s = ks.length := by
      by_cases hs : s < ks.length
      · have h1 := hst s _ (List.getElem?_eq_getElem hs)
        rw [hall _ (by simpa using List.all_eq_true.1 hks _ (List.getElem_mem hs))] at h1
        simp at h1
      · omega
    subst this
    exact hQ a w1 ht hd hkp (fun i o d ho hdst => hJ.vals i o d ho (hall i (Array.getElem?_eq_some_iff.1 ho).1) hdst) hTs
end Go.Proofs.YtcicekggeampcaaGreat
