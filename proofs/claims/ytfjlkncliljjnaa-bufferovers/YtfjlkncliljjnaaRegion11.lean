/-
  Regions that draw their order, by whatever law of what is kept: in a walk, or in one inside a fence: variables made in it; stores one behind the other with reads between them.
-/
import Derived.Test.YtfjlkncliljjnaaRegion9
import Derived.Test.YtfjlkncliljjnaaPfQ
namespace Go.Proofs.Ytfjlkncliljjnaa
open Go.RowKit
/-- Whatever is kept of what is done so far leads there. -/
def JLaw (P : Program) (ops : Array Oper) (Q : Exit → Act → World → Prop) (a0 : Act) (w : World) (concl : Prop) : Prop :=
  ∀ (J : (Nat → Bool) → Act → World → Prop) (n : Nat), a0.tmps.size = n → formB ops n = true → (∀ w', w'.heap = w.heap → Gr w w' → J (fun _ => false) a0 w') →
    (∀ (i : Nat) (o : Oper), ops[i]? = some o → ∀ (l : Nat → Bool) a w, J l a w → a.tmps.size = n → a.defers = a0.defers → Kept ops a0 a → l i = false → waitsB o l = true →
      o.guard = none ∧ o.wp P a w (fun a' w' => ∃ v, a' = a.put o.dst v ∧ J (fun k => l k || k == i) a' w') Q) →
    (∀ (l : Nat → Bool) a w, (∀ i, i < ops.size → l i = true) → J l a w → a.tmps.size = n → a.defers = a0.defers → Kept ops a0 a → Q .normal a w) → concl
theorem jl_wp {P : Program} {id : Nat} {ops : Array Oper} {Q : Exit → Act → World → Prop} {a0 : Act} {w : World} (hm : P.follows .mixedOrders = true) : JLaw P ops Q a0 w ((Code.region id ops true).wp P Q a0 w) :=
  fun J n hn hf h0 hs hq => wp_region_J hm J n hn hf h0 hs hq
theorem jl_in {F : Fence} {n0 : Nat} {P : Program} {id : Nat} {ops : Array Oper} {Q : Exit → Act → World → Prop} {a0 : Act} {w : World} (hop : ∀ {o : Oper} {a : Act} {w : World} {K : Act → World → Prop} {Q : Exit → Act → World → Prop}, (∀ c, o.op ≠ .defer c) → o.wp P a w K Q → o.wpIn F n0 P a w K Q)
    (hm : P.follows .mixedOrders = true) (hd : noDefer ops = true) : JLaw P ops Q a0 w ((Code.region id ops true).wpIn F n0 P Q a0 w) :=
  fun J n hn hf h0 hs hq => J_anyIn hm J n hn hf h0 (fun i o ho l a w hJ h1 h2 h3 h4 h5 => by
    obtain ⟨g1, g2⟩ := hs i o ho l a w hJ h1 h2 h3 h4 h5
    refine ⟨g1, hop (fun c e => ?_) g2⟩
    have hm : o ∈ ops := Array.mem_of_getElem? ho
    have := (Array.all_eq_true_iff_forall_mem.1 hd) o hm
    rw [e] at this
    cases this) hq
/-- Variables that are made and stored to in the region, by whatever law. -/
theorem cells_by {P : Program} {concl : Prop} {ops : Array Oper} {Q : Exit → Act → World → Prop} {a0 : Act} {w : World} (hJL : JLaw P ops Q a0 w concl) (S : Nat → World → Value → Prop) (cells : List Cel)
    (n : Nat) (hn : a0.tmps.size = n) (hf : formB ops n = true) (hmono : ∀ i w1 w2 x, Below w.heap.size w1 w2 → S i w1 x → S i w2 x)
    (hdi : ∀ c ∈ cells, ∀ c' ∈ cells, c.i = c'.i → c = c') (hds : ∀ c ∈ cells, ∀ c' ∈ cells, c.s = c'.s → c = c') (hdd : ∀ c ∈ cells, ((ops[c.i]?).bind (·.dst)) = some c.d)
    (hstep : AllFrom (fun i o => Owes P ops S cells a0 w i o) 0 ops.toList)
    (hQ : ∀ a w', a.tmps.size = a0.tmps.size → a.defers = a0.defers → Kept ops a0 a →
      (∀ (i : Nat) (o : Oper) (d : Nat), ops[i]? = some o → (∀ c ∈ cells, c.i ≠ i) → o.dst = some d → S i w' (a.eval (.tmp d))) → Below w.heap.size w w' →
      (∃ B : Nat → Nat, (∀ c ∈ cells, c.i < ops.size → c.s < ops.size → a.eval (.tmp c.d) = .pointer (some ⟨B c.i, 0, none⟩) ∧ w.heap.size ≤ B c.i ∧ Blk w' (B c.i) c.T c.X) ∧ (∀ c ∈ cells, ∀ c' ∈ cells, c.i < ops.size → c'.i < ops.size → c.i ≠ c'.i → B c.i ≠ B c'.i)) → Q .normal a w') :
    concl := by
  have cellOp : ∀ c ∈ cells, ∃ o, ops[c.i]? = some o ∧ o.dst = some c.d := fun c hc => by
    have := hdd c hc
    cases ho : ops[c.i]? with
    | none => rw [ho] at this; cases this
    | some o => rw [ho] at this; exact ⟨o, rfl, this⟩
  refine hJL (CJ ops S cells w) n hn hf ?_ ?_ ?_
  · intro w' hh hg
    exact ⟨hg, fun i o d _ h => by simp at h, fun c _ h => by simp at h, fun _ => 0, fun c _ h => by simp at h, fun c _ c' _ h => by simp at h⟩
  · intro i o ho l a w1 hJ ht hd hk hli hw
    have hs := AllFrom.at hstep (i := i) (o := o) (by simpa using ho)
    rw [Nat.zero_add] at hs
    have hdeps : ∀ (j d : Nat), depB ops o.after j d = true → (∀ c ∈ cells, c.i ≠ j) → S j w1 (a.eval (.tmp d)) := by
      intro j d hb hc
      unfold depB at hb
      rw [Bool.and_eq_true] at hb
      have hlj := waitsB_at hw j hb.1
      cases hoj : ops[j]? with
      | none => rw [hoj] at hb; simp at hb
      | some oj =>
        rw [hoj] at hb
        exact hJ.vals j oj d hoj hlj hc (by simpa using hb.2)
    obtain ⟨B, hB1, hB2⟩ := hJ.cels
    rcases hs with ⟨hg, h1, h2, h⟩ | ⟨c, hg, hc, h1, h2, hdst, h⟩ | ⟨c, y, hg, hc, h1, h2, hdst, hop, hdep, hy, hlen, hsz, h1X⟩
    · refine ⟨hg, Oper.wp_mono ?_ (h a w1 hJ.low hk hdeps Q)⟩
      rintro a' w2 ⟨v, rfl, hv, hgr⟩
      have hlow : Below w.heap.size w1 w2 := Below.mono hgr hJ.low.size
      refine ⟨v, rfl, hJ.low.trans hlow, fun j oj d hoj hl hc hdj => ?_, fun c hc hl => ?_, B, fun c hc hl => ?_, fun c hc c' hc' hl hl' hne => hB2 c hc c' hc' ?_ ?_ hne⟩
      · by_cases hji : j = i
        · subst hji
          rw [ho] at hoj
          simp only [Option.some.injEq] at hoj
          subst hoj
          rw [hdj, eval_put_same (by rw [ht]; exact ((formB_spec (hn ▸ hf) ho).2 d hdj).1 |> fun h => by rwa [hn] at h)]
          exact hv
        · rw [eval_put_other (fun e => hji (formB_ne hf hoj ho hdj e))]
          exact hmono j w1 w2 _ hlow (hJ.vals j oj d hoj (by simpa [hji] using hl) hc hdj)
      · have hl' : l c.s = true := by simpa [h2 c hc] using hl
        simp [hJ.made c hc hl']
      · have hl' : l c.i = true := by simpa [h1 c hc] using hl
        obtain ⟨e1, e2, e3⟩ := hB1 c hc hl'
        obtain ⟨oc, hoc, hdc⟩ := cellOp c hc
        refine ⟨?_, e2, ?_⟩
        · rw [eval_put_other (fun e => h1 c hc (formB_ne hf hoc ho hdc e))]; exact e1
        · have : (l c.s || c.s == i) = l c.s := by simp [h2 c hc]
          rw [this]
          exact e3.kept hgr
      · simpa [h1 c hc] using hl
      · simpa [h1 c' hc'] using hl'
    · refine ⟨hg, ?_⟩
      unfold Oper.wp
      rw [h a w1]
      have hlow : Below w.heap.size w1 (w1.alloc (.cells c.Z.toArray c.T (0, 0))) := (Below.refl _ _).alloc hJ.low.size _
      have hdlt : c.d < a.tmps.size := by rw [ht]; exact ((formB_spec hf ho).2 c.d hdst).1
      refine ⟨_, rfl, hJ.low.trans hlow, fun j oj d hoj hl hcj hdj => ?_, fun c' hc' hl => ?_, fun k => if k = i then w1.heap.size else B k, fun c' hc' hl => ?_, fun c1 hc1 c2 hc2 hl1 hl2 hne => ?_⟩
      · have hji : j ≠ i := fun e => hcj c hc (by rw [h1, e])
        rw [eval_put_other (fun e => hji (formB_ne hf hoj ho hdj e))]
        exact hmono j w1 _ _ hlow (hJ.vals j oj d hoj (by simpa [hji] using hl) hcj hdj)
      · have hl' : l c'.s = true := by simpa [h2 c' hc'] using hl
        simp [hJ.made c' hc' hl']
      · have hls : (l c'.s || c'.s == i) = l c'.s := by simp [h2 c' hc']
        rw [hls]
        by_cases hci : c'.i = i
        · obtain rfl : c' = c := hdi c' hc' c hc (by rw [hci, h1])
          have hns : l c'.s = false := by
            cases hh : l c'.s with
            | false => rfl
            | true => have := hJ.made c' hc' hh; rw [hci, hli] at this; cases this
          have hBi : (if c'.i = i then w1.heap.size else B c'.i) = w1.heap.size := if_pos hci
          simp only [hns, hBi]
          refine ⟨?_, hJ.low.size, ?_⟩
          · rw [hdst]; exact eval_put_same hdlt
          · simpa using Blk.new w1 c'.T c'.Z
        · have hl' : l c'.i = true := by simpa [hci] using hl
          obtain ⟨e1, e2, e3⟩ := hB1 c' hc' hl'
          obtain ⟨oc, hoc, hdc⟩ := cellOp c' hc'
          have hBi : (if c'.i = i then w1.heap.size else B c'.i) = B c'.i := if_neg hci
          simp only [hBi]
          refine ⟨?_, e2, e3.alloc _⟩
          rw [eval_put_other (fun e => hci (formB_ne hf hoc ho hdc e))]; exact e1
      · by_cases e1 : c1.i = i
        · have e2 : c2.i ≠ i := fun e => hne (by rw [e1, e])
          have hl' : l c2.i = true := by simpa [e2] using hl2
          have := (hB1 c2 hc2 hl').2.2.lt
          simp only [e1, e2, if_true, if_false]
          omega
        · have hl' : l c1.i = true := by simpa [e1] using hl1
          by_cases e2 : c2.i = i
          · have := (hB1 c1 hc1 hl').2.2.lt
            simp only [e1, e2, if_true, if_false]
            omega
          · simp only [e1, e2, if_false]
            exact hB2 c1 hc1 c2 hc2 hl' (by simpa [e2] using hl2) hne
    · refine ⟨hg, ?_⟩
      have hli' : l c.i = true := waitsB_at hw c.i hdep
      obtain ⟨e1, e2, e3⟩ := hB1 c hc hli'
      have hns : l c.s = false := by rw [h2]; exact hli
      rw [hns] at e3
      have e3' : Blk w1 (B c.i) c.T c.Z := by simpa using e3
      refine wp_store_mid c.T (.tmp c.d) y hop (B c.i) 0 c.X.toArray e1 (hy a w1 hJ.low hk hdeps) ?_ (by simpa using hsz) (all_one h1X) ?_
      · have := e3'.there 0 c.X.length (by rw [Nat.zero_add]; exact Nat.le_of_eq hlen)
        simpa using this
      have hbut := But.setCells (B c.i) c.X 0 w1
      have hlow : Below w.heap.size w1 (w1.setCells (B c.i) 0 c.X) := hbut.below e2 hJ.low.size
      have hnew : Blk (w1.setCells (B c.i) 0 c.X) (B c.i) c.T c.X := by
        have := e3'.over c.X 0 (by omega)
        rwa [over_all _ _ (by omega)] at this
      have hput : a.put o.dst undef = a := by rw [hdst]; rfl
      refine ⟨undef, rfl, ?_⟩
      rw [hput]
      refine ⟨hJ.low.trans hlow, fun j oj d hoj hl hcj hdj => ?_, fun c' hc' hl => ?_, B, fun c' hc' hl => ?_, fun c1 hc1 c2 hc2 hl1 hl2 hne => hB2 c1 hc1 c2 hc2 ?_ ?_ hne⟩
      · have hji : j ≠ i := fun e => by
          subst e
          rw [ho] at hoj
          simp only [Option.some.injEq] at hoj
          subst hoj
          rw [hdst] at hdj
          cases hdj
        exact hmono j w1 _ _ hlow (hJ.vals j oj d hoj (by simpa [hji] using hl) hcj hdj)
      · by_cases hs : c'.s = i
        · obtain rfl : c' = c := hds c' hc' c hc (by rw [hs, h2])
          simp [hli']
        · have hl' : l c'.s = true := by simpa [hs] using hl
          simp [hJ.made c' hc' hl']
      · have hl' : l c'.i = true := by simpa [h1 c' hc'] using hl
        obtain ⟨f1, f2, f3⟩ := hB1 c' hc' hl'
        refine ⟨f1, f2, ?_⟩
        by_cases hs : c'.s = i
        · obtain rfl : c' = c := hds c' hc' c hc (by rw [hs, h2])
          simpa [hs] using hnew
        · have hne : c'.i ≠ c.i := fun e => hs (by rw [hdi c' hc' c hc e, h2])
          have : (l c'.s || c'.s == i) = l c'.s := by simp [hs]
          rw [this]
          exact f3.but hbut (hB2 c' hc' c hc hl' hli' hne)
      · simpa [h1 c1 hc1] using hl1
      · simpa [h1 c2 hc2] using hl2
  · intro l a w1 hall hJ ht hd hk
    obtain ⟨B, hB1, hB2⟩ := hJ.cels
    refine hQ a w1 (ht.trans hn.symm) hd hk (fun i o d ho hc hdst => hJ.vals i o d ho (hall i (Array.getElem?_eq_some_iff.1 ho).1) hc hdst) hJ.low ⟨B, fun c hc hi hs => ?_, fun c hc c' hc' hi hi' hne => hB2 c hc c' hc' (hall _ hi) (hall _ hi') hne⟩
    obtain ⟨e1, e2, e3⟩ := hB1 c hc (hall _ hi)
    rw [hall _ hs] at e3
    exact ⟨e1, e2, by simpa using e3⟩
/-- Are the first b of ps done, and no others? -/
structure PJ11 (P : Program) (ops : Array Oper) (V : Nat → Value) (C : Nat → World → Prop) (Q : Exit → Act → World → Prop) (ps : List Nat) (k : Nat) (a0 : Act) (l : Nat → Bool) (a : Act) (w : World) : Prop where
  closed : Closed ops l
  left : (∀ i, k ≤ i → i < ops.size → l i = false) → (∀ (i : Nat) (o : Oper) (d : Nat), ops[i]? = some o → l i = true → o.dst = some d → a.eval (.tmp d) = V i) ∧ KeptK ops k a0 a ∧ ∃ b, b ≤ ps.length ∧ (∀ (j p : Nat), ps[j]? = some p → (l p = true ↔ j < b)) ∧ C b w
  right : (∃ i, k ≤ i ∧ i < ops.size ∧ l i = true) → ∃ m, k < m ∧ m ≤ ops.size ∧ (∀ i, i < m → l i = true) ∧ (∀ i, m ≤ i → i < ops.size → l i = false) ∧ wpSeq P Q (ops.toList.drop m) a w
/-- Does each of them wait for the one ahead of it? -/
def chainB (ops : Array Oper) : List Nat → Bool
  | p :: q :: r => (match ops[q]? with | some o => o.after.any (fun e => Region.binds .any e && e.on == p) | none => false) && chainB ops (q :: r)
  | _ => true
theorem chain_at {ops : Array Oper} : ∀ {ps : List Nat} (_ : chainB ops ps = true) {j p q : Nat} (_ : ps[j]? = some p) (_ : ps[j + 1]? = some q) {o : Oper} (_ : ops[q]? = some o) {l : Nat → Bool} (_ : waitsB o l = true), l p = true
  | x :: y :: r, h, 0, p, q, hp, hq, o, ho, l, hw => by
    simp only [List.getElem?_cons_zero, Option.some.injEq] at hp
    simp only [Nat.zero_add, List.getElem?_cons_succ, List.getElem?_cons_zero, Option.some.injEq] at hq
    subst hp hq
    unfold chainB at h
    rw [Bool.and_eq_true, ho] at h
    exact waitsB_at hw x h.1
  | x :: y :: r, h, j + 1, p, q, hp, hq, o, ho, l, hw => by
    unfold chainB at h
    rw [Bool.and_eq_true] at h
    exact chain_at h.2 (j := j) (by simpa using hp) (by simpa using hq) ho hw
  | [x], h, j, p, q, hp, hq, o, ho, l, hw => by simp at hq
  | [], h, j, p, q, hp, hq, o, ho, l, hw => by simp at hp
/-- **STORES ONE BEHIND THE OTHER, WITH READS BETWEEN THEM THAT DO NOT SEE THEM**, by whatever law. -/
theorem pivots_by {P : Program} {concl : Prop} {ops : Array Oper} {Q : Exit → Act → World → Prop} {a0 : Act} {w : World} (hJ : JLaw P ops Q a0 w concl) (V : Nat → Value) (C : Nat → World → Prop) (ps : List Nat)
    (n : Nat) (hn : a0.tmps.size = n) (hf : formB ops n = true) (k : Nat) (hk0 : k < ops.size) (hpk : ∀ p ∈ ps, p < k) (hnd : ps.Nodup) (hch : chainB ops ps = true) (hlb : tailsB ops k = true) (h0 : ∀ w', w'.heap = w.heap → Gr w w' → C 0 w')
    (hstep : AllFrom (fun i o => o.guard = none ∧ (i ∉ ps → ∀ a b w', C b w' → KeptK ops k a0 a → (∀ j d, depB ops o.after j d = true → a.eval (.tmp d) = V j) → ∀ Q, o.wp P a w' (fun a' w'' => a' = a.put o.dst (V i) ∧ C b w'') Q) ∧
      (∀ j, ps[j]? = some i → o.dst = none ∧ ∀ a w', C j w' → KeptK ops k a0 a → (∀ j d, depB ops o.after j d = true → a.eval (.tmp d) = V j) → ∀ Q, o.wp P a w' (fun a' w'' => a' = a.put o.dst undef ∧ C (j + 1) w'') Q)) 0 (ops.toList.take k))
    (hQ : ∀ a w', a.tmps.size = a0.tmps.size → a.defers = a0.defers → KeptK ops k a0 a →
      (∀ (i : Nat) (o : Oper) (d : Nat), i < k → ops[i]? = some o → o.dst = some d → a.eval (.tmp d) = V i) → C ps.length w' → wpSeq P Q (ops.toList.drop k) a w') : concl := by
  subst hn
  have hdrop : ∀ {i : Nat} {o : Oper}, ops[i]? = some o → ops.toList.drop i = o :: ops.toList.drop (i + 1) := by
    intro i o ho
    have hi : i < ops.toList.length := by have := (Array.getElem?_eq_some_iff.1 ho).1; simpa using this
    rw [List.drop_eq_getElem_cons hi]
    congr 1
    have : ops.toList[i]? = some o := by simpa using ho
    rw [List.getElem?_eq_getElem hi] at this
    exact Option.some.inj this
  refine hJ (PJ11 P ops V C Q ps k a0) a0.tmps.size rfl hf ?_ ?_ ?_
  · intro w' hh hg
    exact ⟨fun i o _ hl => by simp at hl, fun _ => ⟨fun i o d _ hl => by simp at hl, fun _ _ => rfl, 0, Nat.zero_le _, fun j p _ => by simp, h0 w' hh hg⟩, fun ⟨i, _, _, hl⟩ => by simp at hl⟩
  · intro i o ho l a w1 hJJ hsz hdf hkp hli hwt
    have hi : i < ops.size := (Array.getElem?_eq_some_iff.1 ho).1
    by_cases hr : ∃ j, k ≤ j ∧ j < ops.size ∧ l j = true
    · obtain ⟨m, hkm, hms, hdone, hnot, hseq⟩ := hJJ.right hr
      have him : m ≤ i := Nat.le_of_not_lt fun h => by rw [hdone i h] at hli; cases hli
      have hall := tailsB_at hJJ.closed hlb ho (by omega) hwt
      obtain rfl : i = m := by
        rcases Nat.lt_or_ge m i with h | h
        · have := hall m h
          rw [hnot m (Nat.le_refl _) (by omega)] at this
          cases this
        · omega
      rw [hdrop ho] at hseq
      refine ⟨hseq.1, Oper.wp_mono ?_ hseq.2⟩
      rintro a' w' ⟨v, rfl, hs⟩
      refine ⟨v, rfl, hJJ.closed.step ho hwt, fun h => ?_, fun _ => ⟨i + 1, by omega, by omega, fun j hj => ?_, fun j h1 h2 => ?_, hs⟩⟩
      · have := h i (by omega) hi
        simp at this
      · rcases Nat.lt_or_ge j i with h | h
        · simp [hdone j h]
        · obtain rfl : j = i := by omega
          simp
      · have : (j == i) = false := by simp; omega
        simp [hnot j (by omega) h2, this]
    · have hno : ∀ j, k ≤ j → j < ops.size → l j = false := fun j h1 h2 => by
        cases hl : l j with
        | false => rfl
        | true => exact absurd ⟨j, h1, h2, hl⟩ hr
      obtain ⟨hS, hkk, b, hbl, hbp, hg⟩ := hJJ.left hno
      by_cases hik : i < k
      · have hst := AllFrom.at (i := i) hstep (by rw [List.getElem?_take_of_lt hik]; simpa using ho)
        rw [Nat.zero_add] at hst
        have hdeps : ∀ j d, depB ops o.after j d = true → a.eval (.tmp d) = V j := by
          intro j d hdb
          unfold depB at hdb
          simp only [Bool.and_eq_true, beq_iff_eq] at hdb
          obtain ⟨h1, h2⟩ := hdb
          cases hoj : ops[j]? with
          | none => rw [hoj] at h2; cases h2
          | some oj =>
            rw [hoj] at h2
            exact hS j oj d hoj (waitsB_at hwt j h1) (by simpa using h2)
        have hkk' : ∀ v, KeptK ops k a0 (a.put o.dst v) := fun v t ht => (eval_put_other (fun e => ht i o hik ho e)).trans (hkk t ht)
        by_cases hip : i ∈ ps
        · obtain ⟨j, hj⟩ := List.getElem?_of_mem hip
          obtain ⟨hdn, hw⟩ := hst.2.2 j hj
          have hjb : j = b := by
            have h1 : ¬ j < b := fun h => by rw [(hbp j i hj).2 h] at hli; cases hli
            have h2 : ¬ b < j := fun h => by
              obtain ⟨m, rfl⟩ : ∃ m, j = m + 1 := ⟨j - 1, by omega⟩
              have hlt : m < ps.length := by have := (List.getElem?_eq_some_iff.1 hj).1; omega
              have hm := chain_at hch (List.getElem?_eq_getElem hlt) hj ho hwt
              have := (hbp m _ (List.getElem?_eq_getElem hlt)).1 hm
              omega
            omega
          subst hjb
          refine ⟨hst.1, Oper.wp_mono ?_ (hw a w1 hg hkk hdeps Q)⟩
          rintro a' w' ⟨rfl, hc⟩
          refine ⟨undef, rfl, hJJ.closed.step ho hwt, fun _ => ⟨fun j' oj d hj' hl hd => ?_, hkk' _, j + 1, (List.getElem?_eq_some_iff.1 hj).1, fun j' p' hp' => ?_, hc⟩, fun ⟨j', h1, h2, h3⟩ => ?_⟩
          · by_cases hij : i = j'
            · subst hij
              rw [ho] at hj'
              simp only [Option.some.injEq] at hj'
              subst hj'
              rw [hdn] at hd
              cases hd
            · rw [hdn, eval_put_other (by simp)]
              refine hS j' oj d hj' ?_ hd
              have : (j' == i) = false := by simp; omega
              simpa [this] using hl
          · by_cases hpi : p' = i
            · subst hpi
              have hjj : j' = j := (List.getElem?_inj (List.getElem?_eq_some_iff.1 hp').1 hnd).1 (hp'.trans hj.symm)
              subst hjj
              simp
            · have hne : j' ≠ j := fun e => hpi (by rw [e, hj] at hp'; exact (Option.some.inj hp').symm)
              have : (p' == i) = false := by simp [hpi]
              rw [this, Bool.or_false, hbp j' p' hp']
              omega
          · have : (j' == i) = false := by simp; omega
            rw [hno j' h1 h2, this] at h3
            cases h3
        · refine ⟨hst.1, Oper.wp_mono ?_ (hst.2.1 hip a b w1 hg hkk hdeps Q)⟩
          rintro a' w' ⟨rfl, hc⟩
          refine ⟨V i, rfl, hJJ.closed.step ho hwt, fun _ => ⟨fun j oj d hj hl hd => ?_, hkk' _, b, hbl, fun j' p' hp' => ?_, hc⟩, fun ⟨j, h1, h2, h3⟩ => ?_⟩
          · by_cases hij : i = j
            · subst hij
              rw [ho] at hj
              simp only [Option.some.injEq] at hj
              subst hj
              rw [hd, eval_put_same (by rw [hsz]; exact ((formB_spec hf ho).2 d hd).1)]
            · rw [eval_put_other (fun e => hij (formB_ne hf ho hj e hd))]
              refine hS j oj d hj ?_ hd
              have : (j == i) = false := by simp; omega
              simpa [this] using hl
          · have hpi : p' ≠ i := fun e => hip (e ▸ List.mem_of_getElem? hp')
            have : (p' == i) = false := by simp [hpi]
            rw [this, Bool.or_false]
            exact hbp j' p' hp'
          · have : (j == i) = false := by simp; omega
            rw [hno j h1 h2, this] at h3
            cases h3
      · have hall := tailsB_at hJJ.closed hlb ho (by omega) hwt
        obtain rfl : i = k := by
          rcases Nat.lt_or_ge k i with h | h
          · have := hall k h
            rw [hno k (Nat.le_refl _) (by omega)] at this
            cases this
          · omega
        have hbe : b = ps.length := by
          rcases Nat.lt_or_ge b ps.length with h | h
          · have := (hbp b _ (List.getElem?_eq_getElem h)).1 (hall _ (hpk _ (List.getElem_mem h)))
            omega
          · omega
        rw [hbe] at hg
        have hseq := hQ a w1 hsz hdf hkk (fun j o' d h1 h2 h3 => hS j o' d h2 (hall j h1) h3) hg
        rw [hdrop ho] at hseq
        refine ⟨hseq.1, Oper.wp_mono ?_ hseq.2⟩
        rintro a' w' ⟨v, rfl, hs⟩
        refine ⟨v, rfl, hJJ.closed.step ho hwt, fun h => ?_, fun _ => ⟨i + 1, by omega, by omega, fun j hj => ?_, fun j h1 h2 => ?_, hs⟩⟩
        · have := h i (by omega) hi
          simp at this
        · rcases Nat.lt_or_ge j i with h | h
          · simp [hall j h]
          · obtain rfl : j = i := by omega
            simp
        · have : (j == i) = false := by simp; omega
          simp [hno j (by omega) h2, this]
  · intro l a w1 hall hJJ _ _ _
    obtain ⟨m, hkm, hms, _, hnot, hseq⟩ := hJJ.right ⟨k, Nat.le_refl _, hk0, hall k hk0⟩
    obtain rfl : m = ops.size := by
      rcases Nat.lt_or_ge m ops.size with h | h
      · have := hnot m (Nat.le_refl _) h
        rw [hall m h] at this
        cases this
      · omega
    rw [List.drop_of_length_le (by simp)] at hseq
    exact hseq
#print axioms pivots_by
#print axioms cells_by
end Go.Proofs.Ytfjlkncliljjnaa
