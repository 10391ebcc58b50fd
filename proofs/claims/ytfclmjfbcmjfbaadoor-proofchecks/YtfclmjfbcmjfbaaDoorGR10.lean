/-
  Texts that ride together: Region6 Region9 Region10 Region12.
-/
import Derived.Test.YtfclmjfbcmjfbaaDoorGK
/-
  A region that draws its order, whose last operations wait for all ahead of them: one step an operation for those ahead, then one behind the other.
-/
namespace Go.Proofs.YtfclmjfbcmjfbaaDoor
open Go.RowKit
/-- One behind the other. -/
def wpSeq (P : Program) (Q : Exit → Act → World → Prop) : List Oper → Act → World → Prop
  | [], a, w => Q .normal a w
  | o :: r, a, w => o.guard = none ∧ o.wp P a w (fun a' w' => ∃ v, a' = a.put o.dst v ∧ wpSeq P Q r a' w') Q
/-- Does number i wait for number j, or for one that does? -/
def reachB (ops : Array Oper) : Nat → Nat → Nat → Bool
  | 0, _, _ => false
  | f + 1, i, j => match ops[i]? with
    | some o => o.after.any fun e => Region.binds .any e && (e.on == j || reachB ops f e.on j)
    | none => false
/-- Does each from number k on wait for all ahead of it? -/
def tailsB (ops : Array Oper) (k : Nat) : Bool := (List.range ops.size).all fun i => decide (i < k) || (List.range i).all fun j => reachB ops ops.size i j
/-- What is done has waited. -/
def Closed (ops : Array Oper) (l : Nat → Bool) : Prop := ∀ (i : Nat) (o : Oper), ops[i]? = some o → l i = true → waitsB o l = true
theorem waitsB_mem {o : Oper} {l : Nat → Bool} (h : waitsB o l = true) {e : Edge} (he : e ∈ o.after) (hb : Region.binds .any e = true) : l e.on = true := by
  have := (Array.all_eq_true_iff_forall_mem.1 h) e he
  simpa [hb] using this
theorem reach_done {ops : Array Oper} {l : Nat → Bool} (hc : Closed ops l) : ∀ (f i j : Nat) (o : Oper), ops[i]? = some o → waitsB o l = true → reachB ops f i j = true → l j = true
  | 0, _, _, _, _, _, h => by simp [reachB] at h
  | f + 1, i, j, o, ho, hw, h => by
    rw [reachB, ho] at h
    simp only [Array.any_eq_true', Bool.and_eq_true, Bool.or_eq_true, beq_iff_eq] at h
    obtain ⟨e, he, hb, h⟩ := h
    have hd := waitsB_mem hw he hb
    rcases h with rfl | h
    · exact hd
    · cases hq : ops[e.on]? with
      | none => cases f <;> simp [reachB, hq] at h
      | some o' => exact reach_done hc f e.on j o' hq (hc e.on o' hq hd) h
theorem tailsB_at {ops : Array Oper} {k i : Nat} {o : Oper} {l : Nat → Bool} (hc : Closed ops l) (h : tailsB ops k = true) (ho : ops[i]? = some o) (hk : k ≤ i) (hw : waitsB o l = true) : ∀ j, j < i → l j = true := by
  intro j hj
  have hi : i < ops.size := (Array.getElem?_eq_some_iff.1 ho).1
  have := (List.all_eq_true.1 h) i (by simpa using hi)
  simp only [Bool.or_eq_true, decide_eq_true_eq] at this
  rcases this with h1 | h1
  · omega
  · exact reach_done hc _ i j o ho hw ((List.all_eq_true.1 h1) j (by simpa using hj))
theorem Closed.step {ops : Array Oper} {l : Nat → Bool} (hc : Closed ops l) {i : Nat} {o : Oper} (ho : ops[i]? = some o) (hw : waitsB o l = true) : Closed ops (fun k => l k || k == i) := by
  have hmono : ∀ {o : Oper}, waitsB o l = true → waitsB o (fun k => l k || k == i) = true := fun h => waitsB_of fun e he hb => by
    simp [waitsB_mem h he hb]
  intro j oj hj hl
  by_cases hji : j = i
  · subst hji
    rw [ho] at hj
    cases hj
    exact hmono hw
  · have : (j == i) = false := by simp [hji]
    exact hmono (hc j oj hj (by simpa [this] using hl))
structure TJ (P : Program) (ops : Array Oper) (S : Nat → World → Value → Prop) (Q : Exit → Act → World → Prop) (k : Nat) (w0 : World) (l : Nat → Bool) (a : Act) (w : World) : Prop where
  closed : Closed ops l
  left : (∀ i, k ≤ i → i < ops.size → l i = false) → (∀ (i : Nat) (o : Oper) (d : Nat), ops[i]? = some o → l i = true → o.dst = some d → S i w (a.eval (.tmp d))) ∧ Gr w0 w
  right : (∃ i, k ≤ i ∧ i < ops.size ∧ l i = true) → ∃ m, k < m ∧ m ≤ ops.size ∧ (∀ i, i < m → l i = true) ∧ (∀ i, m ≤ i → i < ops.size → l i = false) ∧ wpSeq P Q (ops.toList.drop m) a w
theorem wp_region_tails {P : Program} {id : Nat} {ops : Array Oper} {Q : Exit → Act → World → Prop} {a0 : Act} {w : World} (hm : P.follows .mixedOrders = true) (S : Nat → World → Value → Prop)
    (n : Nat) (hn : a0.tmps.size = n) (hf : formB ops n = true) (k : Nat) (hk0 : k < ops.size) (hlb : tailsB ops k = true) (hmono : ∀ i w w' x, Gr w w' → S i w x → S i w' x)
    (hstep : AllFrom (fun i o => o.guard = none ∧ ∀ a w', Gr w w' → Kept ops a0 a → Deps ops S a w' o.after.toList → ∀ Q, o.wp P a w' (fun a' w'' => ∃ v, a' = a.put o.dst v ∧ S i w'' v ∧ Gr w' w'') Q) 0 (ops.toList.take k))
    (hQ : ∀ a w', a.tmps.size = a0.tmps.size → a.defers = a0.defers → Kept ops a0 a →
      (∀ (i : Nat) (o : Oper) (d : Nat), i < k → ops[i]? = some o → o.dst = some d → S i w' (a.eval (.tmp d))) → Gr w w' → wpSeq P Q (ops.toList.drop k) a w') : (Code.region id ops true).wp P Q a0 w := by
  subst hn
  have hdrop : ∀ {i : Nat} {o : Oper}, ops[i]? = some o → ops.toList.drop i = o :: ops.toList.drop (i + 1) := by
    intro i o ho
    have hi : i < ops.toList.length := by have := (Array.getElem?_eq_some_iff.1 ho).1; simpa using this
    rw [List.drop_eq_getElem_cons hi]
    congr 1
    have : ops.toList[i]? = some o := by simpa using ho
    rw [List.getElem?_eq_getElem hi] at this
    exact Option.some.inj this
  refine wp_region_J hm (TJ P ops S Q k w) a0.tmps.size rfl hf ?_ ?_ ?_
  · intro w' _ hg
    exact ⟨fun i o _ hl => by simp at hl, fun _ => ⟨fun i o d _ hl => by simp at hl, hg⟩, fun ⟨i, _, _, hl⟩ => by simp at hl⟩
  · intro i o ho l a w1 hJ hsz hdf hkp hli hwt
    have hi : i < ops.size := (Array.getElem?_eq_some_iff.1 ho).1
    by_cases hr : ∃ j, k ≤ j ∧ j < ops.size ∧ l j = true
    · obtain ⟨m, hkm, hms, hdone, hnot, hseq⟩ := hJ.right hr
      have him : m ≤ i := Nat.le_of_not_lt fun h => by rw [hdone i h] at hli; cases hli
      have hall := tailsB_at hJ.closed hlb ho (by omega) hwt
      obtain rfl : i = m := by
        rcases Nat.lt_or_ge m i with h | h
        · have := hall m h
          rw [hnot m (Nat.le_refl _) (by omega)] at this
          cases this
        · omega
      rw [hdrop ho] at hseq
      refine ⟨hseq.1, Oper.wp_mono ?_ hseq.2⟩
      rintro a' w' ⟨v, rfl, hs⟩
      refine ⟨v, rfl, hJ.closed.step ho hwt, fun h => ?_, fun _ => ⟨i + 1, by omega, by omega, fun j hj => ?_, fun j h1 h2 => ?_, hs⟩⟩
      · have := h i (by omega) hi
        simp at this
      · rcases Nat.lt_or_ge j i with h | h
        · simp [hdone j h]
        · obtain rfl : j = i := by omega
          simp
      · have : (j == i) = false := by simp; omega
        simp [hnot j (by omega) h2, this]
    · have hno : ∀ j, k ≤ j → j < ops.size → l j = false := fun j h1 h2 => by
        cases hl : l j with
        | false => rfl
        | true => exact absurd ⟨j, h1, h2, hl⟩ hr
      obtain ⟨hS, hg⟩ := hJ.left hno
      by_cases hik : i < k
      · have hst := AllFrom.at (i := i) hstep (by rw [List.getElem?_take_of_lt hik]; simpa using ho)
        rw [Nat.zero_add] at hst
        refine ⟨hst.1, Oper.wp_mono ?_ (hst.2 a w1 hg hkp (Deps.of fun e he hb o' ho' d' hd' => hS e.on o' d' ho' (waitsB_at hwt e.on (by
          rw [Array.any_eq_true']
          exact ⟨e, by simpa using he, by simp [hb]⟩)) hd') Q)⟩
        rintro a' w' ⟨v, rfl, hv, hgr⟩
        refine ⟨v, rfl, hJ.closed.step ho hwt, fun _ => ⟨fun j oj d hj hl hd => ?_, hg.trans hgr⟩, fun ⟨j, h1, h2, h3⟩ => ?_⟩
        · by_cases hij : i = j
          · subst hij
            rw [ho] at hj
            simp only [Option.some.injEq] at hj
            subst hj
            rw [hd, eval_put_same (by rw [hsz]; exact ((formB_spec hf ho).2 d hd).1)]
            exact hv
          · rw [eval_put_other (fun e => hij (formB_ne hf ho hj e hd))]
            refine hmono j w1 w' _ hgr (hS j oj d hj ?_ hd)
            have : (j == i) = false := by simp; omega
            simpa [this] using hl
        · have : (j == i) = false := by simp; omega
          rw [hno j h1 h2, this] at h3
          cases h3
      · have hall := tailsB_at hJ.closed hlb ho (by omega) hwt
        obtain rfl : i = k := by
          rcases Nat.lt_or_ge k i with h | h
          · have := hall k h
            rw [hno k (Nat.le_refl _) (by omega)] at this
            cases this
          · omega
        have hseq := hQ a w1 hsz hdf hkp (fun j o' d h1 h2 h3 => hS j o' d h2 (hall j h1) h3) hg
        rw [hdrop ho] at hseq
        refine ⟨hseq.1, Oper.wp_mono ?_ hseq.2⟩
        rintro a' w' ⟨v, rfl, hs⟩
        refine ⟨v, rfl, hJ.closed.step ho hwt, fun h => ?_, fun _ => ⟨i + 1, by omega, by omega, fun j hj => ?_, fun j h1 h2 => ?_, hs⟩⟩
        · have := h i (by omega) hi
          simp at this
        · rcases Nat.lt_or_ge j i with h | h
          · simp [hall j h]
          · obtain rfl : j = i := by omega
            simp
        · have : (j == i) = false := by simp; omega
          simp [hno j (by omega) h2, this]
  · intro l a w1 hall hJ _ _ _
    obtain ⟨m, hkm, hms, _, hnot, hseq⟩ := hJ.right ⟨k, Nat.le_refl _, hk0, hall k hk0⟩
    obtain rfl : m = ops.size := by
      rcases Nat.lt_or_ge m ops.size with h | h
      · have := hnot m (Nat.le_refl _) h
        rw [hall m h] at this
        cases this
      · omega
    rw [List.drop_of_length_le (by simp)] at hseq
    exact hseq
#print axioms wp_region_tails
end Go.Proofs.YtfclmjfbcmjfbaaDoor

/-
  A region that draws its order, whose last operations wait for all ahead of them, and write to what is read ahead of them: one step an operation for those ahead, then one behind the other.
-/
namespace Go.Proofs.YtfclmjfbcmjfbaaDoor
open Go.RowKit
/-- What no operation ahead of number k writes is as it was. -/
def KeptK (ops : Array Oper) (k : Nat) (a0 a : Act) : Prop := ∀ t : Nat, (∀ (i : Nat) (o : Oper), i < k → ops[i]? = some o → o.dst ≠ some t) → a.eval (.tmp t) = a0.eval (.tmp t)
def freeK (ops : Array Oper) (k t : Nat) : Bool := (ops.toList.take k).all fun o => o.dst != some t
theorem KeptK.at {ops : Array Oper} {k : Nat} {a0 a : Act} (h : KeptK ops k a0 a) (t : Nat) (hb : freeK ops k t = true) : a.eval (.tmp t) = a0.eval (.tmp t) :=
  h t fun i o hi ho => by
    have hm : o ∈ ops.toList.take k := List.mem_of_getElem? (i := i) (by rw [List.getElem?_take_of_lt hi]; simpa using ho)
    have := (List.all_eq_true.1 hb) o hm
    simpa using this
theorem KeptK.all {ops : Array Oper} {k : Nat} {a0 a : Act} (h : KeptK ops k a0 a) : Kept ops a0 a := fun t ht => h t (fun i o _ ho => ht i o ho)
structure TJ9 (P : Program) (ops : Array Oper) (S : Nat → World → Value → Prop) (Q : Exit → Act → World → Prop) (k : Nat) (a0 : Act) (w0 : World) (l : Nat → Bool) (a : Act) (w : World) : Prop where
  closed : Closed ops l
  left : (∀ i, k ≤ i → i < ops.size → l i = false) → (∀ (i : Nat) (o : Oper) (d : Nat), ops[i]? = some o → l i = true → o.dst = some d → S i w (a.eval (.tmp d))) ∧ Gr w0 w ∧ KeptK ops k a0 a
  right : (∃ i, k ≤ i ∧ i < ops.size ∧ l i = true) → ∃ m, k < m ∧ m ≤ ops.size ∧ (∀ i, i < m → l i = true) ∧ (∀ i, m ≤ i → i < ops.size → l i = false) ∧ wpSeq P Q (ops.toList.drop m) a w
theorem wp_region_tailsK {P : Program} {id : Nat} {ops : Array Oper} {Q : Exit → Act → World → Prop} {a0 : Act} {w : World} (hm : P.follows .mixedOrders = true) (S : Nat → World → Value → Prop)
    (n : Nat) (hn : a0.tmps.size = n) (hf : formB ops n = true) (k : Nat) (hk0 : k < ops.size) (hlb : tailsB ops k = true) (hmono : ∀ i w w' x, Gr w w' → S i w x → S i w' x)
    (hstep : AllFrom (fun i o => o.guard = none ∧ ∀ a w', Gr w w' → KeptK ops k a0 a → Deps ops S a w' o.after.toList → ∀ Q, o.wp P a w' (fun a' w'' => ∃ v, a' = a.put o.dst v ∧ S i w'' v ∧ Gr w' w'') Q) 0 (ops.toList.take k))
    (hQ : ∀ a w', a.tmps.size = a0.tmps.size → a.defers = a0.defers → KeptK ops k a0 a →
      (∀ (i : Nat) (o : Oper) (d : Nat), i < k → ops[i]? = some o → o.dst = some d → S i w' (a.eval (.tmp d))) → Gr w w' → wpSeq P Q (ops.toList.drop k) a w') : (Code.region id ops true).wp P Q a0 w := by
  subst hn
  have hdrop : ∀ {i : Nat} {o : Oper}, ops[i]? = some o → ops.toList.drop i = o :: ops.toList.drop (i + 1) := by
    intro i o ho
    have hi : i < ops.toList.length := by have := (Array.getElem?_eq_some_iff.1 ho).1; simpa using this
    rw [List.drop_eq_getElem_cons hi]
    congr 1
    have : ops.toList[i]? = some o := by simpa using ho
    rw [List.getElem?_eq_getElem hi] at this
    exact Option.some.inj this
  refine wp_region_J hm (TJ9 P ops S Q k a0 w) a0.tmps.size rfl hf ?_ ?_ ?_
  · intro w' _ hg
    exact ⟨fun i o _ hl => by simp at hl, fun _ => ⟨fun i o d _ hl => by simp at hl, hg, fun _ _ => rfl⟩, fun ⟨i, _, _, hl⟩ => by simp at hl⟩
  · intro i o ho l a w1 hJ hsz hdf hkp hli hwt
    have hi : i < ops.size := (Array.getElem?_eq_some_iff.1 ho).1
    by_cases hr : ∃ j, k ≤ j ∧ j < ops.size ∧ l j = true
    · obtain ⟨m, hkm, hms, hdone, hnot, hseq⟩ := hJ.right hr
      have him : m ≤ i := Nat.le_of_not_lt fun h => by rw [hdone i h] at hli; cases hli
      have hall := tailsB_at hJ.closed hlb ho (by omega) hwt
      obtain rfl : i = m := by
        rcases Nat.lt_or_ge m i with h | h
        · have := hall m h
          rw [hnot m (Nat.le_refl _) (by omega)] at this
          cases this
        · omega
      rw [hdrop ho] at hseq
      refine ⟨hseq.1, Oper.wp_mono ?_ hseq.2⟩
      rintro a' w' ⟨v, rfl, hs⟩
      refine ⟨v, rfl, hJ.closed.step ho hwt, fun h => ?_, fun _ => ⟨i + 1, by omega, by omega, fun j hj => ?_, fun j h1 h2 => ?_, hs⟩⟩
      · have := h i (by omega) hi
        simp at this
      · rcases Nat.lt_or_ge j i with h | h
        · simp [hdone j h]
        · obtain rfl : j = i := by omega
          simp
      · have : (j == i) = false := by simp; omega
        simp [hnot j (by omega) h2, this]
    · have hno : ∀ j, k ≤ j → j < ops.size → l j = false := fun j h1 h2 => by
        cases hl : l j with
        | false => rfl
        | true => exact absurd ⟨j, h1, h2, hl⟩ hr
      obtain ⟨hS, hg, hkk⟩ := hJ.left hno
      by_cases hik : i < k
      · have hst := AllFrom.at (i := i) hstep (by rw [List.getElem?_take_of_lt hik]; simpa using ho)
        rw [Nat.zero_add] at hst
        refine ⟨hst.1, Oper.wp_mono ?_ (hst.2 a w1 hg hkk (Deps.of fun e he hb o' ho' d' hd' => hS e.on o' d' ho' (waitsB_at hwt e.on (by
          rw [Array.any_eq_true']
          exact ⟨e, by simpa using he, by simp [hb]⟩)) hd') Q)⟩
        rintro a' w' ⟨v, rfl, hv, hgr⟩
        refine ⟨v, rfl, hJ.closed.step ho hwt, fun _ => ⟨fun j oj d hj hl hd => ?_, hg.trans hgr, fun t ht => (eval_put_other (fun e => ht i o hik ho e)).trans (hkk t ht)⟩, fun ⟨j, h1, h2, h3⟩ => ?_⟩
        · by_cases hij : i = j
          · subst hij
            rw [ho] at hj
            simp only [Option.some.injEq] at hj
            subst hj
            rw [hd, eval_put_same (by rw [hsz]; exact ((formB_spec hf ho).2 d hd).1)]
            exact hv
          · rw [eval_put_other (fun e => hij (formB_ne hf ho hj e hd))]
            refine hmono j w1 w' _ hgr (hS j oj d hj ?_ hd)
            have : (j == i) = false := by simp; omega
            simpa [this] using hl
        · have : (j == i) = false := by simp; omega
          rw [hno j h1 h2, this] at h3
          cases h3
      · have hall := tailsB_at hJ.closed hlb ho (by omega) hwt
        obtain rfl : i = k := by
          rcases Nat.lt_or_ge k i with h | h
          · have := hall k h
            rw [hno k (Nat.le_refl _) (by omega)] at this
            cases this
          · omega
        have hseq := hQ a w1 hsz hdf hkk (fun j o' d h1 h2 h3 => hS j o' d h2 (hall j h1) h3) hg
        rw [hdrop ho] at hseq
        refine ⟨hseq.1, Oper.wp_mono ?_ hseq.2⟩
        rintro a' w' ⟨v, rfl, hs⟩
        refine ⟨v, rfl, hJ.closed.step ho hwt, fun h => ?_, fun _ => ⟨i + 1, by omega, by omega, fun j hj => ?_, fun j h1 h2 => ?_, hs⟩⟩
        · have := h i (by omega) hi
          simp at this
        · rcases Nat.lt_or_ge j i with h | h
          · simp [hall j h]
          · obtain rfl : j = i := by omega
            simp
        · have : (j == i) = false := by simp; omega
          simp [hno j (by omega) h2, this]
  · intro l a w1 hall hJ _ _ _
    obtain ⟨m, hkm, hms, _, hnot, hseq⟩ := hJ.right ⟨k, Nat.le_refl _, hk0, hall k hk0⟩
    obtain rfl : m = ops.size := by
      rcases Nat.lt_or_ge m ops.size with h | h
      · have := hnot m (Nat.le_refl _) h
        rw [hall m h] at this
        cases this
      · omega
    rw [List.drop_of_length_le (by simp)] at hseq
    exact hseq
#print axioms wp_region_tailsK
end Go.Proofs.YtfclmjfbcmjfbaaDoor

/-
  A region that draws its order: one operation of it stores, at whatever time, what no other one reads; the last ones wait for all.
-/
namespace Go.Proofs.YtfclmjfbcmjfbaaDoor
open Go.RowKit
structure PJ10 (P : Program) (ops : Array Oper) (V : Nat → Value) (C : Bool → World → Prop) (Q : Exit → Act → World → Prop) (p k : Nat) (l : Nat → Bool) (a : Act) (w : World) : Prop where
  closed : Closed ops l
  left : (∀ i, k ≤ i → i < ops.size → l i = false) → (∀ (i : Nat) (o : Oper) (d : Nat), ops[i]? = some o → l i = true → o.dst = some d → a.eval (.tmp d) = V i) ∧ C (l p) w
  right : (∃ i, k ≤ i ∧ i < ops.size ∧ l i = true) → ∃ m, k < m ∧ m ≤ ops.size ∧ (∀ i, i < m → l i = true) ∧ (∀ i, m ≤ i → i < ops.size → l i = false) ∧ wpSeq P Q (ops.toList.drop m) a w
theorem wp_region_pivots {P : Program} {id : Nat} {ops : Array Oper} {Q : Exit → Act → World → Prop} {a0 : Act} {w : World} (hm : P.follows .mixedOrders = true) (V : Nat → Value) (C : Bool → World → Prop) (p : Nat)
    (n : Nat) (hn : a0.tmps.size = n) (hf : formB ops n = true) (k : Nat) (hk0 : k < ops.size) (hpk : p < k) (hlb : tailsB ops k = true) (h0 : ∀ w', w'.heap = w.heap → Gr w w' → C false w')
    (hstep : AllFrom (fun i o => o.guard = none ∧ (i ≠ p → ∀ a b w', C b w' → Kept ops a0 a → (∀ j d, depB ops o.after j d = true → a.eval (.tmp d) = V j) → (execOp a.eval o).run P w' = .ok (.value (V i)) w') ∧
      (i = p → o.dst = none ∧ ∀ a w', C false w' → Kept ops a0 a → (∀ j d, depB ops o.after j d = true → a.eval (.tmp d) = V j) → ∀ Q, o.wp P a w' (fun a' w'' => a' = a.put o.dst undef ∧ C true w'') Q)) 0 (ops.toList.take k))
    (hQ : ∀ a w', a.tmps.size = a0.tmps.size → a.defers = a0.defers → Kept ops a0 a →
      (∀ (i : Nat) (o : Oper) (d : Nat), i < k → ops[i]? = some o → o.dst = some d → a.eval (.tmp d) = V i) → C true w' → wpSeq P Q (ops.toList.drop k) a w') : (Code.region id ops true).wp P Q a0 w := by
  subst hn
  have hdrop : ∀ {i : Nat} {o : Oper}, ops[i]? = some o → ops.toList.drop i = o :: ops.toList.drop (i + 1) := by
    intro i o ho
    have hi : i < ops.toList.length := by have := (Array.getElem?_eq_some_iff.1 ho).1; simpa using this
    rw [List.drop_eq_getElem_cons hi]
    congr 1
    have : ops.toList[i]? = some o := by simpa using ho
    rw [List.getElem?_eq_getElem hi] at this
    exact Option.some.inj this
  refine wp_region_J hm (PJ10 P ops V C Q p k) a0.tmps.size rfl hf ?_ ?_ ?_
  · intro w' hh hg
    exact ⟨fun i o _ hl => by simp at hl, fun _ => ⟨fun i o d _ hl => by simp at hl, h0 w' hh hg⟩, fun ⟨i, _, _, hl⟩ => by simp at hl⟩
  · intro i o ho l a w1 hJ hsz hdf hkp hli hwt
    have hi : i < ops.size := (Array.getElem?_eq_some_iff.1 ho).1
    by_cases hr : ∃ j, k ≤ j ∧ j < ops.size ∧ l j = true
    · obtain ⟨m, hkm, hms, hdone, hnot, hseq⟩ := hJ.right hr
      have him : m ≤ i := Nat.le_of_not_lt fun h => by rw [hdone i h] at hli; cases hli
      have hall := tailsB_at hJ.closed hlb ho (by omega) hwt
      obtain rfl : i = m := by
        rcases Nat.lt_or_ge m i with h | h
        · have := hall m h
          rw [hnot m (Nat.le_refl _) (by omega)] at this
          cases this
        · omega
      rw [hdrop ho] at hseq
      refine ⟨hseq.1, Oper.wp_mono ?_ hseq.2⟩
      rintro a' w' ⟨v, rfl, hs⟩
      refine ⟨v, rfl, hJ.closed.step ho hwt, fun h => ?_, fun _ => ⟨i + 1, by omega, by omega, fun j hj => ?_, fun j h1 h2 => ?_, hs⟩⟩
      · have := h i (by omega) hi
        simp at this
      · rcases Nat.lt_or_ge j i with h | h
        · simp [hdone j h]
        · obtain rfl : j = i := by omega
          simp
      · have : (j == i) = false := by simp; omega
        simp [hnot j (by omega) h2, this]
    · have hno : ∀ j, k ≤ j → j < ops.size → l j = false := fun j h1 h2 => by
        cases hl : l j with
        | false => rfl
        | true => exact absurd ⟨j, h1, h2, hl⟩ hr
      obtain ⟨hS, hg⟩ := hJ.left hno
      by_cases hik : i < k
      · have hst := AllFrom.at (i := i) hstep (by rw [List.getElem?_take_of_lt hik]; simpa using ho)
        rw [Nat.zero_add] at hst
        have hdeps : ∀ j d, depB ops o.after j d = true → a.eval (.tmp d) = V j := by
          intro j d hdb
          unfold depB at hdb
          simp only [Bool.and_eq_true, beq_iff_eq] at hdb
          obtain ⟨h1, h2⟩ := hdb
          cases hoj : ops[j]? with
          | none => rw [hoj] at h2; cases h2
          | some oj =>
            rw [hoj] at h2
            exact hS j oj d hoj (waitsB_at hwt j h1) (by simpa using h2)
        by_cases hip : i = p
        · subst hip
          obtain ⟨hdn, hw⟩ := hst.2.2 rfl
          rw [hli] at hg
          refine ⟨hst.1, Oper.wp_mono ?_ (hw a w1 hg hkp hdeps Q)⟩
          rintro a' w' ⟨rfl, hc⟩
          refine ⟨undef, rfl, hJ.closed.step ho hwt, fun _ => ⟨fun j oj d hj hl hd => ?_, by simpa using hc⟩, fun ⟨j, h1, h2, h3⟩ => ?_⟩
          · by_cases hij : i = j
            · subst hij
              rw [ho] at hj
              simp only [Option.some.injEq] at hj
              subst hj
              rw [hdn] at hd
              cases hd
            · rw [hdn, eval_put_other (by simp)]
              refine hS j oj d hj ?_ hd
              have : (j == i) = false := by simp; omega
              simpa [this] using hl
          · have : (j == i) = false := by simp; omega
            rw [hno j h1 h2, this] at h3
            cases h3
        · have hrun := hst.2.1 hip a _ w1 hg hkp hdeps
          refine ⟨hst.1, ?_⟩
          unfold Oper.wp
          rw [hrun]
          have hpi : (p == i) = false := by simp; omega
          refine ⟨V i, rfl, hJ.closed.step ho hwt, fun _ => ⟨fun j oj d hj hl hd => ?_, by simpa [hpi] using hg⟩, fun ⟨j, h1, h2, h3⟩ => ?_⟩
          · by_cases hij : i = j
            · subst hij
              rw [ho] at hj
              simp only [Option.some.injEq] at hj
              subst hj
              rw [hd, eval_put_same (by rw [hsz]; exact ((formB_spec hf ho).2 d hd).1)]
            · rw [eval_put_other (fun e => hij (formB_ne hf ho hj e hd))]
              refine hS j oj d hj ?_ hd
              have : (j == i) = false := by simp; omega
              simpa [this] using hl
          · have : (j == i) = false := by simp; omega
            rw [hno j h1 h2, this] at h3
            cases h3
      · have hall := tailsB_at hJ.closed hlb ho (by omega) hwt
        obtain rfl : i = k := by
          rcases Nat.lt_or_ge k i with h | h
          · have := hall k h
            rw [hno k (Nat.le_refl _) (by omega)] at this
            cases this
          · omega
        rw [hall p hpk] at hg
        have hseq := hQ a w1 hsz hdf hkp (fun j o' d h1 h2 h3 => hS j o' d h2 (hall j h1) h3) hg
        rw [hdrop ho] at hseq
        refine ⟨hseq.1, Oper.wp_mono ?_ hseq.2⟩
        rintro a' w' ⟨v, rfl, hs⟩
        refine ⟨v, rfl, hJ.closed.step ho hwt, fun h => ?_, fun _ => ⟨i + 1, by omega, by omega, fun j hj => ?_, fun j h1 h2 => ?_, hs⟩⟩
        · have := h i (by omega) hi
          simp at this
        · rcases Nat.lt_or_ge j i with h | h
          · simp [hall j h]
          · obtain rfl : j = i := by omega
            simp
        · have : (j == i) = false := by simp; omega
          simp [hno j (by omega) h2, this]
  · intro l a w1 hall hJ _ _ _
    obtain ⟨m, hkm, hms, _, hnot, hseq⟩ := hJ.right ⟨k, Nat.le_refl _, hk0, hall k hk0⟩
    obtain rfl : m = ops.size := by
      rcases Nat.lt_or_ge m ops.size with h | h
      · have := hnot m (Nat.le_refl _) h
        rw [hall m h] at this
        cases this
      · omega
    rw [List.drop_of_length_le (by simp)] at hseq
    exact hseq
#print axioms wp_region_pivots
end Go.Proofs.YtfclmjfbcmjfbaaDoor

/-
  A region that draws its order, with guards, in which one operation writes to memory that is new since the region began.
-/
namespace Go.Proofs.YtfclmjfbcmjfbaaDoor
open Go.RowKit
/-- What an operation may lean on: what lies in new memory only where it stands ahead of z, or is z. -/
def afterZ (ops : Array Oper) (fr : Nat → Bool) (z i : Nat) (o : Oper) : Array Edge := if (i == z || reachB ops ops.size z i) = true then o.after else o.after.filter (fun e => !fr e.on)
structure RInvZ (ops : Array Oper) (S : Nat → World → Value → Prop) (fr : Nat → Bool) (z : Nat) (a0 : Act) (w0 : World) (listed : Array Bool) (a : Act) (w : World) : Prop where
  size : listed.size = ops.size
  tmps : a.tmps.size = a0.tmps.size
  defers : a.defers = a0.defers
  old : Kept ops a0 a
  closed : Closed ops (fun i => listed.getD i false)
  new : ∀ (i : Nat) (o : Oper) (d : Nat), ops[i]? = some o → listed[i]? = some true → o.dst = some d → (fr i = false ∨ listed.getD z false = false) → S i w (a.eval (.tmp d))
  grown : Gr w0 w
theorem reach_none {ops : Array Oper} {z i : Nat} (h : ops[z]? = none) : ∀ {f : Nat}, reachB ops f z i = false
  | 0 => rfl
  | f + 1 => by rw [reachB, h]
theorem wpAny_fresh {P : Program} {ops : Array Oper} {S : Nat → World → Value → Prop} {fr : Nat → Bool} {z : Nat} {a0 : Act} {w0 : World} {Q : Exit → Act → World → Prop}
    (hf : formB ops a0.tmps.size = true) (hmono : ∀ i w w' x, Gr w w' → S i w x → S i w' x) (hmonoZ : ∀ i, fr i = false → i ≠ z → ∀ w w' x, Below w0.heap.size w w' → S i w x → S i w' x)
    (hstep : AllFrom (fun i o => ∀ a w, Gr w0 w → Kept ops a0 a → Deps ops S a w (afterZ ops fr z i o).toList → (i = z → o.guard = none ∧ ∀ Q, o.wp P a w (fun a' w' => ∃ v, a' = a.put o.dst v ∧ S i w' v ∧ Below w0.heap.size w w') Q) ∧ (i ≠ z → StepOk P ops S i o a w)) 0 ops.toList)
    (hQ : ∀ a w, a.tmps.size = a0.tmps.size → a.defers = a0.defers → Kept ops a0 a →
      (∀ (i : Nat) (o : Oper) (d : Nat), ops[i]? = some o → o.dst = some d → fr i = false → S i w (a.eval (.tmp d))) → Gr w0 w → Q .normal a w) :
    ∀ (fuel : Nat) (listed : Array Bool) (a : Act) (w : World), listed.toList.countP (! ·) = fuel → RInvZ ops S fr z a0 w0 listed a w → wpAny P .any ops Q fuel listed a w := by
  have hend : ∀ (listed : Array Bool) (a : Act) (w : World), (∀ (i : Nat) (o : Oper), ops[i]? = some o → listed[i]? = some true) → RInvZ ops S fr z a0 w0 listed a w → Q .normal a w := fun listed a w hall hI =>
    hQ a w hI.tmps hI.defers hI.old (fun i o d ho hd hfr => hI.new i o d ho (hall i o ho) hd (.inl hfr)) hI.grown
  have hready : ∀ (listed : Array Bool) (a : Act) (w : World), RInvZ ops S fr z a0 w0 listed a w → Region.ready .any ops listed = [] → ∀ (i : Nat) (o : Oper), ops[i]? = some o → listed[i]? = some true := by
    intro listed a w hI hr i
    induction i using Nat.strongRecOn with
    | _ i ih =>
      intro o ho
      have hlt : i < ops.size := (Array.getElem?_eq_some_iff.1 ho).1
      cases hl : listed[i]? with
      | none => rw [Array.getElem?_eq_none_iff] at hl; have := hI.size; omega
      | some b =>
        cases b with
        | true => rfl
        | false =>
          exfalso
          have hm : i ∈ Region.ready .any ops listed := by
            rw [mem_ready]
            refine ⟨by simp [hl], o, ho, fun e he hbe => ?_⟩
            have hlt' := (formB_spec hf ho).1 e he hbe
            have hoe : ops[e.on]? = some ops[e.on] := Array.getElem?_eq_getElem (by omega)
            have := ih e.on hlt' _ hoe
            simp [this]
          rw [hr] at hm
          cases hm
  intro fuel
  induction fuel with
  | zero =>
    intro listed a w hc hI
    have hall : ∀ (i : Nat) (o : Oper), ops[i]? = some o → listed[i]? = some true := by
      intro i o ho
      have hlt : i < listed.size := by have := (Array.getElem?_eq_some_iff.1 ho).1; have := hI.size; omega
      rw [List.countP_eq_zero] at hc
      have := hc listed[i] (by simp)
      rw [Array.getElem?_eq_getElem hlt]
      simpa using this
    refine ⟨?_, hend listed a w hall hI⟩
    cases hr : Region.ready .any ops listed with
    | nil => rfl
    | cons i r =>
      have hm : i ∈ Region.ready .any ops listed := by rw [hr]; simp
      rw [mem_ready] at hm
      obtain ⟨h1, o, ho, _⟩ := hm
      have := hall i o ho
      simp [this] at h1
  | succ fuel ih =>
    intro listed a w hc hI
    refine ⟨fun hr => hend listed a w (hready listed a w hI hr) hI, fun i hi => ?_⟩
    have hm := hi
    rw [mem_ready] at hm
    obtain ⟨h1, o, ho, hall⟩ := hm
    have hlt : i < listed.size := by have := (Array.getElem?_eq_some_iff.1 ho).1; have := hI.size; omega
    have hfalse : listed[i] = false := by simpa [hlt] using h1
    have hgd : ∀ q, listed.getD q false = true ↔ listed[q]? = some true := fun q => by
      rw [Array.getD_eq_getD_getElem?]
      cases listed[q]? with
      | none => simp
      | some b => simp
    have hwt : waitsB o (fun q => listed.getD q false) = true := waitsB_of fun e he hb => by
      have := hall e he hb
      by_cases hlt' : e.on < listed.size
      · simpa [hlt'] using this
      · simp [hlt'] at this
    have hli : listed.getD i false = false := by simp [hlt, hfalse]
    have hzi : (i == z || reachB ops ops.size z i) = true → listed.getD z false = false := fun hr => by
      cases hz : listed.getD z false with
      | false => rfl
      | true =>
        exfalso
        rw [Bool.or_eq_true] at hr
        rcases hr with hr | hr
        · rw [beq_iff_eq.1 hr, hz] at hli
          cases hli
        · cases hoz : ops[z]? with
          | none => rw [reach_none hoz] at hr; cases hr
          | some oz =>
            have := reach_done hI.closed _ z i oz hoz (hI.closed z oz hoz hz) hr
            rw [hli] at this
            cases this
    have hdeps : Deps ops S a w (afterZ ops fr z i o).toList := Deps.of fun e he hb oj hj d hd => by
      have hm : e ∈ o.after ∧ (fr e.on = false ∨ listed.getD z false = false) := by
        unfold afterZ at he
        by_cases hr : (i == z || reachB ops ops.size z i) = true
        · rw [if_pos hr] at he
          exact ⟨by simpa using he, .inr (hzi hr)⟩
        · rw [if_neg hr] at he
          simp only [Array.toList_filter, List.mem_filter, Bool.not_eq_true'] at he
          exact ⟨by simpa using he.1, .inl he.2⟩
      have := hall e hm.1 hb
      refine hI.new e.on oj d hj ?_ hd hm.2
      have hlt' : e.on < listed.size := by have := (Array.getElem?_eq_some_iff.1 hj).1; have := hI.size; omega
      simpa [hlt'] using this
    have hs0 := AllFrom.at hstep (i := i) (o := o) (by simpa using ho)
    rw [Nat.zero_add] at hs0
    have hs := hs0 a w hI.grown hI.old hdeps
    have hcnt : (listed.setIfInBounds i true).toList.countP (! ·) = fuel := by
      rw [Array.toList_setIfInBounds, List.countP_set (by simpa using hlt)]
      simp [hfalse, hc]
    have hset : ∀ q, (listed.setIfInBounds i true).getD q false = (listed.getD q false || q == i) := fun q => by
      by_cases hqi : q = i
      · subst hqi; simp [hlt]
      · simp [Array.getD_eq_getD_getElem?, Array.getElem?_setIfInBounds_ne (fun e => hqi e.symm), hqi]
    have hclosed : Closed ops (fun q => (listed.setIfInBounds i true).getD q false) := by
      have := hI.closed.step ho hwt
      have e : (fun q => (listed.setIfInBounds i true).getD q false) = fun q => listed.getD q false || q == i := funext hset
      rw [e]
      exact this
    have hnext : ∀ v w', S i w' v → Gr w0 w' → (∀ (j : Nat) (x : Value), j ≠ i → (fr j = false ∨ (i ≠ z ∧ listed.getD z false = false)) → S j w x → S j w' x) → RInvZ ops S fr z a0 w0 (listed.setIfInBounds i true) (a.put o.dst v) w' := by
      intro v w' hv hgr hm
      refine ⟨by simpa using hI.size, put_size.trans hI.tmps, put_defers'.trans hI.defers, fun t ht => ?_, hclosed, fun j oj d hj hl hd hfr => ?_, hgr⟩
      · rw [eval_put_other (ht i o ho)]
        exact hI.old t ht
      · by_cases hij : i = j
        · subst hij
          rw [ho] at hj
          simp only [Option.some.injEq] at hj
          subst hj
          rw [hd, eval_put_same (by rw [hI.tmps]; exact ((formB_spec hf ho).2 d hd).1)]
          exact hv
        · rw [eval_put_other (fun e => hij (formB_ne hf ho hj e hd))]
          rw [hset] at hfr
          have hfr' : fr j = false ∨ (i ≠ z ∧ listed.getD z false = false) := by
            rcases hfr with h | h
            · exact .inl h
            · simp only [Bool.or_eq_false_iff, beq_eq_false_iff_ne] at h
              exact .inr ⟨fun e => h.2 e.symm, h.1⟩
          refine hm j _ (fun e => hij e.symm) hfr' (hI.new j oj d hj ?_ hd ?_)
          · rw [Array.getElem?_setIfInBounds_ne hij] at hl
            exact hl
          · rcases hfr' with h | h
            · exact .inl h
            · exact .inr h.2
    by_cases hiz : i = z
    · replace hs := hs.1 hiz
      unfold wpOp
      simp only [ho]
      have hw : Region.wanted o (yielded ops a.tmps) = true := by simp [Region.wanted, hs.1]
      rw [if_pos hw]
      refine .inl (Oper.wp_mono ?_ (hs.2 Q))
      rintro a' w' ⟨v, rfl, hv, hgr⟩
      refine ih _ _ _ hcnt (hnext v w' hv (Below.trans hI.grown hgr) (fun j x hj hfr hS => ?_))
      rcases hfr with h | h
      · exact hmonoZ j h (fun e => hj (e.trans hiz.symm)) w w' x hgr hS
      · exact absurd hiz h.1
    · replace hs := hs.2 hiz
      exact stepOk_wpOp ho hs fun v w' hv hg => ih _ _ _ hcnt (hnext v w' hv (hI.grown.trans hg) (fun j x _ _ hS => hmono j w w' x hg hS))
/-- **ONE OPERATION OF THE REGION WRITES TO WHAT IS NEW IN IT.** -/
theorem wp_region_fresh {P : Program} {id : Nat} {ops : Array Oper} {Q : Exit → Act → World → Prop} {a0 : Act} {w : World} (hm : P.follows .mixedOrders = true) (S : Nat → World → Value → Prop) (fr : Nat → Bool) (z : Nat)
    (n : Nat) (hn : a0.tmps.size = n) (hf : formB ops n = true) (hmono : ∀ i w w' x, Gr w w' → S i w x → S i w' x) (hmonoZ : ∀ i, fr i = false → i ≠ z → ∀ w1 w2 x, Below w.heap.size w1 w2 → S i w1 x → S i w2 x)
    (hstep : AllFrom (fun i o => ∀ a w', Gr w w' → Kept ops a0 a → Deps ops S a w' (afterZ ops fr z i o).toList → (i = z → o.guard = none ∧ ∀ Q, o.wp P a w' (fun a' w'' => ∃ v, a' = a.put o.dst v ∧ S i w'' v ∧ Below w.heap.size w' w'') Q) ∧ (i ≠ z → StepOk P ops S i o a w')) 0 ops.toList)
    (hQ : ∀ a w', a.tmps.size = a0.tmps.size → a.defers = a0.defers → Kept ops a0 a →
      (∀ (i : Nat) (o : Oper) (d : Nat), ops[i]? = some o → o.dst = some d → fr i = false → S i w' (a.eval (.tmp d))) → Gr w w' → Q .normal a w') : (Code.region id ops true).wp P Q a0 w := by
  subst hn
  have e0 : (fun i => (Array.replicate ops.size false).getD i false) = fun _ => false := by
    funext i
    by_cases hi : i < ops.size
    · simp [hi]
    · simp [hi]
  refine wp_region_any hm (wpAny_fresh hf hmono hmonoZ hstep hQ ops.size _ a0 _ ?_ ⟨by simp, rfl, rfl, fun _ _ => rfl, ?_, fun i o d ho hl _ _ => ?_, ?_⟩)
  · simp [List.countP_replicate]
  · rw [e0]
    intro i o _ h
    cases h
  · have hlt : i < ops.size := (Array.getElem?_eq_some_iff.1 ho).1
    simp [hlt] at hl
  · exact ⟨rfl, rfl, rfl, Nat.le_refl _, fun _ _ => rfl⟩
#print axioms wp_region_fresh
end Go.Proofs.YtfclmjfbcmjfbaaDoor
