/-
  A region that draws its order, whose last operations wait for all ahead of them: one step an operation for those ahead, then one behind the other.
-/
import Derived.Test.YtmicmbjbclkbjaaPuts
namespace Go.Proofs.Ytmicmbjbclkbjaa
open Go.RowKit
/-- One behind the other. -/
def wpSeq (P : Program) (Q : Exit → Act → World → Prop) : List Oper → Act → World → Prop
  | [], a, w => Q .normal a w
  | o :: r, a, w => o.guard = none ∧ o.wp P a w (fun a' w' => ∃ v, a' = a.put o.dst v ∧ wpSeq P Q r a' w') Q
/-- Does number i wait for number j, or for one that does? -/
def reachB (ops : Array Oper) : Nat → Nat → Nat → Bool
  | 0, _, _ => false
  | f + 1, i, j => match ops[i]? with
    | some o => o.after.any fun e => Region.binds .any e && (e.on == j || reachB ops f e.on j)
    | none => false
/-- Does each from number k on wait for all ahead of it? -/
def tailsB (ops : Array Oper) (k : Nat) : Bool := (List.range ops.size).all fun i => decide (i < k) || (List.range i).all fun j => reachB ops ops.size i j
/-- What is done has waited. -/
def Closed (ops : Array Oper) (l : Nat → Bool) : Prop := ∀ (i : Nat) (o : Oper), ops[i]? = some o → l i = true → waitsB o l = true
theorem waitsB_mem {o : Oper} {l : Nat → Bool} (h : waitsB o l = true) {e : Edge} (he : e ∈ o.after) (hb : Region.binds .any e = true) : l e.on = true := by
  have := (Array.all_eq_true_iff_forall_mem.1 h) e he
  simpa [hb] using this
theorem reach_done {ops : Array Oper} {l : Nat → Bool} (hc : Closed ops l) : ∀ (f i j : Nat) (o : Oper), ops[i]? = some o → waitsB o l = true → reachB ops f i j = true → l j = true
  | 0, _, _, _, _, _, h => by simp [reachB] at h
  | f + 1, i, j, o, ho, hw, h => by
    rw [reachB, ho] at h
    simp only [Array.any_eq_true', Bool.and_eq_true, Bool.or_eq_true, beq_iff_eq] at h
    obtain ⟨e, he, hb, h⟩ := h
    have hd := waitsB_mem hw he hb
    rcases h with rfl | h
    · exact hd
    · cases hq : ops[e.on]? with
      | none => cases f <;> simp [reachB, hq] at h
      | some o' => exact reach_done hc f e.on j o' hq (hc e.on o' hq hd) h
theorem tailsB_at {ops : Array Oper} {k i : Nat} {o : Oper} {l : Nat → Bool} (hc : Closed ops l) (h : tailsB ops k = true) (ho : ops[i]? = some o) (hk : k ≤ i) (hw : waitsB o l = true) : ∀ j, j < i → l j = true := by
  intro j hj
  have hi : i < ops.size := (Array.getElem?_eq_some_iff.1 ho).1
  have := (List.all_eq_true.1 h) i (by simpa using hi)
  simp only [Bool.or_eq_true, decide_eq_true_eq] at this
  rcases this with h1 | h1
  · omega
  · exact reach_done hc _ i j o ho hw ((List.all_eq_true.1 h1) j (by simpa using hj))
theorem Closed.step {ops : Array Oper} {l : Nat → Bool} (hc : Closed ops l) {i : Nat} {o : Oper} (ho : ops[i]? = some o) (hw : waitsB o l = true) : Closed ops (fun k => l k || k == i) := by
  have hmono : ∀ {o : Oper}, waitsB o l = true → waitsB o (fun k => l k || k == i) = true := fun h => waitsB_of fun e he hb => by
    simp [waitsB_mem h he hb]
  intro j oj hj hl
  by_cases hji : j = i
  · subst hji
    rw [ho] at hj
    cases hj
    exact hmono hw
  · have : (j == i) = false := by simp [hji]
    exact hmono (hc j oj hj (by simpa [this] using hl))
structure TJ (P : Program) (ops : Array Oper) (S : Nat → World → Value → Prop) (Q : Exit → Act → World → Prop) (k : Nat) (w0 : World) (l : Nat → Bool) (a : Act) (w : World) : Prop where
  closed : Closed ops l
  left : (∀ i, k ≤ i → i < ops.size → l i = false) → (∀ (i : Nat) (o : Oper) (d : Nat), ops[i]? = some o → l i = true → o.dst = some d → S i w (a.eval (.tmp d))) ∧ Gr w0 w
  right : (∃ i, k ≤ i ∧ i < ops.size ∧ l i = true) → ∃ m, k < m ∧ m ≤ ops.size ∧ (∀ i, i < m → l i = true) ∧ (∀ i, m ≤ i → i < ops.size → l i = false) ∧ wpSeq P Q (ops.toList.drop m) a w
theorem wp_region_tails {P : Program} {id : Nat} {ops : Array Oper} {Q : Exit → Act → World → Prop} {a0 : Act} {w : World} (hm : P.follows .mixedOrders = true) (S : Nat → World → Value → Prop)
    (n : Nat) (hn : a0.tmps.size = n) (hf : formB ops n = true) (k : Nat) (hk0 : k < ops.size) (hlb : tailsB ops k = true) (hmono : ∀ i w w' x, Gr w w' → S i w x → S i w' x)
    (hstep : AllFrom (fun i o => o.guard = none ∧ ∀ a w', Gr w w' → Kept ops a0 a → Deps ops S a w' o.after.toList → ∀ Q, o.wp P a w' (fun a' w'' => ∃ v, a' = a.put o.dst v ∧ S i w'' v ∧ Gr w' w'') Q) 0 (ops.toList.take k))
    (hQ : ∀ a w', a.tmps.size = a0.tmps.size → a.defers = a0.defers → Kept ops a0 a →
      (∀ (i : Nat) (o : Oper) (d : Nat), i < k → ops[i]? = some o → o.dst = some d → S i w' (a.eval (.tmp d))) → Gr w w' → wpSeq P Q (ops.toList.drop k) a w') : (Code.region id ops true).wp P Q a0 w := by
  subst hn
  have hdrop : ∀ {i : Nat} {o : Oper}, ops[i]? = some o → ops.toList.drop i = o :: ops.toList.drop (i + 1) := by
    intro i o ho
    have hi : i < ops.toList.length := by have := (Array.getElem?_eq_some_iff.1 ho).1; simpa using this
    rw [List.drop_eq_getElem_cons hi]
    congr 1
    have : ops.toList[i]? = some o := by simpa using ho
    rw [List.getElem?_eq_getElem hi] at this
    exact Option.some.inj this
  refine wp_region_J hm (TJ P ops S Q k w) a0.tmps.size rfl hf ?_ ?_ ?_
  · intro w' _ hg
    exact ⟨fun i o _ hl => by simp at hl, fun _ => ⟨fun i o d _ hl => by simp at hl, hg⟩, fun ⟨i, _, _, hl⟩ => by simp at hl⟩
  · intro i o ho l a w1 hJ hsz hdf hkp hli hwt
    have hi : i < ops.size := (Array.getElem?_eq_some_iff.1 ho).1
    by_cases hr : ∃ j, k ≤ j ∧ j < ops.size ∧ l j = true
    · obtain ⟨m, hkm, hms, hdone, hnot, hseq⟩ := hJ.right hr
      have him : m ≤ i := Nat.le_of_not_lt fun h => by rw [hdone i h] at hli; cases hli
      have hall := tailsB_at hJ.closed hlb ho (by omega) hwt
      obtain rfl : i = m := by
        rcases Nat.lt_or_ge m i with h | h
        · have := hall m h
          rw [hnot m (Nat.le_refl _) (by omega)] at this
          cases this
        · omega
      rw [hdrop ho] at hseq
      refine ⟨hseq.1, Oper.wp_mono ?_ hseq.2⟩
      rintro a' w' ⟨v, rfl, hs⟩
      refine ⟨v, rfl, hJ.closed.step ho hwt, fun h => ?_, fun _ => ⟨i + 1, by omega, by omega, fun j hj => ?_, fun j h1 h2 => ?_, hs⟩⟩
      · have := h i (by omega) hi
        simp at this
      · rcases Nat.lt_or_ge j i with h | h
        · simp [hdone j h]
        · obtain rfl : j = i := by omega
          simp
      · have : (j == i) = false := by simp; omega
        simp [hnot j (by omega) h2, this]
    · have hno : ∀ j, k ≤ j → j < ops.size → l j = false := fun j h1 h2 => by
        cases hl : l j with
        | false => rfl
        | true => exact absurd ⟨j, h1, h2, hl⟩ hr
      obtain ⟨hS, hg⟩ := hJ.left hno
      by_cases hik : i < k
      · have hst := AllFrom.at (i := i) hstep (by rw [List.getElem?_take_of_lt hik]; simpa using ho)
        rw [Nat.zero_add] at hst
        refine ⟨hst.1, Oper.wp_mono ?_ (hst.2 a w1 hg hkp (Deps.of fun e he hb o' ho' d' hd' => hS e.on o' d' ho' (waitsB_at hwt e.on (by
          rw [Array.any_eq_true']
          exact ⟨e, by simpa using he, by simp [hb]⟩)) hd') Q)⟩
        rintro a' w' ⟨v, rfl, hv, hgr⟩
        refine ⟨v, rfl, hJ.closed.step ho hwt, fun _ => ⟨fun j oj d hj hl hd => ?_, hg.trans hgr⟩, fun ⟨j, h1, h2, h3⟩ => ?_⟩
        · by_cases hij : i = j
          · subst hij
            rw [ho] at hj
            simp only [Option.some.injEq] at hj
            subst hj
            rw [hd, eval_put_same (by rw [hsz]; exact ((formB_spec hf ho).2 d hd).1)]
            exact hv
          · rw [eval_put_other (fun e => hij (formB_ne hf ho hj e hd))]
            refine hmono j w1 w' _ hgr (hS j oj d hj ?_ hd)
            have : (j == i) = false := by simp; omega
            simpa [this] using hl
        · have : (j == i) = false := by simp; omega
          rw [hno j h1 h2, this] at h3
          cases h3
      · have hall := tailsB_at hJ.closed hlb ho (by omega) hwt
        obtain rfl : i = k := by
          rcases Nat.lt_or_ge k i with h | h
          · have := hall k h
            rw [hno k (Nat.le_refl _) (by omega)] at this
            cases this
          · omega
        have hseq := hQ a w1 hsz hdf hkp (fun j o' d h1 h2 h3 => hS j o' d h2 (hall j h1) h3) hg
        rw [hdrop ho] at hseq
        refine ⟨hseq.1, Oper.wp_mono ?_ hseq.2⟩
        rintro a' w' ⟨v, rfl, hs⟩
        refine ⟨v, rfl, hJ.closed.step ho hwt, fun h => ?_, fun _ => ⟨i + 1, by omega, by omega, fun j hj => ?_, fun j h1 h2 => ?_, hs⟩⟩
        · have := h i (by omega) hi
          simp at this
        · rcases Nat.lt_or_ge j i with h | h
          · simp [hall j h]
          · obtain rfl : j = i := by omega
            simp
        · have : (j == i) = false := by simp; omega
          simp [hno j (by omega) h2, this]
  · intro l a w1 hall hJ _ _ _
    obtain ⟨m, hkm, hms, _, hnot, hseq⟩ := hJ.right ⟨k, Nat.le_refl _, hk0, hall k hk0⟩
    obtain rfl : m = ops.size := by
      rcases Nat.lt_or_ge m ops.size with h | h
      · have := hnot m (Nat.le_refl _) h
        rw [hall m h] at this
        cases this
      · omega
    rw [List.drop_of_length_le (by simp)] at hseq
    exact hseq
#print axioms wp_region_tails
end Go.Proofs.Ytmicmbjbclkbjaa
