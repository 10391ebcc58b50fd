/-
  A region that draws its order: one operation of it stores, at whatever time, what no other one reads; the last ones wait for all.
-/
import Derived.Test.YtfclmjfbcmjfbabDoorRegion6
namespace Go.Proofs.YtfclmjfbcmjfbabDoor
open Go.RowKit
structure PJ10 (P : Program) (ops : Array Oper) (V : Nat → Value) (C : Bool → World → Prop) (Q : Exit → Act → World → Prop) (p k : Nat) (l : Nat → Bool) (a : Act) (w : World) : Prop where
  closed : Closed ops l
  left : (∀ i, k ≤ i → i < ops.size → l i = false) → (∀ (i : Nat) (o : Oper) (d : Nat), ops[i]? = some o → l i = true → o.dst = some d → a.eval (.tmp d) = V i) ∧ C (l p) w
  right : (∃ i, k ≤ i ∧ i < ops.size ∧ l i = true) → ∃ m, k < m ∧ m ≤ ops.size ∧ (∀ i, i < m → l i = true) ∧ (∀ i, m ≤ i → i < ops.size → l i = false) ∧ wpSeq P Q (ops.toList.drop m) a w
theorem wp_region_pivots {P : Program} {id : Nat} {ops : Array Oper} {Q : Exit → Act → World → Prop} {a0 : Act} {w : World} (hm : P.follows .mixedOrders = true) (V : Nat → Value) (C : Bool → World → Prop) (p : Nat)
    (n : Nat) (hn : a0.tmps.size = n) (hf : formB ops n = true) (k : Nat) (hk0 : k < ops.size) (hpk : p < k) (hlb : tailsB ops k = true) (h0 : ∀ w', w'.heap = w.heap → Gr w w' → C false w')
    (hstep : AllFrom (fun i o => o.guard = none ∧ (i ≠ p → ∀ a b w', C b w' → Kept ops a0 a → (∀ j d, depB ops o.after j d = true → a.eval (.tmp d) = V j) → (execOp a.eval o).run P w' = .ok (.value (V i)) w') ∧
      (i = p → o.dst = none ∧ ∀ a w', C false w' → Kept ops a0 a → (∀ j d, depB ops o.after j d = true → a.eval (.tmp d) = V j) → ∀ Q, o.wp P a w' (fun a' w'' => a' = a.put o.dst undef ∧ C true w'') Q)) 0 (ops.toList.take k))
    (hQ : ∀ a w', a.tmps.size = a0.tmps.size → a.defers = a0.defers → Kept ops a0 a →
      (∀ (i : Nat) (o : Oper) (d : Nat), i < k → ops[i]? = some o → o.dst = some d → a.eval (.tmp d) = V i) → C true w' → wpSeq P Q (ops.toList.drop k) a w') : (Code.region id ops true).wp P Q a0 w := by
  subst hn
  have hdrop : ∀ {i : Nat} {o : Oper}, ops[i]? = some o → ops.toList.drop i = o :: ops.toList.drop (i + 1) := by
    intro i o ho
    have hi : i < ops.toList.length := by have := (Array.getElem?_eq_some_iff.1 ho).1; simpa using this
    rw [List.drop_eq_getElem_cons hi]
    congr 1
    have : ops.toList[i]? = some o := by simpa using ho
    rw [List.getElem?_eq_getElem hi] at this
    exact Option.some.inj this
  refine wp_region_J hm (PJ10 P ops V C Q p k) a0.tmps.size rfl hf ?_ ?_ ?_
  · intro w' hh hg
    exact ⟨fun i o _ hl => by simp at hl, fun _ => ⟨fun i o d _ hl => by simp at hl, h0 w' hh hg⟩, fun ⟨i, _, _, hl⟩ => by simp at hl⟩
  · intro i o ho l a w1 hJ hsz hdf hkp hli hwt
    have hi : i < ops.size := (Array.getElem?_eq_some_iff.1 ho).1
    by_cases hr : ∃ j, k ≤ j ∧ j < ops.size ∧ l j = true
    · obtain ⟨m, hkm, hms, hdone, hnot, hseq⟩ := hJ.right hr
      have him : m ≤ i := Nat.le_of_not_lt fun h => by rw [hdone i h] at hli; cases hli
      have hall := tailsB_at hJ.closed hlb ho (by omega) hwt
      obtain rfl : i = m := by
        rcases Nat.lt_or_ge m i with h | h
        · have := hall m h
          rw [hnot m (Nat.le_refl _) (by omega)] at this
          cases this
        · omega
      rw [hdrop ho] at hseq
      refine ⟨hseq.1, Oper.wp_mono ?_ hseq.2⟩
      rintro a' w' ⟨v, rfl, hs⟩
      refine ⟨v, rfl, hJ.closed.step ho hwt, fun h => ?_, fun _ => ⟨i + 1, by omega, by omega, fun j hj => ?_, fun j h1 h2 => ?_, hs⟩⟩
      · have := h i (by omega) hi
        simp at this
      · rcases Nat.lt_or_ge j i with h | h
        · simp [hdone j h]
        · obtain rfl : j = i := by omega
          simp
      · have : (j == i) = false := by simp; omega
        simp [hnot j (by omega) h2, this]
    · have hno : ∀ j, k ≤ j → j < ops.size → l j = false := fun j h1 h2 => by
        cases hl : l j with
        | false => rfl
        | true => exact absurd ⟨j, h1, h2, hl⟩ hr
      obtain ⟨hS, hg⟩ := hJ.left hno
      by_cases hik : i < k
      · have hst := AllFrom.at (i := i) hstep (by rw [List.getElem?_take_of_lt hik]; simpa using ho)
        rw [Nat.zero_add] at hst
        have hdeps : ∀ j d, depB ops o.after j d = true → a.eval (.tmp d) = V j := by
          intro j d hdb
          unfold depB at hdb
          simp only [Bool.and_eq_true, beq_iff_eq] at hdb
          obtain ⟨h1, h2⟩ := hdb
          cases hoj : ops[j]? with
          | none => rw [hoj] at h2; cases h2
          | some oj =>
            rw [hoj] at h2
            exact hS j oj d hoj (waitsB_at hwt j h1) (by simpa using h2)
        by_cases hip : i = p
        · subst hip
          obtain ⟨hdn, hw⟩ := hst.2.2 rfl
          rw [hli] at hg
          refine ⟨hst.1, Oper.wp_mono ?_ (hw a w1 hg hkp hdeps Q)⟩
          rintro a' w' ⟨rfl, hc⟩
          refine ⟨undef, rfl, hJ.closed.step ho hwt, fun _ => ⟨fun j oj d hj hl hd => ?_, by simpa using hc⟩, fun ⟨j, h1, h2, h3⟩ => ?_⟩
          · by_cases hij : i = j
            · subst hij
              rw [ho] at hj
              simp only [Option.some.injEq] at hj
              subst hj
              rw [hdn] at hd
              cases hd
            · rw [hdn, eval_put_other (by simp)]
              refine hS j oj d hj ?_ hd
              have : (j == i) = false := by simp; omega
              simpa [this] using hl
          · have : (j == i) = false := by simp; omega
            rw [hno j h1 h2, this] at h3
            cases h3
        · have hrun := hst.2.1 hip a _ w1 hg hkp hdeps
          refine ⟨hst.1, ?_⟩
          unfold Oper.wp
          rw [hrun]
          have hpi : (p == i) = false := by simp; omega
          refine ⟨V i, rfl, hJ.closed.step ho hwt, fun _ => ⟨fun j oj d hj hl hd => ?_, by simpa [hpi] using hg⟩, fun ⟨j, h1, h2, h3⟩ => ?_⟩
          · by_cases hij : i = j
            · subst hij
              rw [ho] at hj
              simp only [Option.some.injEq] at hj
              subst hj
              rw [hd, eval_put_same (by rw [hsz]; exact ((formB_spec hf ho).2 d hd).1)]
            · rw [eval_put_other (fun e => hij (formB_ne hf ho hj e hd))]
              refine hS j oj d hj ?_ hd
              have : (j == i) = false := by simp; omega
              simpa [this] using hl
          · have : (j == i) = false := by simp; omega
            rw [hno j h1 h2, this] at h3
            cases h3
      · have hall := tailsB_at hJ.closed hlb ho (by omega) hwt
        obtain rfl : i = k := by
          rcases Nat.lt_or_ge k i with h | h
          · have := hall k h
            rw [hno k (Nat.le_refl _) (by omega)] at this
            cases this
          · omega
        rw [hall p hpk] at hg
        have hseq := hQ a w1 hsz hdf hkp (fun j o' d h1 h2 h3 => hS j o' d h2 (hall j h1) h3) hg
        rw [hdrop ho] at hseq
        refine ⟨hseq.1, Oper.wp_mono ?_ hseq.2⟩
        rintro a' w' ⟨v, rfl, hs⟩
        refine ⟨v, rfl, hJ.closed.step ho hwt, fun h => ?_, fun _ => ⟨i + 1, by omega, by omega, fun j hj => ?_, fun j h1 h2 => ?_, hs⟩⟩
        · have := h i (by omega) hi
          simp at this
        · rcases Nat.lt_or_ge j i with h | h
          · simp [hall j h]
          · obtain rfl : j = i := by omega
            simp
        · have : (j == i) = false := by simp; omega
          simp [hno j (by omega) h2, this]
  · intro l a w1 hall hJ _ _ _
    obtain ⟨m, hkm, hms, _, hnot, hseq⟩ := hJ.right ⟨k, Nat.le_refl _, hk0, hall k hk0⟩
    obtain rfl : m = ops.size := by
      rcases Nat.lt_or_ge m ops.size with h | h
      · have := hnot m (Nat.le_refl _) h
        rw [hall m h] at this
        cases this
      · omega
    rw [List.drop_of_length_le (by simp)] at hseq
    exact hseq
#print axioms wp_region_pivots
end Go.Proofs.YtfclmjfbcmjfbabDoor
