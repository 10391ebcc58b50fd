/-
  A region that draws its order, whose last operations wait for all ahead of them, and where one of those ahead writes to old memory.
-/
import Derived.Test.YtcicekggeampcaaGG
namespace Go.Proofs.Ytcicekggeampcaa
open Go.RowKit
structure TJZ (P : Program) (ops : Array Oper) (S S' : Nat → World → Value → Prop) (C : World → Prop) (Q : Exit → Act → World → Prop) (k z : Nat) (w0 : World) (l : Nat → Bool) (a : Act) (w : World) : Prop where
  closed : Closed ops l
  left : (∀ i, k ≤ i → i < ops.size → l i = false) → (l z = false → (∀ (i : Nat) (o : Oper) (d : Nat), ops[i]? = some o → l i = true → o.dst = some d → S i w (a.eval (.tmp d))) ∧ Gr w0 w) ∧
    (l z = true → (∀ (i : Nat) (o : Oper) (d : Nat), ops[i]? = some o → l i = true → o.dst = some d → S' i w (a.eval (.tmp d))) ∧ C w)
  right : (∃ i, k ≤ i ∧ i < ops.size ∧ l i = true) → ∃ m, k < m ∧ m ≤ ops.size ∧ (∀ i, i < m → l i = true) ∧ (∀ i, m ≤ i → i < ops.size → l i = false) ∧ wpSeq P Q (ops.toList.drop m) a w
theorem wp_region_tailsZ {P : Program} {id : Nat} {ops : Array Oper} {Q : Exit → Act → World → Prop} {a0 : Act} {w : World} (hm : P.follows .mixedOrders = true) (S S' : Nat → World → Value → Prop) (C : World → Prop) (z : Nat)
    (n : Nat) (hn : a0.tmps.size = n) (hf : formB ops n = true) (k : Nat) (hk0 : k < ops.size) (hzk : z < k) (hlb : tailsB ops k = true) (hmono : ∀ i w w' x, Gr w w' → S i w x → S i w' x) (hmono' : ∀ i w w' x, Gr w w' → S' i w x → S' i w' x)
    (hC : ∀ w w', Gr w w' → C w → C w') (hconv : ∀ j, j ≠ z → ∀ w w' x, S j w x → S' j w' x)
    (hstep : AllFrom (fun i o => o.guard = none ∧
      (i ≠ z → ∀ a w', Gr w w' → Kept ops a0 a → Deps ops S a w' o.after.toList → ∀ Q, o.wp P a w' (fun a' w'' => ∃ v, a' = a.put o.dst v ∧ S i w'' v ∧ Gr w' w'') Q) ∧
      (i ≠ z → reachB ops ops.size z i = false → ∀ a w', C w' → Kept ops a0 a → Deps ops S' a w' o.after.toList → ∀ Q, o.wp P a w' (fun a' w'' => ∃ v, a' = a.put o.dst v ∧ S' i w'' v ∧ Gr w' w'') Q) ∧
      (i = z → ∀ a w', Gr w w' → Kept ops a0 a → Deps ops S a w' o.after.toList → ∀ Q, o.wp P a w' (fun a' w'' => ∃ v, a' = a.put o.dst v ∧ S' z w'' v ∧ C w'') Q)) 0 (ops.toList.take k))
    (hQ : ∀ a w', a.tmps.size = a0.tmps.size → a.defers = a0.defers → Kept ops a0 a →
      (∀ (i : Nat) (o : Oper) (d : Nat), i < k → ops[i]? = some o → o.dst = some d → S' i w' (a.eval (.tmp d))) → C w' → wpSeq P Q (ops.toList.drop k) a w') : (Code.region id ops true).wp P Q a0 w := by
  subst hn
  have hdrop : ∀ {i : Nat} {o : Oper}, ops[i]? = some o → ops.toList.drop i = o :: ops.toList.drop (i + 1) := by
    intro i o ho
    have hi : i < ops.toList.length := by have := (Array.getElem?_eq_some_iff.1 ho).1; simpa using this
    rw [List.drop_eq_getElem_cons hi]
    congr 1
    have : ops.toList[i]? = some o := by simpa using ho
    rw [List.getElem?_eq_getElem hi] at this
    exact Option.some.inj this
  refine wp_region_J hm (TJZ P ops S S' C Q k z w) a0.tmps.size rfl hf ?_ ?_ ?_
  · intro w' _ hg
    exact ⟨fun i o _ hl => by simp at hl, fun _ => ⟨fun _ => ⟨fun i o d _ hl => by simp at hl, hg⟩, fun h => by cases h⟩, fun ⟨i, _, _, hl⟩ => by simp at hl⟩
  · intro i o ho l a w1 hJ hsz hdf hkp hli hwt
    have hi : i < ops.size := (Array.getElem?_eq_some_iff.1 ho).1
    by_cases hr : ∃ j, k ≤ j ∧ j < ops.size ∧ l j = true
    · obtain ⟨m, hkm, hms, hdone, hnot, hseq⟩ := hJ.right hr
      have him : m ≤ i := Nat.le_of_not_lt fun h => by rw [hdone i h] at hli; cases hli
      have hall := tailsB_at hJ.closed hlb ho (by omega) hwt
      obtain rfl : i = m := by
        rcases Nat.lt_or_ge m i with h | h
        · have := hall m h
          rw [hnot m (Nat.le_refl _) (by omega)] at this
          cases this
        · omega
      rw [hdrop ho] at hseq
      refine ⟨hseq.1, Oper.wp_mono ?_ hseq.2⟩
      rintro a' w' ⟨v, rfl, hs⟩
      refine ⟨v, rfl, hJ.closed.step ho hwt, fun h => ?_, fun _ => ⟨i + 1, by omega, by omega, fun j hj => ?_, fun j h1 h2 => ?_, hs⟩⟩
      · have := h i (by omega) hi
        simp at this
      · rcases Nat.lt_or_ge j i with h | h
        · simp [hdone j h]
        · obtain rfl : j = i := by omega
          simp
      · have : (j == i) = false := by simp; omega
        simp [hnot j (by omega) h2, this]
    · have hno : ∀ j, k ≤ j → j < ops.size → l j = false := fun j h1 h2 => by
        cases hl : l j with
        | false => rfl
        | true => exact absurd ⟨j, h1, h2, hl⟩ hr
      have hleft := hJ.left hno
      by_cases hik : i < k
      · have hst := AllFrom.at (i := i) hstep (by rw [List.getElem?_take_of_lt hik]; simpa using ho)
        rw [Nat.zero_add] at hst
        obtain ⟨hgd, hs1, hs2, hs3⟩ := hst
        have hright : ¬ ∃ j, k ≤ j ∧ j < ops.size ∧ (l j || j == i) = true := by
          rintro ⟨j, h1, h2, h3⟩
          have : (j == i) = false := by simp; omega
          rw [hno j h1 h2, this] at h3
          cases h3
        have hput : ∀ {S0 : Nat → World → Value → Prop} {v : Value} {w2 : World}, (∀ (j : Nat) (oj : Oper) (d : Nat), j ≠ i → ops[j]? = some oj → l j = true → oj.dst = some d → S0 j w2 (a.eval (.tmp d))) → S0 i w2 v →
            ∀ (j : Nat) (oj : Oper) (d : Nat), ops[j]? = some oj → (l j || j == i) = true → oj.dst = some d → S0 j w2 ((a.put o.dst v).eval (.tmp d)) := by
          intro S0 v w2 hS hv j oj d hj hl hd
          by_cases hij : i = j
          · subst hij
            rw [ho] at hj
            simp only [Option.some.injEq] at hj
            subst hj
            rw [hd, eval_put_same (by rw [hsz]; exact ((formB_spec hf ho).2 d hd).1)]
            exact hv
          · rw [eval_put_other (fun e => hij (formB_ne hf ho hj e hd))]
            have : (j == i) = false := by simp; omega
            exact hS j oj d (fun e => hij e.symm) hj (by simpa [this] using hl) hd
        have hdep : ∀ {S0 : Nat → World → Value → Prop}, (∀ (j : Nat) (oj : Oper) (d : Nat), ops[j]? = some oj → l j = true → oj.dst = some d → S0 j w1 (a.eval (.tmp d))) → Deps ops S0 a w1 o.after.toList := fun hS => Deps.of fun e he hb o' ho' d' hd' => hS e.on o' d' ho' (waitsB_at hwt e.on (by
          rw [Array.any_eq_true']
          exact ⟨e, by simpa using he, by simp [hb]⟩)) hd'
        refine ⟨hgd, ?_⟩
        by_cases hiz : i = z
        · subst hiz
          obtain ⟨hS, hg⟩ := hleft.1 hli
          refine Oper.wp_mono ?_ (hs3 rfl a w1 hg hkp (hdep hS) Q)
          rintro a' w' ⟨v, rfl, hv, hc⟩
          refine ⟨v, rfl, hJ.closed.step ho hwt, fun _ => ⟨fun h => by simp at h, fun _ => ⟨hput (fun j oj d hji hj hl hd => hconv j hji _ _ _ (hS j oj d hj hl hd)) hv, hc⟩⟩, fun h => absurd h hright⟩
        · have hzi : (z == i) = false := by simp; omega
          cases hlz : l z with
          | false =>
            obtain ⟨hS, hg⟩ := hleft.1 hlz
            refine Oper.wp_mono ?_ (hs1 hiz a w1 hg hkp (hdep hS) Q)
            rintro a' w' ⟨v, rfl, hv, hgr⟩
            refine ⟨v, rfl, hJ.closed.step ho hwt, fun _ => ⟨fun _ => ⟨hput (fun j oj d hji hj hl hd => hmono j _ _ _ hgr (hS j oj d hj hl hd)) hv, hg.trans hgr⟩, fun h => by rw [hlz, hzi] at h; cases h⟩, fun h => absurd h hright⟩
          | true =>
            obtain ⟨hS, hc⟩ := hleft.2 hlz
            have hrz : reachB ops ops.size z i = false := by
              cases hrb : reachB ops ops.size z i with
              | false => rfl
              | true =>
                exfalso
                have hoz : ops[z]? = some ops[z] := Array.getElem?_eq_getElem (by omega)
                have := reach_done hJ.closed _ z i ops[z] hoz (hJ.closed z _ hoz hlz) hrb
                rw [hli] at this
                cases this
            refine Oper.wp_mono ?_ (hs2 hiz hrz a w1 hc hkp (hdep hS) Q)
            rintro a' w' ⟨v, rfl, hv, hgr⟩
            refine ⟨v, rfl, hJ.closed.step ho hwt, fun _ => ⟨fun h => (by rw [hlz] at h; cases h), fun _ => ⟨hput (fun j oj d hji hj hl hd => hmono' j _ _ _ hgr (hS j oj d hj hl hd)) hv, hC _ _ hgr hc⟩⟩, fun h => absurd h hright⟩
      · have hall := tailsB_at hJ.closed hlb ho (by omega) hwt
        obtain rfl : i = k := by
          rcases Nat.lt_or_ge k i with h | h
          · have := hall k h
            rw [hno k (Nat.le_refl _) (by omega)] at this
            cases this
          · omega
        obtain ⟨hS, hc⟩ := hleft.2 (hall z hzk)
        have hseq := hQ a w1 hsz hdf hkp (fun j o' d h1 h2 h3 => hS j o' d h2 (hall j h1) h3) hc
        rw [hdrop ho] at hseq
        refine ⟨hseq.1, Oper.wp_mono ?_ hseq.2⟩
        rintro a' w' ⟨v, rfl, hs⟩
        refine ⟨v, rfl, hJ.closed.step ho hwt, fun h => ?_, fun _ => ⟨i + 1, by omega, by omega, fun j hj => ?_, fun j h1 h2 => ?_, hs⟩⟩
        · have := h i (by omega) hi
          simp at this
        · rcases Nat.lt_or_ge j i with h | h
          · simp [hall j h]
          · obtain rfl : j = i := by omega
            simp
        · have : (j == i) = false := by simp; omega
          simp [hno j (by omega) h2, this]
  · intro l a w1 hall hJ _ _ _
    obtain ⟨m, hkm, hms, _, hnot, hseq⟩ := hJ.right ⟨k, Nat.le_refl _, hk0, hall k hk0⟩
    obtain rfl : m = ops.size := by
      rcases Nat.lt_or_ge m ops.size with h | h
      · have := hnot m (Nat.le_refl _) h
        rw [hall m h] at this
        cases this
      · omega
    rw [List.drop_of_length_le (by simp)] at hseq
    exact hseq
#print axioms wp_region_tailsZ
end Go.Proofs.Ytcicekggeampcaa
