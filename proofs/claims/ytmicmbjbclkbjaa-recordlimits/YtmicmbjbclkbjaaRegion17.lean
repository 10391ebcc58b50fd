/-
  A region that draws its order, where some calls change the world one behind the other, and the last operations wait for all.
-/
import Derived.Test.YtmicmbjbclkbjaaRegion14
import Derived.Test.YtmicmbjbclkbjaaGen9
namespace Go.Proofs.Ytmicmbjbclkbjaa
open Go.RowKit
/-- Does each of them wait for the one ahead of it? -/
def chainB (ops : Array Oper) : List Nat → Bool
  | p :: q :: r => (match ops[q]? with | some o => o.after.any (fun e => Region.binds .any e && e.on == p) | none => false) && chainB ops (q :: r)
  | _ => true
theorem chain_at {ops : Array Oper} : ∀ {ps : List Nat} (_ : chainB ops ps = true) {j p q : Nat} (_ : ps[j]? = some p) (_ : ps[j + 1]? = some q) {o : Oper} (_ : ops[q]? = some o) {l : Nat → Bool} (_ : waitsB o l = true), l p = true
  | x :: y :: r, h, 0, p, q, hp, hq, o, ho, l, hw => by
    simp only [List.getElem?_cons_zero, Option.some.injEq] at hp
    simp only [Nat.zero_add, List.getElem?_cons_succ, List.getElem?_cons_zero, Option.some.injEq] at hq
    subst hp hq
    unfold chainB at h
    rw [Bool.and_eq_true, ho] at h
    exact waitsB_at hw x h.1
  | x :: y :: r, h, j + 1, p, q, hp, hq, o, ho, l, hw => by
    unfold chainB at h
    rw [Bool.and_eq_true] at h
    exact chain_at h.2 (j := j) (by simpa using hp) (by simpa using hq) ho hw
  | [x], h, j, p, q, hp, hq, o, ho, l, hw => by simp at hq
  | [], h, j, p, q, hp, hq, o, ho, l, hw => by simp at hp
structure CJR (P : Program) (ops : Array Oper) (S : Nat → World → Value → Prop) (C : Nat → World → Prop) (Q : Exit → Act → World → Prop) (ps : List Nat) (k : Nat) (l : Nat → Bool) (a : Act) (w : World) : Prop where
  closed : Closed ops l
  left : (∀ i, k ≤ i → i < ops.size → l i = false) → (∀ (i : Nat) (o : Oper) (d : Nat), ops[i]? = some o → l i = true → o.dst = some d → S i w (a.eval (.tmp d))) ∧ ∃ b, b ≤ ps.length ∧ (∀ (j p : Nat), ps[j]? = some p → (l p = true ↔ j < b)) ∧ C b w
  right : (∃ i, k ≤ i ∧ i < ops.size ∧ l i = true) → ∃ m, k < m ∧ m ≤ ops.size ∧ (∀ i, i < m → l i = true) ∧ (∀ i, m ≤ i → i < ops.size → l i = false) ∧ wpSeq P Q (ops.toList.drop m) a w
/-- **CALLS THAT CHANGE THE WORLD ONE BEHIND THE OTHER, IN A REGION THAT DRAWS ITS ORDER**: C b is the world behind b of them; what is known of a value stays known where R leads. -/
theorem wp_region_chainR {R : World → World → Prop} {P : Program} {id : Nat} {ops : Array Oper} {Q : Exit → Act → World → Prop} {a0 : Act} {w : World} (hm : P.follows .mixedOrders = true) (S : Nat → World → Value → Prop) (C : Nat → World → Prop) (ps : List Nat)
    (n : Nat) (hn : a0.tmps.size = n) (hf : formB ops n = true) (k : Nat) (hk0 : k < ops.size) (hpk : ∀ p ∈ ps, p < k) (hnd : ps.Nodup) (hch : chainB ops ps = true) (hlb : tailsB ops k = true)
    (hmono : ∀ i w w' x, Gr w w' → S i w x → S i w' x) (hmonoR : ∀ i, ps.getLast? ≠ some i → ∀ w w' x, R w w' → S i w x → S i w' x) (hC : ∀ b w w', Gr w w' → C b w → C b w') (h0 : C 0 w)
    (hstep : AllFrom (fun i o => o.guard = none ∧
      (i ∉ ps → ∀ a b w', C b w' → Kept ops a0 a → Deps ops S a w' o.after.toList → ∀ Q, o.wp P a w' (fun a' w'' => ∃ v, a' = a.put o.dst v ∧ S i w'' v ∧ Gr w' w'') Q) ∧
      (∀ j, ps[j]? = some i → ∀ a w', C j w' → Kept ops a0 a → Deps ops S a w' o.after.toList → ∀ Q, o.wp P a w' (fun a' w'' => ∃ v, a' = a.put o.dst v ∧ S i w'' v ∧ R w' w'' ∧ C (j + 1) w'') Q)) 0 (ops.toList.take k))
    (hQ : ∀ a w', a.tmps.size = a0.tmps.size → a.defers = a0.defers → Kept ops a0 a →
      (∀ (i : Nat) (o : Oper) (d : Nat), i < k → ops[i]? = some o → o.dst = some d → S i w' (a.eval (.tmp d))) → C ps.length w' → wpSeq P Q (ops.toList.drop k) a w') : (Code.region id ops true).wp P Q a0 w := by
  subst hn
  have hdrop : ∀ {i : Nat} {o : Oper}, ops[i]? = some o → ops.toList.drop i = o :: ops.toList.drop (i + 1) := by
    intro i o ho
    have hi : i < ops.toList.length := by have := (Array.getElem?_eq_some_iff.1 ho).1; simpa using this
    rw [List.drop_eq_getElem_cons hi]
    congr 1
    have : ops.toList[i]? = some o := by simpa using ho
    rw [List.getElem?_eq_getElem hi] at this
    exact Option.some.inj this
  refine wp_region_J hm (CJR P ops S C Q ps k) a0.tmps.size rfl hf ?_ ?_ ?_
  · intro w' _ hg
    exact ⟨fun i o _ hl => by simp at hl, fun _ => ⟨fun i o d _ hl => by simp at hl, 0, Nat.zero_le _, fun j p _ => by simp, hC 0 _ _ hg h0⟩, fun ⟨i, _, _, hl⟩ => by simp at hl⟩
  · intro i o ho l a w1 hJJ hsz hdf hkp hli hwt
    have hi : i < ops.size := (Array.getElem?_eq_some_iff.1 ho).1
    by_cases hr : ∃ j, k ≤ j ∧ j < ops.size ∧ l j = true
    · obtain ⟨m, hkm, hms, hdone, hnot, hseq⟩ := hJJ.right hr
      have him : m ≤ i := Nat.le_of_not_lt fun h => by rw [hdone i h] at hli; cases hli
      have hall := tailsB_at hJJ.closed hlb ho (by omega) hwt
      obtain rfl : i = m := by
        rcases Nat.lt_or_ge m i with h | h
        · have := hall m h
          rw [hnot m (Nat.le_refl _) (by omega)] at this
          cases this
        · omega
      rw [hdrop ho] at hseq
      refine ⟨hseq.1, Oper.wp_mono ?_ hseq.2⟩
      rintro a' w' ⟨v, rfl, hs⟩
      refine ⟨v, rfl, hJJ.closed.step ho hwt, fun h => ?_, fun _ => ⟨i + 1, by omega, by omega, fun j hj => ?_, fun j h1 h2 => ?_, hs⟩⟩
      · have := h i (by omega) hi
        simp at this
      · rcases Nat.lt_or_ge j i with h | h
        · simp [hdone j h]
        · obtain rfl : j = i := by omega
          simp
      · have : (j == i) = false := by simp; omega
        simp [hnot j (by omega) h2, this]
    · have hno : ∀ j, k ≤ j → j < ops.size → l j = false := fun j h1 h2 => by
        cases hl : l j with
        | false => rfl
        | true => exact absurd ⟨j, h1, h2, hl⟩ hr
      obtain ⟨hS, b, hbl, hbp, hg⟩ := hJJ.left hno
      by_cases hik : i < k
      · have hst := AllFrom.at (i := i) hstep (by rw [List.getElem?_take_of_lt hik]; simpa using ho)
        rw [Nat.zero_add] at hst
        have hdeps : Deps ops S a w1 o.after.toList := Deps.of fun e he hb o' ho' d' hd' => hS e.on o' d' ho' (waitsB_at hwt e.on (by
          rw [Array.any_eq_true']
          exact ⟨e, by simpa using he, by simp [hb]⟩)) hd'
        have hnew : ∀ {v : Value} {w2 : World}, (∀ (j : Nat), l j = true → ∀ x, S j w1 x → S j w2 x) → S i w2 v → ∀ (j : Nat) (oj : Oper) (d : Nat), ops[j]? = some oj → (l j || j == i) = true → oj.dst = some d → S j w2 ((a.put o.dst v).eval (.tmp d)) := by
          intro v w2 hR2 hv j oj d hj hl hd
          by_cases hij : i = j
          · subst hij
            rw [ho] at hj
            simp only [Option.some.injEq] at hj
            subst hj
            rw [hd, eval_put_same (by rw [hsz]; exact ((formB_spec hf ho).2 d hd).1)]
            exact hv
          · rw [eval_put_other (fun e => hij (formB_ne hf ho hj e hd))]
            have : (j == i) = false := by simp; omega
            have hl' : l j = true := by simpa [this] using hl
            exact hR2 j hl' _ (hS j oj d hj hl' hd)
        have hright : ¬ ∃ j, k ≤ j ∧ j < ops.size ∧ (l j || j == i) = true := by
          rintro ⟨j, h1, h2, h3⟩
          have : (j == i) = false := by simp; omega
          rw [hno j h1 h2, this] at h3
          cases h3
        by_cases hip : i ∈ ps
        · obtain ⟨j, hj⟩ := List.getElem?_of_mem hip
          have hw := hst.2.2 j hj
          have hjb : j = b := by
            have h1 : ¬ j < b := fun h => by rw [(hbp j i hj).2 h] at hli; cases hli
            have h2 : ¬ b < j := fun h => by
              obtain ⟨m, rfl⟩ : ∃ m, j = m + 1 := ⟨j - 1, by omega⟩
              have hlt : m < ps.length := by have := (List.getElem?_eq_some_iff.1 hj).1; omega
              have hm := chain_at hch (List.getElem?_eq_getElem hlt) hj ho hwt
              have := (hbp m _ (List.getElem?_eq_getElem hlt)).1 hm
              omega
            omega
          subst hjb
          refine ⟨hst.1, Oper.wp_mono ?_ (hw a w1 hg hkp hdeps Q)⟩
          rintro a' w' ⟨v, rfl, hv, hR2, hc⟩
          refine ⟨v, rfl, hJJ.closed.step ho hwt, fun _ => ⟨hnew (fun q hq x hx => hmonoR q (fun e => by
            have hlt : j < ps.length := (List.getElem?_eq_some_iff.1 hj).1
            rw [List.getLast?_eq_getElem?] at e
            have := (hbp _ q e).1 hq
            omega) _ _ x hR2 hx) hv, j + 1, (List.getElem?_eq_some_iff.1 hj).1, fun j' p' hp' => ?_, hc⟩, fun h => absurd h hright⟩
          by_cases hpi : p' = i
          · subst hpi
            have hjj : j' = j := (List.getElem?_inj (List.getElem?_eq_some_iff.1 hp').1 hnd).1 (hp'.trans hj.symm)
            subst hjj
            simp
          · have hne : j' ≠ j := fun e => hpi (by rw [e, hj] at hp'; exact (Option.some.inj hp').symm)
            have : (p' == i) = false := by simp [hpi]
            rw [this, Bool.or_false, hbp j' p' hp']
            omega
        · refine ⟨hst.1, Oper.wp_mono ?_ (hst.2.1 hip a b w1 hg hkp hdeps Q)⟩
          rintro a' w' ⟨v, rfl, hv, hgr⟩
          refine ⟨v, rfl, hJJ.closed.step ho hwt, fun _ => ⟨hnew (fun q _ x hx => hmono q _ _ x hgr hx) hv, b, hbl, fun j' p' hp' => ?_, hC b _ _ hgr hg⟩, fun h => absurd h hright⟩
          have hpi : p' ≠ i := fun e => hip (e ▸ List.mem_of_getElem? hp')
          have : (p' == i) = false := by simp [hpi]
          rw [this, Bool.or_false]
          exact hbp j' p' hp'
      · have hall := tailsB_at hJJ.closed hlb ho (by omega) hwt
        obtain rfl : i = k := by
          rcases Nat.lt_or_ge k i with h | h
          · have := hall k h
            rw [hno k (Nat.le_refl _) (by omega)] at this
            cases this
          · omega
        have hbe : b = ps.length := by
          rcases Nat.lt_or_ge b ps.length with h | h
          · have := (hbp b _ (List.getElem?_eq_getElem h)).1 (hall _ (hpk _ (List.getElem_mem h)))
            omega
          · omega
        subst hbe
        have hseq := hQ a w1 hsz hdf hkp (fun j o' d h1 h2 h3 => hS j o' d h2 (hall j h1) h3) hg
        rw [hdrop ho] at hseq
        refine ⟨hseq.1, Oper.wp_mono ?_ hseq.2⟩
        rintro a' w' ⟨v, rfl, hs⟩
        refine ⟨v, rfl, hJJ.closed.step ho hwt, fun h => ?_, fun _ => ⟨i + 1, by omega, by omega, fun j hj => ?_, fun j h1 h2 => ?_, hs⟩⟩
        · have := h i (by omega) hi
          simp at this
        · rcases Nat.lt_or_ge j i with h | h
          · simp [hall j h]
          · obtain rfl : j = i := by omega
            simp
        · have : (j == i) = false := by simp; omega
          simp [hno j (by omega) h2, this]
  · intro l a w1 hall hJ _ _ _
    obtain ⟨m, hkm, hms, _, hnot, hseq⟩ := hJ.right ⟨k, Nat.le_refl _, hk0, hall k hk0⟩
    obtain rfl : m = ops.size := by
      rcases Nat.lt_or_ge m ops.size with h | h
      · have := hnot m (Nat.le_refl _) h
        rw [hall m h] at this
        cases this
      · omega
    rw [List.drop_of_length_le (by simp)] at hseq
    exact hseq
theorem pvR_no {ps : List Nat} {i : Nat} (h : ¬ i ∈ ps) (j : Nat) : ps[j]? = some i → False := fun hj => h (List.mem_of_getElem? hj)
theorem pvR_at {ps : List Nat} {i j m : Nat} (hnd : ps.Nodup) (hm : ps[m]? = some i) (hj : ps[j]? = some i) : j = m := (List.getElem?_inj (List.getElem?_eq_some_iff.1 hj).1 hnd).1 (hj.trans hm.symm)
/-- What may change, as a relation. -/
theorem relChg (F : Nat → Prop) : RelOk (Chg F) := ⟨Chg.refl F, fun h k => h.trans k, fun h => Chg.of_below h⟩
#print axioms wp_region_chainR
/-- What is known of a value: it stays so in a grown world; where b is set, also where R leads. -/
structure KnC (R : World → World → Prop) where
  p : World → Value → Prop
  h : ∀ w w' x, Gr w w' → p w x → p w' x
  b : Bool
  r : b = true → ∀ w w' x, R w w' → p w x → p w' x
section
variable {R : World → World → Prop}
def KnC.val (v : Value) : KnC R := ⟨fun _ x => x = v, fun _ _ _ _ h => h, true, fun _ _ _ _ _ h => h⟩
def KnC.of (hR : RelOk R) (p : World → Value → Prop) (h : ∀ w w' x, R w w' → p w x → p w' x) : KnC R := ⟨p, fun w w' x hg => h w w' x (hR.grown hg), true, fun _ => h⟩
def KnC.last (p : World → Value → Prop) (h : ∀ w w' x, Gr w w' → p w x → p w' x) : KnC R := ⟨p, h, false, fun h => by cases h⟩
def KnC.free : KnC R := ⟨fun _ _ => True, fun _ _ _ _ _ => trivial, true, fun _ _ _ _ _ _ => trivial⟩
def KC (F : Nat → KnC R) : Nat → World → Value → Prop := fun i w x => (F i).p w x
theorem KC_mono (F : Nat → KnC R) : ∀ i w w' x, Gr w w' → KC F i w x → KC F i w' x := fun i w w' x hg h => (F i).h w w' x hg h
theorem KC_monoR {F : Nat → KnC R} {ps : List Nat} (hb : ∀ i, ps.getLast? ≠ some i → (F i).b = true) : ∀ i, ps.getLast? ≠ some i → ∀ w w' x, R w w' → KC F i w x → KC F i w' x := fun i hi w w' x hg h => (F i).r (hb i hi) w w' x hg h
theorem KC_val {F : Nat → KnC R} {i : Nat} {w : World} {x v : Value} (h : KC F i w x) (hl : F i = .val v) : x = v := by
  unfold KC at h; rw [hl] at h; exact h
theorem KC_of {hR : RelOk R} {F : Nat → KnC R} {i : Nat} {w : World} {x : Value} {p : World → Value → Prop} {hp : ∀ w w' x, R w w' → p w x → p w' x} (h : KC F i w x) (hl : F i = .of hR p hp) : p w x := by
  unfold KC at h; rw [hl] at h; exact h
theorem KC_last {F : Nat → KnC R} {i : Nat} {w : World} {x : Value} {p : World → Value → Prop} {hp : ∀ w w' x, Gr w w' → p w x → p w' x} (h : KC F i w x) (hl : F i = .last p hp) : p w x := by
  unfold KC at h; rw [hl] at h; exact h
theorem KC_mkv {F : Nat → KnC R} {i : Nat} {w : World} {x v : Value} (hl : F i = .val v) (h : x = v) : KC F i w x := by
  unfold KC; rw [hl]; exact h
theorem KC_mko {hR : RelOk R} {F : Nat → KnC R} {i : Nat} {w : World} {x : Value} {p : World → Value → Prop} {hp : ∀ w w' x, R w w' → p w x → p w' x} (hl : F i = .of hR p hp) (h : p w x) : KC F i w x := by
  unfold KC; rw [hl]; exact h
theorem KC_mkl {F : Nat → KnC R} {i : Nat} {w : World} {x : Value} {p : World → Value → Prop} {hp : ∀ w w' x, Gr w w' → p w x → p w' x} (hl : F i = .last p hp) (h : p w x) : KC F i w x := by
  unfold KC; rw [hl]; exact h
theorem KC_mkf {F : Nat → KnC R} {i : Nat} {w : World} {x : Value} (hl : F i = .free) : KC F i w x := by
  unfold KC; rw [hl]; trivial
end
end Go.Proofs.Ytmicmbjbclkbjaa
