/-
  What package disk keeps of a disk, held against a plain disk.
-/
import Derived.Test.YtnkcjhfdmnpckaaDiskX
namespace Go.Proofs.Ytnkcjhfdmnpckaa
open Go.RowKit
open Pd (spl spl_length spl_get clip clip_le DM)
/-- Sector k of bytes. -/
def sec (l : List UInt8) (k : Nat) : List UInt8 := (l.drop (32 * k)).take 32
theorem sec_get (l : List UInt8) (k j : Nat) (hj : j < 32) : (sec l k)[j]? = l[32 * k + j]? := by
  unfold sec
  rw [List.getElem?_take_of_lt hj, List.getElem?_drop]
theorem sec_len {l : List UInt8} {n k : Nat} (h : l.length = 32 * n) (hk : k < n) : (sec l k).length = 32 := by
  unfold sec
  rw [List.length_take, List.length_drop]
  omega
/-- The same disk. -/
structure Rel (n : Nat) (s : St) (m : DM) : Prop where
  on : s.on = !m.off
  safe : s.safe = m.safe
  order : s.order = m.dirty
  f : ∀ k : Nat, s.f k = if k ∈ m.dirty then some (sec m.now k) else none
  ops : s.ops = m.armed
  arms : m.armed ≠ 0 → s.keep = m.keep ∧ s.torn = m.torn
  ok : Pd.Ok n m
  dark : Pd.Dark m
  small : m.armed ≤ 9223372036854775807
theorem settle1_f (s : St) (q k : Int) : (settle1 s q).f k = if k = q then none else s.f k := by
  unfold settle1
  cases hf : s.f q with
  | some l => rfl
  | none =>
    by_cases e : k = q
    · rw [if_pos e, e]; exact hf
    · rw [if_neg e]
theorem settleS_f (k : Int) : ∀ (l : List Int) (s : St), (settleS s l).f k = if k ∈ l then none else s.f k
  | [], s => by simp [settleS]
  | q :: r, s => by
    rw [settleS, settleS_f k r, settle1_f]
    by_cases h1 : k ∈ r
    · rw [if_pos h1, if_pos (by simp [h1])]
    · rw [if_neg h1]
      by_cases h2 : k = q
      · rw [if_pos h2, if_pos (by simp [h2])]
      · rw [if_neg h2, if_neg (by simp [h1, h2])]
/-- Each key is a sector, each element one. -/
def Full (n : Nat) (s : St) : Prop := s.safe.length = 32 * n ∧ ∀ (k : Int) l, s.f k = some l → ∃ j : Nat, k = (j : Int) ∧ j < n ∧ l.length = 32
theorem Full.settle1 {n : Nat} {s : St} (h : Full n s) (q : Int) : Full n (settle1 s q) := by
  refine ⟨?_, fun k l hk => ?_⟩
  · unfold Go.Proofs.Ytnkcjhfdmnpckaa.settle1
    cases hf : s.f q with
    | some l =>
      obtain ⟨j, rfl, hj, hl⟩ := h.2 q l hf
      have := h.1
      show (spl s.safe (32 * (j : Int).toNat) l).length = _
      rw [spl_length (by simp; omega)]
      exact h.1
    | none => exact h.1
  · rw [settle1_f] at hk
    by_cases e : k = q
    · rw [if_pos e] at hk; cases hk
    · rw [if_neg e] at hk; exact h.2 k l hk
theorem settle1_get {n : Nat} {s : St} (h : Full n s) (q : Int) (j : Nat) : (settle1 s q).safe[j]? = if ((j / 32 : Nat) : Int) = q ∧ (s.f q).isSome = true then ((s.f q).getD [])[j % 32]? else s.safe[j]? := by
  unfold settle1
  cases hf : s.f q with
  | some l =>
    obtain ⟨i, rfl, hi, hl⟩ := h.2 q l hf
    have hs := h.1
    show (spl s.safe (32 * (i : Int).toNat) l)[j]? = _
    rw [spl_get (by simp; omega)]
    simp only [Int.toNat_natCast, Option.isSome_some, and_true, Option.getD_some]
    by_cases e : j / 32 = i
    · rw [if_pos (by omega), if_pos (by omega)]
      congr 1
      omega
    · rw [if_neg (by omega), if_neg (by omega)]
  | none => simp
theorem settleS_get {n : Nat} (j : Nat) : ∀ (l : List Int) (s : St), Full n s → (settleS s l).safe[j]? = if ((j / 32 : Nat) : Int) ∈ l ∧ (s.f (j / 32 : Nat)).isSome = true then ((s.f (j / 32 : Nat)).getD [])[j % 32]? else s.safe[j]?
  | [], s, _ => by simp [settleS]
  | q :: r, s, h => by
    rw [settleS, settleS_get j r _ (h.settle1 q), settle1_f, settle1_get h]
    by_cases e : ((j / 32 : Nat) : Int) = q
    · subst e
      rw [if_pos rfl]
      simp
    · rw [if_neg e]
      simp only [List.mem_cons, e, false_or, false_and, if_false]
theorem Rel.full {n : Nat} {s : St} {m : DM} {N : Nat} (h : Rel n s m) (hW : Wf n N s) : Full n s := by
  refine ⟨by rw [h.safe]; exact h.ok.safe, fun k l hk => ?_⟩
  obtain ⟨j, hj, rfl⟩ := hW.keys k (by rw [hk]; rfl)
  rw [h.f j] at hk
  have hjn := hW.low j hj
  by_cases hd : j ∈ m.dirty
  · rw [if_pos hd] at hk
    cases hk
    exact ⟨j, rfl, hjn, sec_len h.ok.now hjn⟩
  · rw [if_neg hd] at hk; cases hk
theorem settleS_full {n : Nat} : ∀ (l : List Int) (s : St), Full n s → Full n (settleS s l)
  | [], _, h => h
  | q :: r, _, h => settleS_full r _ (h.settle1 q)
/-- A loss of power. -/
theorem Rel.safe_crash {n N : Nat} {s : St} {m : DM} (h : Rel n s m) (hW : Wf n N s) (keep : List Int) (t : Int) : (tearS (settleS s keep) (clip t)).safe = (Pd.crash m keep t).now := by
  apply List.ext_getElem?
  intro j
  have hF := h.full hW
  have hS := settleS_full keep s hF
  have horder := settleS_order keep s
  have hsome : ∀ k : Nat, (s.f k).isSome = decide (k ∈ m.dirty) := fun k => by
    rw [h.f k]
    by_cases hd : k ∈ m.dirty
    · simp [hd]
    · simp [hd]
  have hfind : (settleS s keep).order.find? (fun k : Nat => ((settleS s keep).f k).isSome) = Pd.cut1 keep m.dirty := by
    rw [horder, h.order]
    have e : ∀ l : List Nat, (∀ k ∈ l, k ∈ m.dirty) → l.find? (fun k : Nat => ((settleS s keep).f k).isSome) = Pd.cut1 keep l := by
      intro l
      induction l with
      | nil => intro _; rfl
      | cons x r ih =>
        intro hl
        have hx := hl x (by simp)
        unfold Pd.cut1
        by_cases hk : (x : Int) ∈ keep
        · rw [if_pos hk, ← ih (fun k hk => hl k (by simp [hk])), List.find?_cons_of_neg]
          rw [settleS_f, if_pos hk]; simp
        · rw [if_neg hk, List.find?_cons_of_pos]
          rw [settleS_f, if_neg hk, hsome]; simp [hx]
    exact e m.dirty (fun k hk => hk)
  have hbase : (settleS s keep).safe[j]? = if ((j / 32 : Nat) : Int) ∈ keep ∧ j / 32 ∈ m.dirty then m.now[j]? else m.safe[j]? := by
    rw [settleS_get j keep s hF, hsome, h.safe]
    by_cases hd : j / 32 ∈ m.dirty
    · simp only [hd, decide_true, and_true]
      by_cases hk : ((j / 32 : Nat) : Int) ∈ keep
      · rw [if_pos hk, if_pos hk, h.f (j / 32), if_pos hd, Option.getD_some, sec_get _ _ _ (by omega)]
        congr 1
        omega
      · rw [if_neg hk, if_neg hk]
    · simp [hd]
  by_cases hk : ((j / 32 : Nat) : Int) ∈ keep
  · rw [Pd.crash_kept h.ok t hk]
    have hne : ∀ k, Pd.cut1 keep m.dirty = some k → k ≠ j / 32 := by
      intro k hc e
      subst e
      rw [← hfind] at hc
      have := List.find?_some hc
      rw [settleS_f, if_pos hk] at this
      cases this
    have e1 : (tearS (settleS s keep) (clip t)).safe[j]? = (settleS s keep).safe[j]? := by
      unfold tearS
      rw [hfind]
      cases hc : Pd.cut1 keep m.dirty with
      | none => rfl
      | some k =>
        have hne := hne k hc
        simp only
        have hk2 : ∃ l, (settleS s keep).f k = some l := by
          rw [← hfind] at hc
          have := List.find?_some hc
          exact Option.isSome_iff_exists.1 this
        obtain ⟨l, hl⟩ := hk2
        obtain ⟨k', e, hk', hll⟩ := hS.2 k l hl
        have : k = k' := by omega
        subst this
        have := hS.1
        rw [hl, Option.getD_some, spl_get (by rw [List.length_take]; omega), if_neg (by rw [List.length_take]; omega)]
    rw [e1, hbase]
    by_cases hd : j / 32 ∈ m.dirty
    · rw [if_pos ⟨hk, hd⟩]
    · rw [if_neg (fun e => hd e.2)]
      exact (h.ok.alike j hd).symm
  · rw [Pd.crash_cut h.ok t hk]
    have hb : (settleS s keep).safe[j]? = m.safe[j]? := by rw [hbase, if_neg (fun e => hk e.1)]
    unfold tearS
    rw [hfind]
    cases hc : Pd.cut1 keep m.dirty with
    | none =>
      simp only
      rw [hb, if_neg (by simp)]
    | some k =>
      simp only
      have hks : ((settleS s keep).f k).isSome = true := by
        have hc' := hc
        rw [← hfind] at hc'
        have h0 := List.find?_some hc'
        exact h0
      obtain ⟨l, hl⟩ := Option.isSome_iff_exists.1 hks
      obtain ⟨k', e, hk', hll⟩ := hS.2 k l hl
      have : k = k' := by omega
      subst this
      have hSl := hS.1
      have hcl := clip_le t
      rw [hl, Option.getD_some, spl_get (by rw [List.length_take]; omega)]
      have hlt : (l.take (clip t)).length = clip t := by rw [List.length_take]; omega
      rw [hlt]
      by_cases hj : 32 * k ≤ j ∧ j < 32 * k + clip t
      · rw [if_pos hj, if_pos ⟨by congr 1; omega, by omega⟩]
        have hlk : l = sec m.now k := by
          rw [settleS_f] at hl
          by_cases hkk : (k : Int) ∈ keep
          · rw [if_pos hkk] at hl; cases hl
          · rw [if_neg hkk, h.f k] at hl
            by_cases hd : k ∈ m.dirty
            · rw [if_pos hd] at hl; cases hl; rfl
            · rw [if_neg hd] at hl; cases hl
        rw [List.getElem?_take_of_lt (by omega), hlk, sec_get _ _ _ (by omega)]
        congr 1
        omega
      · rw [if_neg hj, hb, if_neg]
        rintro ⟨e1, e2⟩
        cases e1
        omega
theorem Rel.crash {n N : Nat} {s : St} {m : DM} (h : Rel n s m) (hW : Wf n N s) (keep : List Int) (t : Int) : Rel n (crashS s keep (clip t)) (Pd.crash m keep t) :=
  ⟨rfl, h.safe_crash hW keep t, rfl, fun k => (if_neg (by simp [Pd.crash])).symm, rfl, fun e => absurd rfl e, h.ok.crash keep t, fun _ => rfl, by simp [Pd.crash]⟩
theorem Wf.crash {n : Nat} (s : St) (keep : List Int) (t : Nat) : Wf n 0 (crashS s keep t) := ⟨List.nodup_nil, fun k hk => (by cases hk), fun k hk => (by cases hk), rfl⟩
/-- An act that would do something. -/
theorem spl_spl {l b x : List UInt8} {p : Nat} (h : p + b.length + x.length ≤ l.length) : spl (spl l p b) (p + b.length) x = spl l p (b ++ x) := by
  apply List.ext_getElem?
  intro j
  have h1 : p + b.length ≤ l.length := by omega
  have h2 := spl_length h1
  rw [spl_get (by omega), spl_get h1, spl_get (by simp; omega), List.length_append]
  by_cases e1 : p + b.length ≤ j ∧ j < p + b.length + x.length
  · rw [if_pos e1, if_pos (by omega), List.getElem?_append_right (by omega)]
    congr 1
    omega
  · rw [if_neg e1]
    by_cases e2 : p ≤ j ∧ j < p + b.length
    · rw [if_pos e2, if_pos (by omega), List.getElem?_append_left (by omega)]
    · rw [if_neg e2, if_neg (by omega)]
theorem adds_again (d : List Nat) (k : Nat) : Pd.adds (Pd.adds d k) k = Pd.adds d k := by
  have : k ∈ Pd.adds d k := Pd.mem_adds.2 (.inr rfl)
  show (if k ∈ Pd.adds d k then Pd.adds d k else _) = _
  rw [if_pos this]
theorem touch_more (d : List Nat) (p a k : Nat) : ∀ c, 0 < c → (∀ i, i < c → (p + a + i) / 32 = k) → Pd.touch d p (a + c) = Pd.adds (Pd.touch d p a) k
  | 0, h, _ => by omega
  | 1, _, h => by
    show Pd.adds (Pd.touch d p a) ((p + a) / 32) = _
    rw [show (p + a) / 32 = k from h 0 (by omega)]
  | c + 2, _, h => by
    show Pd.adds (Pd.touch d p (a + (c + 1))) ((p + (a + (c + 1))) / 32) = _
    rw [touch_more d p a k (c + 1) (by omega) (fun i hi => h i (by omega)), show (p + (a + (c + 1))) / 32 = k by have := h (c + 1) (by omega); rw [← this]; congr 1; omega, adds_again]
/-- A plain disk as bytes are laid. -/
def laid (m : DM) (p : Nat) (b : List UInt8) : DM := { m with now := spl m.now p b, dirty := Pd.touch m.dirty p b.length }
theorem laid_nil (m : DM) (p : Nat) : laid m p [] = m := by
  unfold laid
  rw [Pd.spl_nil]
  rfl
theorem laid_more {m : DM} {n p : Nat} {b x : List UInt8} (h : m.now.length = 32 * n) (hp : p + b.length + x.length ≤ 32 * n) (hx : 0 < x.length) (hk : (p + b.length) % 32 + x.length ≤ 32) :
    laid m p (b ++ x) = { laid m p b with now := spl (laid m p b).now (p + b.length) x, dirty := Pd.adds (laid m p b).dirty ((p + b.length) / 32) } := by
  unfold laid
  simp only
  rw [spl_spl (by omega), List.length_append, touch_more m.dirty p b.length ((p + b.length) / 32) x.length hx (fun i hi => by omega)]
theorem ok_laid {m : DM} {n p : Nat} {b : List UInt8} (h : Pd.Ok n m) (hp : p + b.length ≤ 32 * n) : Pd.Ok n (laid m p b) := by
  have h1 : p + b.length ≤ m.now.length := by rw [h.now]; exact hp
  refine ⟨(spl_length h1).trans h.now, h.safe, Pd.touch_nodup h.nodup _, fun k hk => ?_, fun j hj => ?_⟩
  · rcases Pd.mem_touch.1 hk with hk | ⟨i, hi, rfl⟩
    · exact h.low k hk
    · omega
  · have hj' : j / 32 ∉ Pd.touch m.dirty p b.length := hj
    rw [Pd.mem_touch] at hj'
    show (spl m.now p b)[j]? = m.safe[j]?
    rw [spl_get h1, if_neg, h.alike j (fun e => hj' (.inl e))]
    intro e
    exact hj' (.inr ⟨j - p, by omega, by congr 1; omega⟩)
/-- One piece laid. -/
theorem Rel.lay {n N : Nat} {s : St} {m : DM} (h : Rel n s m) (hW : Wf n N s) (hon : m.off = false) (k o : Nat) (X : List UInt8) (hk : k < n) (ho : o + X.length ≤ 32) :
    Rel n (layS s k o X) { m with now := spl m.now (32 * k + o) X, dirty := Pd.adds m.dirty k } ∧ Wf n (cntS s.f k N) (layS s k o X) := by
  have hnow := h.ok.now
  have hlast : lastOf s k = sec m.now k := by
    unfold lastOf
    rw [h.f k]
    by_cases hd : k ∈ m.dirty
    · rw [if_pos hd]
    · rw [if_neg hd]
      show (s.safe.drop (32 * k)).take 32 = sec m.now k
      rw [h.safe]
      apply List.ext_getElem?
      intro j
      by_cases hj : j < 32
      · rw [sec_get _ _ _ hj, List.getElem?_take_of_lt hj, List.getElem?_drop]
        exact (h.ok.alike _ (by rw [show (32 * k + j) / 32 = k by omega]; exact hd)).symm
      · rw [List.getElem?_eq_none (by rw [List.length_take]; omega), List.getElem?_eq_none (by rw [sec_len hnow hk]; omega)]
  have hsome : (s.f k).isSome = decide (k ∈ m.dirty) := by
    rw [h.f k]
    by_cases hd : k ∈ m.dirty <;> simp [hd]
  have horder : (layS s k o X).order = Pd.adds m.dirty k := by
    show (if (s.f k).isSome then s.order else s.order ++ [k]) = _
    rw [hsome, h.order]
    unfold Pd.adds
    by_cases hd : k ∈ m.dirty <;> simp [hd]
  have hsec : ∀ j : Nat, sec (spl m.now (32 * k + o) X) j = if j = k then spl (sec m.now k) o X else sec m.now j := by
    intro j
    apply List.ext_getElem?
    intro i
    have hsp : (spl m.now (32 * k + o) X).length = 32 * n := by rw [spl_length (by omega)]; exact hnow
    by_cases hi : i < 32
    · rw [sec_get _ _ _ hi, spl_get (by omega)]
      by_cases e : j = k
      · subst e
        rw [if_pos rfl, spl_get (by rw [sec_len hnow hk]; exact ho)]
        by_cases e2 : o ≤ i ∧ i < o + X.length
        · rw [if_pos (by omega), if_pos e2]; congr 1; omega
        · rw [if_neg (by omega), if_neg e2, sec_get _ _ _ hi]
      · rw [if_neg e, if_neg (by omega), sec_get _ _ _ hi]
    · have h1 : (sec (spl m.now (32 * k + o) X) j).length ≤ 32 := by unfold sec; rw [List.length_take]; omega
      rw [List.getElem?_eq_none (by omega)]
      by_cases e : j = k
      · rw [if_pos e, List.getElem?_eq_none (by rw [spl_length (by rw [sec_len hnow hk]; exact ho), sec_len hnow hk]; omega)]
      · rw [if_neg e, List.getElem?_eq_none (by unfold sec; rw [List.length_take]; omega)]
  have hf : ∀ j : Nat, (layS s k o X).f j = if j ∈ Pd.adds m.dirty k then some (sec (spl m.now (32 * k + o) X) j) else none := by
    intro j
    show put s.f k (spl (lastOf s k) o X) j = _
    unfold put
    rw [hsec j, hlast]
    by_cases e : j = k
    · subst e
      rw [if_pos rfl, if_pos (Pd.mem_adds.2 (.inr rfl)), if_pos rfl]
    · rw [if_neg (by omega), h.f j, if_neg e]
      by_cases hd : j ∈ m.dirty
      · rw [if_pos hd, if_pos (Pd.mem_adds.2 (.inl hd))]
      · rw [if_neg hd, if_neg (fun e' => (Pd.mem_adds.1 e').elim hd e)]
  refine ⟨⟨h.on, h.safe, horder, hf, h.ops, h.arms, ?_, fun e => ?_, h.small⟩, ?_⟩
  · refine ⟨(spl_length (by omega)).trans hnow, h.ok.safe, Pd.adds_nodup h.ok.nodup, fun j hj => ?_, fun j hj => ?_⟩
    · rcases Pd.mem_adds.1 hj with hj | rfl
      · exact h.ok.low j hj
      · exact hk
    · have hj' : j / 32 ∉ Pd.adds m.dirty k := hj
      rw [Pd.mem_adds] at hj'
      show (spl m.now (32 * k + o) X)[j]? = m.safe[j]?
      rw [spl_get (by omega), if_neg (fun e => hj' (.inr (by omega))), h.ok.alike j (fun e => hj' (.inl e))]
  · have e' : m.off = true := e
    rw [hon] at e'
    cases e'
  · have hnd : (layS s k o X).order.Nodup := by rw [horder]; exact Pd.adds_nodup h.ok.nodup
    refine ⟨hnd, fun j hj => ?_, fun j hj => ?_, ?_⟩
    · rw [horder] at hj
      rcases Pd.mem_adds.1 hj with hj | rfl
      · exact h.ok.low j hj
      · exact hk
    · have hj' : (put s.f k (spl (lastOf s k) o X) j).isSome = true := hj
      unfold put at hj'
      rw [horder]
      by_cases e : j = (k : Int)
      · exact ⟨k, Pd.mem_adds.2 (.inr rfl), e⟩
      · rw [if_neg e] at hj'
        obtain ⟨i, hi, e⟩ := hW.keys j hj'
        rw [h.order] at hi
        exact ⟨i, Pd.mem_adds.2 (.inl hi), e⟩
    · have hall : ((layS s k o X).order.filter fun j : Nat => ((layS s k o X).f j).isSome) = (layS s k o X).order := by
        rw [List.filter_eq_self]
        intro j hj
        rw [horder] at hj
        rw [hf j, if_pos hj]; rfl
      have hall0 : (s.order.filter fun j : Nat => (s.f j).isSome) = s.order := by
        rw [List.filter_eq_self]
        intro j hj
        rw [h.order] at hj
        rw [h.f j, if_pos hj]; rfl
      have hc := hW.cnt
      rw [hall0] at hc
      rw [hall]
      show cntS s.f k N = (if (s.f k).isSome then s.order else s.order ++ [k]).length
      unfold cntS
      cases (s.f k).isSome <;> simp [hc]
theorem mem_Nats {k : Nat} {l : List Nat} : (k : Int) ∈ Nats l ↔ k ∈ l := by
  unfold Nats
  rw [List.mem_map]
  constructor
  · rintro ⟨j, hj, e⟩
    have : j = k := by omega
    exact this ▸ hj
  · exact fun h => ⟨k, h, rfl⟩
/-- All that is dirty made safe. -/
theorem Rel.sync {n N N' : Nat} {s : St} {m : DM} (h : Rel n s m) (hW : Wf n N s) (hW' : Wf n N' (settleS s (Nats s.order))) :
    Rel n { settleS s (Nats s.order) with order := [] } { m with safe := m.now, dirty := [] } ∧ Wf n N' { settleS s (Nats s.order) with order := [] } ∧ N' = 0 := by
  have hF := h.full hW
  have hmem : ∀ k : Nat, (k : Int) ∈ Nats s.order ↔ k ∈ m.dirty := fun k => by
    rw [← h.order]
    exact mem_Nats
  have hnone : ∀ k : Int, (settleS s (Nats s.order)).f k = none := fun k => by
    rw [settleS_f]
    by_cases e : k ∈ Nats s.order
    · rw [if_pos e]
    · rw [if_neg e]
      cases hf : s.f k with
      | none => rfl
      | some l =>
        obtain ⟨j, hj, rfl⟩ := hW.keys k (by rw [hf]; rfl)
        exact absurd (mem_Nats.2 hj) e
  have hsafe : (settleS s (Nats s.order)).safe = m.now := by
    apply List.ext_getElem?
    intro j
    rw [settleS_get j _ s hF, h.f (j / 32), h.safe]
    by_cases hd : j / 32 ∈ m.dirty
    · rw [if_pos hd, if_pos ⟨(hmem _).2 hd, rfl⟩, Option.getD_some, sec_get _ _ _ (by omega)]
      congr 1
      omega
    · rw [if_neg (fun e => hd ((hmem _).1 e.1))]
      exact (h.ok.alike j hd).symm
  obtain ⟨e1, e2, e3, e4⟩ := settleS_same (Nats s.order) s
  have hN : N' = 0 := by
    rw [hW'.cnt]
    simp [hnone]
  refine ⟨⟨e1.trans h.on, hsafe, rfl, fun k => ?_, e2.trans h.ops, fun e => ⟨e3.trans (h.arms e).1, e4.trans (h.arms e).2⟩, ⟨h.ok.now, h.ok.now, List.nodup_nil, fun k hk => (by cases hk), fun j _ => rfl⟩, fun _ => rfl, h.small⟩, ⟨List.nodup_nil, fun k hk => (by cases hk), fun k hk => ?_, hN⟩, hN⟩
  · show (settleS s (Nats s.order)).f k = _
    rw [hnone, if_neg (by simp)]
  · have hk' : ((settleS s (Nats s.order)).f k).isSome = true := hk
    rw [hnone] at hk'
    cases hk'
theorem Rel.strike0 {n : Nat} {s : St} {m : DM} (h : Rel n s m) : Rel n { s with ops := 0 } { m with armed := 0 } := ⟨h.on, h.safe, h.order, h.f, rfl, fun e => absurd rfl e, ⟨h.ok.now, h.ok.safe, h.ok.nodup, h.ok.low, h.ok.alike⟩, h.dark, by simp⟩
theorem Rel.strike1 {n k : Nat} {s : St} {m : DM} (h : Rel n s m) (hk : m.armed = k + 2) : Rel n { s with ops := k + 1 } { m with armed := k + 1 } := ⟨h.on, h.safe, h.order, h.f, rfl, fun _ => h.arms (by omega), ⟨h.ok.now, h.ok.safe, h.ok.nodup, h.ok.low, h.ok.alike⟩, h.dark, by have := h.small; show k + 1 ≤ _; omega⟩
theorem Rel.last {n N : Nat} {s : St} {m : DM} (h : Rel n s m) (_ : Wf n N s) (k : Nat) (hk : k < n) : lastOf s k = sec m.now k := by
  unfold lastOf
  rw [h.f k]
  by_cases hd : k ∈ m.dirty
  · rw [if_pos hd]
  · rw [if_neg hd]
    show (s.safe.drop (32 * k)).take 32 = sec m.now k
    rw [h.safe]
    apply List.ext_getElem?
    intro j
    by_cases hj : j < 32
    · rw [sec_get _ _ _ hj, List.getElem?_take_of_lt hj, List.getElem?_drop]
      exact (h.ok.alike _ (by rw [show (32 * k + j) / 32 = k by omega]; exact hd)).symm
    · rw [List.getElem?_eq_none (by rw [List.length_take]; omega), List.getElem?_eq_none (by rw [sec_len h.ok.now hk]; omega)]
end Go.Proofs.Ytnkcjhfdmnpckaa
