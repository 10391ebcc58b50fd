/-
  A log of frames that fill a sector each, of the law's own, and its disk behind crashes.
-/
import Derived.Test.YtgdhjgfoalianaaDoorWalK
import Derived.Test.YtgdhjgfoalianaaDoorWMine
import Derived.Test.YtgdhjgfoalianaaDoorWLight
namespace Go.Proofs.YtgdhjgfoalianaaDoor
open Go.RowKit
open Pd (DM)

theorem rdL_two {W : World} {p q : ActP} {pb pk qb qk : Value} (hp : IsA W p pb pk) (hq : IsA W q qb qk) : RdL (W.alloc (.cells (AC p pb pk ++ AC q qb qk).toArray 36 (0, 0))) (.slice (some ⟨W.heap.size, 0, none⟩) 2 2) [p, q] := by
  have hb := (Below.refl W.heap.size W).alloc (Nat.le_refl _) (.cells (AC p pb pk ++ AC q qb qk).toArray 36 (0, 0))
  refine ⟨_, 2, rfl, by simp, by simp [maxLen], fun _ => ⟨W.heap.size, 0, rfl, by simp, fun j hj => ?_⟩⟩
  rcases (show j = 0 ∨ j = 1 by simp at hj; omega) with rfl | rfl
  · refine ⟨pb, pk, fun i u hi => ?_, hp.kept hb⟩
    rw [cell_of_row (heap_alloc_new W _)]
    have hi5 : i < 5 := (List.getElem?_eq_some_iff.1 hi).1
    rw [List.getElem?_toArray, show 0 + 0 * 5 + i = i by omega, List.getElem?_append_left (by simpa [AC] using hi5)]
    exact hi
  · refine ⟨qb, qk, fun i u hi => ?_, hq.kept hb⟩
    rw [cell_of_row (heap_alloc_new W _)]
    have hi5 : i < 5 := (List.getElem?_eq_some_iff.1 hi).1
    rw [List.getElem?_toArray, show 0 + 1 * 5 + i = 5 + i by omega, List.getElem?_append_right (by simp [AC])]
    simpa [AC] using hi

/-- A log of the law's own; Y of its frames, that fill a sector each, are synced. -/
def Log2 (w0 w : World) (D n L : Nat) (ts : List (List UInt8)) (Y : Nat) (c : Nat → Nat) : Prop := ∃ m, Lw w0 w D n L m (pads ts).length ts.length Y c ∧ Live n m ts Y
section
variable {w0 w : World} {D n L Y : Nat} {ts : List (List UInt8)} {c : Nat → Nat}
theorem Log2.kept {w' : World} (h : Log2 w0 w D n L ts Y c) (hb : Below w.heap.size w w') : Log2 w0 w' D n L ts Y c := by
  obtain ⟨m, h1, h2⟩ := h
  exact ⟨m, h1.kept hb, h2⟩
theorem Log2.below (h : Log2 w0 w D n L ts Y c) : Below w0.heap.size w0 w := by obtain ⟨m, h1, _⟩ := h; exact h1.one.below
theorem Log2.norm (h : Log2 w0 w D n L ts Y c) : Norm c w := by obtain ⟨m, h1, _⟩ := h; exact h1.one.2.1
theorem Log2.logB (h : Log2 w0 w D n L ts Y c) : LogB w L D (pads ts).length ts.length Y := by obtain ⟨m, h1, _⟩ := h; exact h1.log
theorem Log2.nine (h : Log2 w0 w D n L ts Y c) : c L = 9 := by obtain ⟨m, h1, _⟩ := h; exact h1.nine
theorem log2_new (hT : Tab w0) {c : Nat → Nat} (h : OneC w0 w D n (Pd.new n) c) :
    Calls Tryd.prog 32 #[.pointer (some ⟨D, 0, none⟩)] w fun e w' => ∃ L v c', e = .returned (.tuple #[.pointer (some ⟨L, 0, none⟩), v, .int .i64 0]) ∧ Log2 w0 w' D n L [] 0 c' := by
  obtain ⟨e1, e2, e3⟩ := openD_new n
  refine (h.opened hT (by rw [e1])).mono ?_
  rw [e1, e2, e3]
  rintro e w' ⟨c', L, v, rfl, hl, -, hr⟩
  exact ⟨L, v, c', rfl, ⟨_, hl, live_new n⟩⟩
theorem Log2.append (hT : Tab w0) (h : Log2 w0 w D n L ts Y c) (v : Value) (t : List UInt8) (hr : Rd w v t) (ht : t.length ≤ 20) (hn : ts.length < n) :
    Calls Tryd.prog 14 #[.pointer (some ⟨L, 0, none⟩), v] w fun e w' => e = .returned (.int .i64 0) ∧ ∃ c', Log2 w0 w' D n L (ts ++ [t]) Y c' ∧ StepL c 1 L w c' w' := by
  obtain ⟨m, h1, h2⟩ := h
  have hn4 := h1.one.ok.2.2.2
  have hp := pads_20 h2.short
  obtain ⟨e1, e2⟩ := h2.append t ht hn
  refine (h1.append hT v t hr (by omega) (by omega)).mono ?_
  rw [e1]
  rintro e w' ⟨rfl, c', hl, hs⟩
  refine ⟨rfl, c', ⟨_, ?_, e2⟩, hs⟩
  rw [pads_append, pads_one, List.length_append, List.length_append]
  simpa using hl
theorem Log2.sync (h : Log2 w0 w D n L ts Y c) :
    Calls Tryd.prog 16 #[.pointer (some ⟨L, 0, none⟩)] w fun e w' => e = .returned (.int .i64 0) ∧ ∃ c', Log2 w0 w' D n L ts ts.length c' ∧ StepL c 1 L w c' w' := by
  obtain ⟨m, h1, h2⟩ := h
  obtain ⟨e1, e2⟩ := h2.sync
  refine h1.sync.mono ?_
  rw [e1]
  rintro e w' ⟨rfl, c', hl, hs⟩
  exact ⟨rfl, c', ⟨_, hl, e2⟩, hs⟩
theorem Log2.synced (h : Log2 w0 w D n L ts Y c) : Calls Tryd.prog 28 #[.pointer (some ⟨L, 0, none⟩)] w fun e w' => e = .returned (.int .i64 (Y : Int)) ∧ w' = w := by obtain ⟨m, h1, _⟩ := h; exact wSynced_any h1.log
theorem Log2.grow {w' : World} (h : Log2 w0 w D n L ts Y c) {F : Nat → Prop} (hc : Chg F w w') (hF : ∀ k, F k → k < w.heap.size → c k = 9) (hL : ¬ F L) : Log2 w0 w' D n L ts Y (paint c w w' 9) := by
  obtain ⟨m, h1, h2⟩ := h
  exact ⟨m, h1.grow hc hF hL, h2⟩
/-- Opened, whatever comes of it. -/
theorem OneC.openAny {m : DM} (hT : Tab w0) (h : OneC w0 w D n m c) :
    Calls Tryd.prog 32 #[.pointer (some ⟨D, 0, none⟩)] w fun e w' => (∃ v, e = .returned v) ∧ ∃ c', OneC w0 w' D n (openD m).2 c' ∧ Step c 1 w c' w' := by
  refine (wOpen_any h.1 h.2.1 (h.tab hT)).mono ?_
  rintro e w' ⟨c', hI, hs, hp⟩
  refine ⟨?_, c', OneC.step hI hs h.2.2.1 h.2.2.2, hs⟩
  split at hp
  · obtain ⟨L, v, rfl, -⟩ := hp
    exact ⟨_, rfl⟩
  · exact ⟨_, hp⟩
end

/-- A disk that holds the first k frames; P says what else. -/
def HeldP (P : DM → Prop) (w0 w : World) (D n : Nat) (ts : List (List UInt8)) (k : Nat) (c : Nat → Nat) : Prop := ∃ m, OneC w0 w D n m c ∧ Held n m ts k ∧ P m ∧ Short ts ∧ k ≤ ts.length ∧ k ≤ n
def IsOn (m : DM) : Prop := m.off = false ∧ m.armed = 0
def IsOff (m : DM) : Prop := m.off = true ∧ m.armed = 0
section
variable {w0 w : World} {D n L Y k : Nat} {ts : List (List UInt8)} {c : Nat → Nat} {P : DM → Prop}
theorem HeldP.kept {w' : World} (h : HeldP P w0 w D n ts k c) (hb : Below w.heap.size w w') : HeldP P w0 w' D n ts k c := by
  obtain ⟨m, h1, h2⟩ := h
  exact ⟨m, h1.kept hb, h2⟩
theorem HeldP.below (h : HeldP P w0 w D n ts k c) : Below w0.heap.size w0 w := by obtain ⟨m, h1, _⟩ := h; exact h1.below
theorem Log2.crash (h : Log2 w0 w D n L ts Y c) (v : Value) (l : List Int) (hr : RdN w0 v l) (hl : ∀ k ∈ l, (Lit.int .i64 k).wf = true) :
    Calls Tryd.prog 18 #[.pointer (some ⟨D, 0, none⟩), v, .int .i64 0] w fun e w' => e = .returned (.bool true) ∧ ∃ k c', Y ≤ k ∧ HeldP IsOff w0 w' D n ts k c' ∧ Step c 1 w c' w' := by
  obtain ⟨m, h1, h2⟩ := h
  obtain ⟨k, q1, q2, q3, q4⟩ := h2.crash l
  have e : Pd.crashed m l 0 = (true, Pd.crash m l 0) := by unfold Pd.crashed; rw [if_neg (by rw [h2.calm.off]; simp)]
  refine (h1.one.crash v l 0 hr hl).mono ?_
  rw [e]
  rintro e w' ⟨rfl, c', ho, hs⟩
  exact ⟨rfl, k, c', q1, ⟨_, ho, q4, ⟨rfl, rfl⟩, h2.short, q2, q3⟩, hs⟩
theorem HeldP.start (h : HeldP IsOff w0 w D n ts k c) : Calls Tryd.prog 20 #[.pointer (some ⟨D, 0, none⟩)] w fun e w' => e = .returned (.bool true) ∧ ∃ c', HeldP IsOn w0 w' D n ts k c' ∧ Step c 1 w c' w' := by
  obtain ⟨m, h1, h2, h3, h4, h5, h6⟩ := h
  have hok := h2.ok.start h1.ok.2.1
  have e : Pd.start m = (true, { m with off := false, dirty := [] }) := by unfold Pd.start; rw [if_pos h3.1]
  refine h1.start.mono ?_
  rw [e] at hok ⊢
  rintro e w' ⟨rfl, c', ho, hs⟩
  exact ⟨rfl, c', ⟨_, ho, ⟨hok, h2.torn, h2.now, h2.safe⟩, ⟨rfl, h3.2⟩, h4, h5, h6⟩, hs⟩
theorem HeldP.arm (h : HeldP IsOn w0 w D n ts k c) (a : Int) (ha : (Lit.int .i64 a).wf = true) (v : Value) (l : List Int) (hr : RdN w0 v l) (hl : ∀ k ∈ l, (Lit.int .i64 k).wf = true) (hl2 : l.length ≤ 1000000) :
    Calls Tryd.prog 22 #[.pointer (some ⟨D, 0, none⟩), .int .i64 a, v, .int .i64 0] w fun e w' => e = .returned (.tuple #[]) ∧ ∃ c', HeldP Dim w0 w' D n ts k c' ∧ Step c 1 w c' w' := by
  obtain ⟨m, h1, h2, h3, h4, h5, h6⟩ := h
  refine (h1.arm a ha v l 0 hr hl hl2).mono ?_
  rintro e w' ⟨rfl, c', ho, hs⟩
  exact ⟨rfl, c', ⟨_, ho, h2.arm a l, (fun hx => by have : m.off = true := hx; rw [h3.1] at this; simp at this), h4, h5, h6⟩, hs⟩
theorem HeldP.openAny (hT : Tab w0) (h : HeldP Dim w0 w D n ts k c) : Calls Tryd.prog 32 #[.pointer (some ⟨D, 0, none⟩)] w fun e w' => (∃ v, e = .returned v) ∧ ∃ c', HeldP Dim w0 w' D n ts k c' ∧ Step c 1 w c' w' := by
  obtain ⟨m, h1, h2, h3, h4, h5, h6⟩ := h
  refine (h1.openAny hT).mono ?_
  rintro e w' ⟨hv, c', ho, hs⟩
  exact ⟨hv, c', ⟨_, ho, h2.opened h4 h5 h6, dim_open h3, h4, h5, h6⟩, hs⟩
theorem HeldP.on (h : HeldP Dim w0 w D n ts k c) : ∃ x, (Calls Tryd.prog 33 #[.pointer (some ⟨D, 0, none⟩)] w fun e w' => e = .returned (.bool x) ∧ w' = w) ∧
    (x = false → HeldP IsOff w0 w D n ts k c) ∧ (x = true → ∀ (v : Value) (l : List Int), RdN w0 v l → (∀ k ∈ l, (Lit.int .i64 k).wf = true) →
      Calls Tryd.prog 18 #[.pointer (some ⟨D, 0, none⟩), v, .int .i64 0] w fun e w' => e = .returned (.bool true) ∧ ∃ c', HeldP IsOff w0 w' D n ts k c' ∧ Step c 1 w c' w') := by
  obtain ⟨m, h1, h2, h3, h4, h5, h6⟩ := h
  refine ⟨!m.off, h1.on, fun hx => ?_, fun hx v l hr hl => ?_⟩
  · have ho : m.off = true := by simpa using hx
    exact ⟨m, h1, h2, ⟨ho, h3 ho⟩, h4, h5, h6⟩
  · have ho : m.off = false := by simpa using hx
    have e : Pd.crashed m l 0 = (true, Pd.crash m l 0) := by unfold Pd.crashed; rw [if_neg (by rw [ho]; simp)]
    refine (h1.crash v l 0 hr hl).mono ?_
    rw [e]
    rintro e w' ⟨rfl, c', hoo, hs⟩
    exact ⟨rfl, c', ⟨_, hoo, h2.crash l, ⟨rfl, rfl⟩, h4, h5, h6⟩, hs⟩
/-- Opened at last. -/
theorem HeldP.final (hT : Tab w0) (h : HeldP IsOn w0 w D n ts k c) :
    Calls Tryd.prog 32 #[.pointer (some ⟨D, 0, none⟩)] w fun e w' => ∃ L v c', e = .returned (.tuple #[.pointer (some ⟨L, 0, none⟩), v, .int .i64 0]) ∧ Log1 w0 w' D n L (ts.take k) (ts.take k).length c' ∧ CoolR w' c' v (ts.take k) ∧ Step c 1 w c' w' := by
  obtain ⟨m, h1, h2, h3, h4, h5, h6⟩ := h
  obtain ⟨e1, e2⟩ := h2.final h4 h5 h6 h3.1 h3.2
  obtain ⟨e3, e4⟩ := h2.scan h4 h5 h6
  have htk : (ts.take k).length = k := by simp; omega
  refine (h1.opened hT e1).mono ?_
  rw [e3, e4]
  rintro e w' ⟨c', L, v, rfl, hl, hs, hr⟩
  refine ⟨L, v, c', rfl, ⟨_, ?_, e2⟩, hr, hs⟩
  rw [pads_20 (h4.take k), htk]
  rw [htk] at hl
  exact hl
end
#print axioms HeldP.final
end Go.Proofs.YtgdhjgfoalianaaDoor
