/-
  A log on a disk that has power and nothing in store: what is there, and its acts.
-/
import Derived.Test.YtgdhjgfoalianaaDoorGWb
namespace Go.Proofs.YtgdhjgfoalianaaDoor
open Go.RowKit
open Pd (DM spl)

/-- A disk of n sectors with power, nothing in store, and the frames of ts from its begin on, noughts behind. -/
structure Calm (n : Nat) (m : DM) (ts : List (List UInt8)) : Prop where
  off : m.off = false
  armed : m.armed = 0
  rest : ∃ r, m.now = pads ts ++ r ∧ nought r = true
  len : m.now.length = 32 * n
  small : ∀ t ∈ ts, t.length ≤ 8192
theorem calm_new (n : Nat) : Calm n (Pd.new n) [] := ⟨rfl, rfl, ⟨_, rfl, nought_replicate _⟩, by simp [Pd.new], by simp⟩
theorem Calm.opened {n : Nat} {m : DM} {ts : List (List UInt8)} (h : Calm n m ts) : openD m = (0, m) ∧ texts m.now = ts ∧ ends m.now = (pads ts).length := by
  obtain ⟨r, hr, h0⟩ := h.rest
  exact openD_pads h.off hr h0 h.small
theorem Calm.le {n : Nat} {m : DM} {ts : List (List UInt8)} (h : Calm n m ts) : (pads ts).length ≤ 32 * n := by
  obtain ⟨r, hr, -⟩ := h.rest
  have := h.len
  rw [hr, List.length_append] at this
  omega
theorem Calm.count {n : Nat} {m : DM} {ts : List (List UInt8)} (h : Calm n m ts) : ts.length ≤ n := by
  have := h.le
  have := pads_ge ts
  omega
theorem spl_end (a r x : List UInt8) : spl (a ++ r) a.length x = a ++ x ++ r.drop x.length := by
  unfold spl
  rw [List.take_left, ← List.drop_drop, List.drop_left]
theorem Calm.append {n : Nat} {m : DM} {ts : List (List UInt8)} (h : Calm n m ts) (t : List UInt8) (ht : t.length ≤ 8192) (hf : (pads ts).length + (pad t).length ≤ 32 * n) :
    (appD m (pads ts).length t).1 = 0 ∧ Calm n (appD m (pads ts).length t).2 (ts ++ [t]) := by
  obtain ⟨r, hr, h0⟩ := h.rest
  have hl := h.len
  have hp := pad_pos t
  have hne : pad t ≠ [] := fun e => by rw [e] at hp; simp at hp
  have e : appD m (pads ts).length t = (0, { m with now := spl m.now (pads ts).length (pad t), dirty := Pd.touch m.dirty (pads ts).length (pad t).length }) := by
    unfold appD Pd.write
    rw [if_neg (by omega), h.off, if_neg (by simp), if_neg (by omega), if_neg (by omega), if_neg hne]
    unfold Pd.strike
    rw [if_pos h.armed]
    simp [h.off]
  rw [e]
  refine ⟨rfl, h.off, h.armed, ⟨r.drop (pad t).length, ?_, nought_drop h0 _⟩, ?_, ?_⟩
  · show spl m.now _ _ = _
    rw [hr, spl_end, pads_append, pads_one]
  · show (spl m.now _ _).length = _
    rw [Pd.spl_length (by omega), hl]
  · intro x hx
    rcases List.mem_append.1 hx with hx | hx
    · exact h.small x hx
    · simp at hx; rw [hx]; exact ht
theorem Calm.full {n : Nat} {m : DM} {ts : List (List UInt8)} (h : Calm n m ts) (t : List UInt8) (ht : t.length ≤ 8192) (hf : ¬ (pads ts).length + (pad t).length ≤ 32 * n) :
    appD m (pads ts).length t = (6, m) := by
  have hl := h.len
  unfold appD Pd.write
  rw [if_neg (by omega), h.off, if_neg (by simp), if_neg (by omega), if_pos (by omega)]
theorem Calm.long {n : Nat} {m : DM} {ts : List (List UInt8)} (_ : Calm n m ts) (t : List UInt8) (ht : 8192 < t.length) : appD m (pads ts).length t = (12, m) := if_pos ht
theorem Calm.sync {n : Nat} {m : DM} {ts : List (List UInt8)} (h : Calm n m ts) : (Pd.sync m).1 = 0 ∧ Calm n (Pd.sync m).2 ts := by
  by_cases hd : m.dirty = []
  · have e : Pd.sync m = (0, m) := by unfold Pd.sync; rw [if_neg (by rw [h.off]; simp), if_pos hd]
    rw [e]
    exact ⟨rfl, h⟩
  · have e : Pd.sync m = (0, { m with safe := m.now, dirty := [] }) := by
      unfold Pd.sync Pd.strike
      rw [if_neg (by rw [h.off]; simp), if_neg hd, if_pos h.armed]
    rw [e]
    exact ⟨rfl, h.off, h.armed, h.rest, h.len, h.small⟩

/-- A log of the law's own, on a disk of its own. -/
def Log1 (w0 w : World) (D n L : Nat) (ts : List (List UInt8)) (Y : Nat) (c : Nat → Nat) : Prop := ∃ m, Lw w0 w D n L m (pads ts).length ts.length Y c ∧ Calm n m ts
section
variable {w0 w : World} {D n L Y : Nat} {ts : List (List UInt8)} {c : Nat → Nat}
theorem Log1.kept {w' : World} (h : Log1 w0 w D n L ts Y c) (hb : Below w.heap.size w w') : Log1 w0 w' D n L ts Y c := by
  obtain ⟨m, h1, h2⟩ := h
  exact ⟨m, h1.kept hb, h2⟩
theorem Log1.below (h : Log1 w0 w D n L ts Y c) : Below w0.heap.size w0 w := by obtain ⟨m, h1, _⟩ := h; exact h1.one.below
theorem Log1.norm (h : Log1 w0 w D n L ts Y c) : Norm c w := by obtain ⟨m, h1, _⟩ := h; exact h1.one.2.1
theorem Log1.le (h : Log1 w0 w D n L ts Y c) : (pads ts).length ≤ 32 * n ∧ ts.length ≤ n ∧ n ≤ 4096 := by obtain ⟨m, h1, h2⟩ := h; exact ⟨h2.le, h2.count, h1.one.ok.2.2.2⟩
/-- A new disk, opened. -/
theorem log1_new (hT : Tab w0) {c : Nat → Nat} (h : OneC w0 w D n (Pd.new n) c) :
    Calls Tryd.prog 32 #[.pointer (some ⟨D, 0, none⟩)] w fun e w' => ∃ L v c', e = .returned (.tuple #[.pointer (some ⟨L, 0, none⟩), v, .int .i64 0]) ∧ Log1 w0 w' D n L [] 0 c' ∧ CoolR w' c' v [] := by
  obtain ⟨e1, e2, e3⟩ := openD_new n
  refine (h.opened hT (by rw [e1])).mono ?_
  rw [e1, e2, e3]
  rintro e w' ⟨c', L, v, rfl, hl, -, hr⟩
  exact ⟨L, v, c', rfl, ⟨_, hl, calm_new n⟩, hr⟩
/-- Opened again. -/
theorem Log1.again (hT : Tab w0) (h : Log1 w0 w D n L ts Y c) :
    Calls Tryd.prog 32 #[.pointer (some ⟨D, 0, none⟩)] w fun e w' => ∃ L' v c', e = .returned (.tuple #[.pointer (some ⟨L', 0, none⟩), v, .int .i64 0]) ∧ Log1 w0 w' D n L' ts ts.length c' ∧ CoolR w' c' v ts ∧ Step c 1 w c' w' := by
  obtain ⟨m, h1, h2⟩ := h
  obtain ⟨e1, e2, e3⟩ := h2.opened
  refine (h1.one.opened hT (by rw [e1])).mono ?_
  rw [e1, e2, e3]
  rintro e w' ⟨c', L, v, rfl, hl, hs, hr⟩
  exact ⟨L, v, c', rfl, ⟨m, hl, h2⟩, hr, hs⟩
theorem Log1.append (hT : Tab w0) (h : Log1 w0 w D n L ts Y c) (v : Value) (t : List UInt8) (hr : Rd w v t) (ht : t.length ≤ 8192) (hf : (pads ts).length + (pad t).length ≤ 32 * n) :
    Calls Tryd.prog 14 #[.pointer (some ⟨L, 0, none⟩), v] w fun e w' => e = .returned (.int .i64 0) ∧ ∃ c', Log1 w0 w' D n L (ts ++ [t]) Y c' ∧ StepL c 1 L w c' w' := by
  obtain ⟨hl1, hl2, hl3⟩ := h.le
  obtain ⟨m, h1, h2⟩ := h
  obtain ⟨e1, e2⟩ := h2.append t ht hf
  refine (h1.append hT v t hr (by omega) (by omega)).mono ?_
  rw [e1]
  rintro e w' ⟨rfl, c', hl, hs⟩
  refine ⟨rfl, c', ⟨_, ?_, e2⟩, hs⟩
  rw [pads_append, pads_one, List.length_append, List.length_append]
  simpa using hl
theorem Log1.full (hT : Tab w0) (h : Log1 w0 w D n L ts Y c) (v : Value) (t : List UInt8) (hr : Rd w v t) (ht : t.length ≤ 8192) (hf : ¬ (pads ts).length + (pad t).length ≤ 32 * n) :
    Calls Tryd.prog 14 #[.pointer (some ⟨L, 0, none⟩), v] w fun e w' => e = .returned (.int .i64 6) ∧ ∃ c', Log1 w0 w' D n L ts Y c' ∧ StepL c 1 L w c' w' := by
  obtain ⟨hl1, hl2, hl3⟩ := h.le
  obtain ⟨m, h1, h2⟩ := h
  have e1 := h2.full t ht hf
  refine (h1.append hT v t hr (by omega) (by omega)).mono ?_
  rw [e1]
  rintro e w' ⟨rfl, c', hl, hs⟩
  exact ⟨rfl, c', ⟨m, hl, h2⟩, hs⟩
theorem Log1.long (hT : Tab w0) (h : Log1 w0 w D n L ts Y c) (v : Value) (t : List UInt8) (hr : Rd w v t) (ht : 8192 < t.length) :
    Calls Tryd.prog 14 #[.pointer (some ⟨L, 0, none⟩), v] w fun e w' => e = .returned (.int .i64 12) ∧ ∃ c', Log1 w0 w' D n L ts Y c' ∧ StepL c 1 L w c' w' := by
  obtain ⟨hl1, hl2, hl3⟩ := h.le
  obtain ⟨m, h1, h2⟩ := h
  have e1 := h2.long t ht
  refine (h1.append hT v t hr (by omega) (by omega)).mono ?_
  rw [e1]
  rintro e w' ⟨rfl, c', hl, hs⟩
  exact ⟨rfl, c', ⟨m, hl, h2⟩, hs⟩
theorem Log1.sync (h : Log1 w0 w D n L ts Y c) :
    Calls Tryd.prog 16 #[.pointer (some ⟨L, 0, none⟩)] w fun e w' => e = .returned (.int .i64 0) ∧ ∃ c', Log1 w0 w' D n L ts ts.length c' ∧ StepL c 1 L w c' w' := by
  obtain ⟨m, h1, h2⟩ := h
  obtain ⟨e1, e2⟩ := h2.sync
  refine h1.sync.mono ?_
  rw [e1]
  rintro e w' ⟨rfl, c', hl, hs⟩
  exact ⟨rfl, c', ⟨_, hl, e2⟩, hs⟩
theorem Log1.end_ (h : Log1 w0 w D n L ts Y c) : Calls Tryd.prog 26 #[.pointer (some ⟨L, 0, none⟩)] w fun e w' => e = .returned (.int .i64 ((pads ts).length : Int)) ∧ w' = w := by obtain ⟨m, h1, _⟩ := h; exact wEnd_any h1.log
theorem Log1.count (h : Log1 w0 w D n L ts Y c) : Calls Tryd.prog 27 #[.pointer (some ⟨L, 0, none⟩)] w fun e w' => e = .returned (.int .i64 (ts.length : Int)) ∧ w' = w := by obtain ⟨m, h1, _⟩ := h; exact wCount_any h1.log
theorem Log1.synced (h : Log1 w0 w D n L ts Y c) : Calls Tryd.prog 28 #[.pointer (some ⟨L, 0, none⟩)] w fun e w' => e = .returned (.int .i64 (Y : Int)) ∧ w' = w := by obtain ⟨m, h1, _⟩ := h; exact wSynced_any h1.log
end
#print axioms Log1.append
end Go.Proofs.YtgdhjgfoalianaaDoor
