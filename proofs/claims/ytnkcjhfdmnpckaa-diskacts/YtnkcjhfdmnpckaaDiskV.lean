/-
  A disk and its colour: Start, On, Size, Dirty, Arm, New, Sync: what the calls do.
-/
import Derived.Test.YtnkcjhfdmnpckaaDiskR
namespace Go.Proofs.Ytnkcjhfdmnpckaa
open Go.RowKit
open Pd (spl spl_length spl_get clip clip_le DM)
/-- Block D is a disk of n sectors of colour i (each block has a colour; who writes to a disk writes to blocks of its colour alone; 0: nobody writes to it). -/
def IsD (w : World) (c : Nat → Nat) (i D n : Nat) (m : DM) : Prop :=
  ∃ S M cap N vo vk s, At w D S M n cap N vo vk s ∧ Wf n N s ∧ Rel n s m ∧ c D = i ∧ c S = i ∧ c M = i ∧ (∀ b, vo.ownBlock = some b → c b = i) ∧ (∀ b, InB vk b → c b = 0) ∧ i ≠ 0
/-- What an act on colour i leaves: new blocks have colour j or none. -/
structure Step (c : Nat → Nat) (i : Nat) (w : World) (c' : Nat → Nat) (w' : World) : Prop where
  chg : Chg (fun k => c k = i) w w'
  ext : ∀ k, k < w.heap.size → c' k = c k
  norm : ∀ k, w'.heap.size ≤ k → c' k = 0
theorem Step.size {c : Nat → Nat} {i : Nat} {w : World} {c' : Nat → Nat} {w' : World} (h : Step c i w c' w') : w.heap.size ≤ w'.heap.size := h.chg.size
/-- New blocks from w to w' have colour i. -/
def paint (c : Nat → Nat) (w w' : World) (i : Nat) : Nat → Nat := fun k => if k < w.heap.size then c k else if k < w'.heap.size then i else 0
theorem paint_old {c : Nat → Nat} {w w' : World} {i k : Nat} (h : k < w.heap.size) : paint c w w' i k = c k := if_pos h
theorem paint_new {c : Nat → Nat} {w w' : World} {i k : Nat} (h : w.heap.size ≤ k) (h' : k < w'.heap.size) : paint c w w' i k = i := by
  unfold paint
  rw [if_neg (by omega), if_pos h']
theorem paint_norm {c : Nat → Nat} {w w' : World} {i k : Nat} (hs : w.heap.size ≤ w'.heap.size) (h : w'.heap.size ≤ k) : paint c w w' i k = 0 := by
  unfold paint
  rw [if_neg (by omega), if_neg (by omega)]
theorem Step.of_paint {c : Nat → Nat} {i j : Nat} {w w' : World} (h : Chg (fun k => c k = i) w w') : Step c i w (paint c w w' j) w' := ⟨h, fun _ hk => paint_old hk, fun _ hk => paint_norm h.size hk⟩
theorem own_lt {w : World} {v : Value} {l : List Int} (h : OwnN w v l) {b : Nat} (hb : v.ownBlock = some b) : b < w.heap.size := by
  obtain ⟨cur, hc⟩ := h.block hb
  exact (Array.getElem?_eq_some_iff.1 hc).1
/-- What changes neither its colour nor what nobody writes to leaves it. -/
theorem IsD.chg {w w' : World} {c c' : Nat → Nat} {i D n : Nat} {m : DM} (h : IsD w c i D n m) {F : Nat → Prop} (hc : Chg F w w') (hF : ∀ k, k < w.heap.size → c k = i ∨ c k = 0 → ¬ F k) (he : ∀ k, k < w.heap.size → c' k = c k) : IsD w' c' i D n m := by
  obtain ⟨S, M, cap, N, vo, vk, s, hA, hW, hR, h1, h2, h3, h4, h5, h6⟩ := h
  have l1 := hA.d.lt
  have l2 := hA.sf.lt
  have l3 := hA.mp.lt
  refine ⟨S, M, cap, N, vo, vk, s, hA.chg hc (hF D l1 (.inl h1)) (hF S l2 (.inl h2)) (hF M l3 (.inl h3)) (fun b hb => hF b (own_lt hA.od hb) (.inl (h4 b hb))) (fun b hb => hF b (hA.kp.inB_lt hb) (.inr (h5 b hb))), hW, hR, ?_, ?_, ?_, ?_, ?_, h6⟩
  · rw [he D l1]; exact h1
  · rw [he S l2]; exact h2
  · rw [he M l3]; exact h3
  · intro b hb; rw [he b (own_lt hA.od hb)]; exact h4 b hb
  · intro b hb; rw [he b (hA.kp.inB_lt hb)]; exact h5 b hb
/-- Another disk's act leaves it. -/
theorem IsD.step {w w' : World} {c c' : Nat → Nat} {i j D n : Nat} {m : DM} (h : IsD w c i D n m) (hs : Step c j w c' w') (hij : i ≠ j) (hj : j ≠ 0) : IsD w' c' i D n m :=
  h.chg hs.chg (fun _ _ hk e => hk.elim (fun e' => hij (e' ▸ e)) (fun e' => hj (e'.symm.trans e).symm)) hs.ext
/-- New memory alone leaves it. -/
theorem IsD.kept {w w' : World} {c c' : Nat → Nat} {i D n : Nat} {m : DM} (h : IsD w c i D n m) (hb : Below w.heap.size w w') (he : ∀ k, k < w.heap.size → c' k = c k) : IsD w' c' i D n m :=
  h.chg (F := fun _ => False) (Chg.of_below hb) (fun _ _ _ => id) he
theorem IsD.ok {w : World} {c : Nat → Nat} {i D n : Nat} {m : DM} (h : IsD w c i D n m) : Pd.Ok n m ∧ Pd.Dark m ∧ 0 < n ∧ n ≤ 4096 := by
  obtain ⟨S, M, cap, N, vo, vk, s, hA, hW, hR, -⟩ := h
  exact ⟨hR.ok, hR.dark, hA.pos, hA.max⟩
/-- v is a slice in memory that nobody writes to. -/
def Cool (c : Nat → Nat) (v : Value) : Prop := ∀ b, InB v b → c b = 0
theorem Cool.rd {c c' : Nat → Nat} {w w' : World} {i : Nat} {v : Value} {l : List UInt8} (h : Cool c v) (hr : Rd w v l) (hs : Step c i w c' w') (hi : i ≠ 0) : Rd w' v l ∧ Cool c' v :=
  ⟨hr.chg hs.chg (fun b hb e => hi (e.symm.trans (h b hb))), fun b hb => (hs.ext b (hr.inB_lt hb)).trans (h b hb)⟩
theorem Cool.rdN {c c' : Nat → Nat} {w w' : World} {i : Nat} {v : Value} {l : List Int} (h : Cool c v) (hr : RdN w v l) (hs : Step c i w c' w') (hi : i ≠ 0) : RdN w' v l ∧ Cool c' v :=
  ⟨hr.chg hs.chg (fun b hb e => hi (e.symm.trans (h b hb))), fun b hb => (hs.ext b (hr.inB_lt hb)).trans (h b hb)⟩
theorem Step.below {c c' : Nat → Nat} {i : Nat} {w w' : World} (h : Step c i w c' w') (hi : i ≠ 0) {B : Nat} (hB : B ≤ w.heap.size) (hc : ∀ k, k < B → c k = 0) : Below B w w' :=
  h.chg.below hB (fun k hk e => hi (e.symm.trans (hc k hk)))

section
variable {w : World} {c : Nat → Nat} {i D n : Nat} {m : DM}
theorem dOn_any (h : IsD w c i D n m) : Calls Try.prog 25 #[.pointer (some ⟨D, 0, none⟩)] w fun e w' => e = .returned (.bool (!m.off)) ∧ w' = w := by
  obtain ⟨S, M, cap, N, vo, vk, s, hA, hW, hR, -⟩ := h
  rw [← hR.on]
  exact on_any hA.d hA.pos
theorem dSize_any (h : IsD w c i D n m) : Calls Try.prog 19 #[.pointer (some ⟨D, 0, none⟩)] w fun e w' => e = .returned (.int .i64 ((32 * n : Nat) : Int)) ∧ w' = w := by
  obtain ⟨S, M, cap, N, vo, vk, s, hA, hW, hR, -⟩ := h
  exact size_any hA.d hA.pos hA.max
set_option maxHeartbeats 1000000 in
set_option maxRecDepth 100000 in
theorem dDirty_any (h : IsD w c i D n m) : Calls Try.prog 17 #[.pointer (some ⟨D, 0, none⟩)] w fun e w' => ∃ v, e = .returned v ∧ RdN w' v (Nats m.dirty) ∧ (∀ b, InB v b → w.heap.size ≤ b) ∧ Below w.heap.size w w' := by
  obtain ⟨S, M, cap, N, vo, vk, s, hA, hW, hR, -⟩ := h
  have HA : Hid (At w D S M n cap N vo vk s) := hA
  have HR : Hid (Rel n s m) := hR
  have c3 := hA.d.cell (j := 3) rfl
  have hl : (Nats s.order).length ≤ 1000000 := by
    rw [Nats_length]
    have h1 := hA.max
    have h2 := hW.low
    have : s.order.length ≤ n := by
      have := List.Nodup.length_le_of_subset hW.nodup (l₂ := List.range n) (fun k hk => by simpa using h2 k hk)
      simpa using this
    omega
  clear hA hW hR
  go_enter Try.func17, Try.ntmps17
  go_wp2_with fail
  refine (isMade_any HA.out.d HA.out.pos).mono ?_
  rintro e w1 ⟨rfl, hw⟩; subst hw
  go_wp2_with fail
  refine (cloneI_any HA.out.od.rd hl).mono ?_
  rintro e w2 ⟨v, rfl, ho, hnew, hb⟩
  have HO : Hid _ := ho
  have HN : Hid _ := hnew
  have HB : Hid _ := hb
  clear ho hnew hb
  go_wp2
  go_ret
  refine ⟨v, rfl, by rw [← HR.out.order]; exact OwnN.rd HO.out, fun b hb => ?_, HB.out⟩
  obtain ⟨off, k, cp, rfl, hk⟩ := hb
  exact HN.out b rfl
set_option maxRecDepth 100000 in
theorem start_any {S M cap : Nat} {vo vk : Value} {on : Bool} {ops torn : Int} (hB : Blk w D 56 (DB on S n cap M vo ops vk torn)) (hn : 0 < n) :
    Calls Try.prog 22 #[.pointer (some ⟨D, 0, none⟩)] w fun e w' => e = .returned (.bool (!on)) ∧ w' = (if on then w else w.setCell ⟨D, 0, none⟩ (.bool true)) := by
  have HB : Hid (Blk w D 56 (DB on S n cap M vo ops vk torn)) := hB
  have c0 := hB.cell (j := 0) rfl
  have z0 := hB.frozen 0
  clear hB
  go_enter Try.func22, Try.ntmps22
  go_wp2_with fail
  refine (isMade_any HB.out hn).mono ?_
  rintro e w1 ⟨rfl, hw⟩; subst hw
  cases on with
  | true =>
    go_wp2
    go_ret
    exact ⟨rfl, rfl⟩
  | false =>
    go_wp2
    go_ret
    exact ⟨rfl, rfl⟩
theorem dStart_any (h : IsD w c i D n m) (hc : ∀ k, w.heap.size ≤ k → c k = 0) : Calls Try.prog 22 #[.pointer (some ⟨D, 0, none⟩)] w fun e w' => e = .returned (.bool (Pd.start m).1) ∧ IsD w' c i D n (Pd.start m).2 ∧ Step c i w c w' := by
  obtain ⟨S, M, cap, N, vo, vk, s, hA, hW, hR, h1, h2, h3, h4, h5, h6⟩ := h
  refine (start_any hA.d hA.pos).mono ?_
  rintro e w' ⟨rfl, rfl⟩
  have hon := hR.on
  cases ho : m.off with
  | false =>
    rw [ho] at hon
    have e1 : Pd.start m = (false, m) := by unfold Pd.start; rw [ho]; rfl
    rw [e1, hon]
    exact ⟨rfl, ⟨S, M, cap, N, vo, vk, s, hA, hW, hR, h1, h2, h3, h4, h5, h6⟩, ⟨Chg.refl _ _, fun _ _ => rfl, hc⟩⟩
  | true =>
    rw [ho] at hon
    have e1 : Pd.start m = (true, { m with off := false, dirty := [] }) := by unfold Pd.start; rw [ho]; rfl
    rw [e1, hon]
    have hd := hR.dark ho
    simp only [Bool.not_true, Bool.not_false, Bool.false_eq_true, if_false]
    have hU := Chg.cellD w D 0 (.bool true)
    refine ⟨trivial, ⟨S, M, cap, N, vo, vk, { s with on := true }, ⟨hA.d.set 0 (.bool true), hA.sf.chg hU (fun e => hA.DS e.symm), hA.mp.chg hU (fun e => hA.DM e.symm), hA.od.chg hU (fun b hb e => (hA.VD hb).1 e), hA.kp.chg hU (fun b hb e => h6 (by rw [← h1, ← e]; exact h5 b hb)), hA.kw, hA.pos, hA.max⟩, ⟨hW.nodup, hW.low, hW.keys, hW.cnt⟩, ?_, h1, h2, h3, h4, h5, h6⟩, ⟨hU.mono (fun k _ e => by rw [e]; exact h1), fun _ _ => rfl, fun k hk => hc k (by simpa [World.setCell] using hk)⟩⟩
    refine ⟨rfl, hR.safe, by rw [hR.order, hd], fun k => by rw [← hd]; exact hR.f k, hR.ops, hR.arms, ⟨hR.ok.now, hR.ok.safe, List.nodup_nil, fun k hk => (by cases hk), fun j _ => hR.ok.alike j (by rw [hd]; simp)⟩, fun e => (by cases e), hR.small⟩
end
end Go.Proofs.Ytnkcjhfdmnpckaa
