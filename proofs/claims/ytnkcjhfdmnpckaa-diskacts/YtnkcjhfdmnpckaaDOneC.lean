/-
  One disk that a law made, and blocks of the law's own: its acts.
-/
import Derived.Test.YtnkcjhfdmnpckaaDOne
namespace Go.Proofs.Ytnkcjhfdmnpckaa
open Go.RowKit
open Pd (DM)
/-- A disk that was made since w0, and the colours. -/
def OneC (w0 w : World) (D n : Nat) (m : DM) (c : Nat → Nat) : Prop := IsD w c 1 D n m ∧ Norm c w ∧ Low c w0.heap.size ∧ Below w0.heap.size w0 w
section
variable {w0 w : World} {D n : Nat} {m : DM} {c : Nat → Nat}
theorem Step.ahead {i : Nat} {c' : Nat → Nat} {w1 w' : World} (hs : Step c i w1 c' w') (hb : Below w.heap.size w w1) : Step c i w c' w' :=
  ⟨(Chg.of_below hb).trans hs.chg, fun k hk => hs.ext k (Nat.lt_of_lt_of_le hk hb.size), hs.norm⟩
theorem OneC.below (h : OneC w0 w D n m c) : Below w0.heap.size w0 w := h.2.2.2
theorem OneC.ok (h : OneC w0 w D n m c) : Pd.Ok n m ∧ Pd.Dark m ∧ 0 < n ∧ n ≤ 4096 := h.1.ok
theorem OneC.kept {w' : World} (h : OneC w0 w D n m c) (hb : Below w.heap.size w w') : OneC w0 w' D n m c := by
  obtain ⟨h1, h2, h3, h4⟩ := h
  exact ⟨h1.kept hb (fun _ _ => rfl), h2.kept hb.size, h3, h4.trans (hb.mono h4.size)⟩
/-- A new block of colour 9 is the law's own. -/
theorem OneC.mine (h : OneC w0 w D n m c) (o : Obj) : ∃ c', OneC w0 (w.alloc o) D n m c' ∧ c' w.heap.size = 9 ∧ ∀ k, k < w.heap.size → c' k = c k := by
  obtain ⟨h1, h2, h3, h4⟩ := h
  have hba : Below w.heap.size w (w.alloc o) := (Below.refl _ _).alloc (Nat.le_refl _) _
  have he : ∀ k, k < w.heap.size → (if k = w.heap.size then 9 else c k) = c k := fun k hk => if_neg (by omega)
  refine ⟨fun k => if k = w.heap.size then 9 else c k, ⟨h1.kept hba he, fun k hk => ?_, fun k hk => ?_, h4.trans (hba.mono h4.size)⟩, if_pos rfl, he⟩
  · simp at hk
    show (if k = w.heap.size then 9 else c k) = 0
    rw [if_neg (by omega)]
    exact h2 k (by omega)
  · have := h4.size
    show (if k = w.heap.size then 9 else c k) = 0
    rw [if_neg (by omega)]
    exact h3 k hk
/-- The law writes to blocks of its own. -/
theorem OneC.chg {w' : World} (h : OneC w0 w D n m c) {F : Nat → Prop} (hc : Chg F w w') (hF : ∀ k, F k → k < w.heap.size → c k = 9) : OneC w0 w' D n m c := by
  obtain ⟨h1, h2, h3, h4⟩ := h
  refine ⟨h1.chg hc (fun k hk e f => by have := hF k f hk; omega) (fun _ _ => rfl), h2.kept hc.size, h3, h4.trans (hc.below h4.size (fun k hk f => ?_))⟩
  have h5 := hF k f (by have := h4.size; omega)
  have h6 := h3 k hk
  omega
theorem OneC.other {c' : Nat → Nat} {w' : World} {G : Nat} (hs : Step c 1 w c' w') (hG : c G = 9) (hlt : G < w.heap.size) : c' G = 9 ∧ w'.heap[G]? = w.heap[G]? := ⟨(hs.ext G hlt).trans hG, hs.chg.block G hlt (by omega)⟩
theorem Blk.other {c' : Nat → Nat} {w' : World} {G : Nat} {T : TypeId} {cs : List Value} (h : Blk w G T cs) (hs : Step c 1 w c' w') (hG : c G = 9) : Blk w' G T cs ∧ c' G = 9 := ⟨(hs.chg.block G h.lt (by omega)).trans h, (hs.ext G h.lt).trans hG⟩
theorem OneC.step {c' : Nat → Nat} {w' : World} {m' : DM} (hI : IsD w' c' 1 D n m') (hs : Step c 1 w c' w') (h3 : Low c w0.heap.size) (h4 : Below w0.heap.size w0 w) : OneC w0 w' D n m' c' :=
  ⟨hI, hs.norm, h3.step hs h4.size, h4.trans (hs.below (by decide) h4.size h3)⟩
theorem OneC.new (w : World) (n : Nat) (h1 : 0 < n) (h2 : n ≤ 4096) : Calls Try.prog 11 #[.int .i64 (n : Int)] w fun e w' => ∃ D, e = .returned (.pointer (some ⟨D, 0, none⟩)) ∧ ∃ c, OneC w w' D n (Pd.new n) c := by
  refine (dNew_any w (fun _ => 0) 1 (by decide) n h1 h2).mono ?_
  rintro e w' ⟨D, rfl, c', hD, hs, hb, _⟩
  exact ⟨D, rfl, c', hD, hs.norm, fun k hk => hs.ext k hk, hb⟩
theorem OneC.write (h : OneC w0 w D n m c) (p : Int) (hp : (Lit.int .i64 p).wf = true) (v : Value) (b : List UInt8) (hr : Rd w0 v b) :
    Calls Try.prog 15 #[.pointer (some ⟨D, 0, none⟩), .int .i64 p, v] w fun e w' => e = .returned (.int .i64 ((Pd.write m p b).1 : Int)) ∧ ∃ c', OneC w0 w' D n (Pd.write m p b).2 c' ∧ Step c 1 w c' w' := by
  obtain ⟨h1, h2, h3, h4⟩ := h
  refine (dWrite_any h1 h2 p hp v b (hr.kept h4) (fun x hx => h3 x (hr.inB_lt hx))).mono ?_
  rintro e w' ⟨rfl, c', hI, hs⟩
  exact ⟨rfl, c', OneC.step hI hs h3 h4, hs⟩
theorem OneC.writeN (h : OneC w0 w D n m c) (p : Int) (hp : (Lit.int .i64 p).wf = true) (b : List UInt8) (hb : b.length ≤ 1000000) (fr : Nat × Nat) :
    Calls Try.prog 15 #[.pointer (some ⟨D, 0, none⟩), .int .i64 p, .slice (some ⟨w.heap.size, 0, none⟩) b.length b.length] (w.alloc (.cells (By b).toArray 5 fr)) fun e w' => e = .returned (.int .i64 ((Pd.write m p b).1 : Int)) ∧ ∃ c', OneC w0 w' D n (Pd.write m p b).2 c' ∧ Step c 1 w c' w' := by
  obtain ⟨h1, h2, h3, h4⟩ := h
  have hba : Below w.heap.size w (w.alloc (.cells (By b).toArray 5 fr)) := (Below.refl _ _).alloc (Nat.le_refl _) _
  have h4' := h4.trans (hba.mono h4.size)
  refine (dWrite_any (h1.kept hba (fun _ _ => rfl)) (h2.kept hba.size) p hp _ b (rd_new hb) (h2.cool (fun x hx => by rw [InB_at hx]; exact Nat.le_refl _))).mono ?_
  rintro e w' ⟨rfl, c', hI, hs⟩
  exact ⟨rfl, c', OneC.step hI hs h3 h4', hs.ahead hba⟩
theorem OneC.read (h : OneC w0 w D n m c) (p k : Int) (hp : (Lit.int .i64 p).wf = true) :
    Calls Try.prog 18 #[.pointer (some ⟨D, 0, none⟩), .int .i64 p, .int .i64 k] w fun e w' => ∃ v, e = .returned (.tuple #[v, .int .i64 ((Pd.read m p k).2 : Int)]) ∧ Rd w' v (Pd.read m p k).1 ∧ OneC w0 w' D n m c ∧ Below w.heap.size w w' := by
  have hO := h
  obtain ⟨h1, h2, h3, h4⟩ := h
  refine (dRead_any h1 p k hp).mono ?_
  rintro e w' ⟨v, rfl, hr, _, hb⟩
  exact ⟨v, rfl, hr, hO.kept hb, hb⟩
theorem OneC.sync (h : OneC w0 w D n m c) : Calls Try.prog 16 #[.pointer (some ⟨D, 0, none⟩)] w fun e w' => e = .returned (.int .i64 ((Pd.sync m).1 : Int)) ∧ ∃ c', OneC w0 w' D n (Pd.sync m).2 c' ∧ Step c 1 w c' w' := by
  obtain ⟨h1, h2, h3, h4⟩ := h
  refine (dSync_any h1 h2).mono ?_
  rintro e w' ⟨rfl, c', hI, hs⟩
  exact ⟨rfl, c', OneC.step hI hs h3 h4, hs⟩
theorem OneC.crash (h : OneC w0 w D n m c) (v : Value) (l : List Int) (t : Int) (hr : RdN w0 v l) (hl : ∀ k ∈ l, (Lit.int .i64 k).wf = true) :
    Calls Try.prog 21 #[.pointer (some ⟨D, 0, none⟩), v, .int .i64 t] w fun e w' => e = .returned (.bool (Pd.crashed m l t).1) ∧ ∃ c', OneC w0 w' D n (Pd.crashed m l t).2 c' ∧ Step c 1 w c' w' := by
  obtain ⟨h1, h2, h3, h4⟩ := h
  refine (dCrash_any h1 h2 v l t (hr.kept h4) hl (fun x hx => h3 x (hr.inB_lt hx))).mono ?_
  rintro e w' ⟨rfl, c', hI, hs⟩
  exact ⟨rfl, c', OneC.step hI hs h3 h4, hs⟩
theorem OneC.crashN (h : OneC w0 w D n m c) (l : List Int) (hl2 : l.length ≤ 1000000) (t : Int) (hl : ∀ k ∈ l, (Lit.int .i64 k).wf = true) (fr : Nat × Nat) :
    Calls Try.prog 21 #[.pointer (some ⟨D, 0, none⟩), .slice (some ⟨w.heap.size, 0, none⟩) l.length l.length, .int .i64 t] (w.alloc (.cells (Ni l).toArray 3 fr)) fun e w' => e = .returned (.bool (Pd.crashed m l t).1) ∧ ∃ c', OneC w0 w' D n (Pd.crashed m l t).2 c' ∧ Step c 1 w c' w' := by
  obtain ⟨h1, h2, h3, h4⟩ := h
  have hba : Below w.heap.size w (w.alloc (.cells (Ni l).toArray 3 fr)) := (Below.refl _ _).alloc (Nat.le_refl _) _
  have h4' := h4.trans (hba.mono h4.size)
  refine (dCrash_any (h1.kept hba (fun _ _ => rfl)) (h2.kept hba.size) _ l t (rdN_new hl2) hl (h2.cool (fun x hx => by rw [InB_at hx]; exact Nat.le_refl _))).mono ?_
  rintro e w' ⟨rfl, c', hI, hs⟩
  exact ⟨rfl, c', OneC.step hI hs h3 h4', hs.ahead hba⟩
theorem OneC.arm (h : OneC w0 w D n m c) (ops : Int) (hops : (Lit.int .i64 ops).wf = true) (v : Value) (l : List Int) (t : Int) (hr : RdN w0 v l) (hl : ∀ k ∈ l, (Lit.int .i64 k).wf = true) (hl2 : l.length ≤ 1000000) :
    Calls Try.prog 24 #[.pointer (some ⟨D, 0, none⟩), .int .i64 ops, v, .int .i64 t] w fun e w' => e = .returned (.tuple #[]) ∧ ∃ c', OneC w0 w' D n (Pd.arm m ops l t) c' ∧ Step c 1 w c' w' := by
  obtain ⟨h1, h2, h3, h4⟩ := h
  refine (dArm_any h1 ops hops v l t (hr.kept h4) hl hl2 (fun x hx => h3 x (hr.inB_lt hx))).mono ?_
  rintro e w' ⟨rfl, c', hI, hs⟩
  exact ⟨rfl, c', OneC.step hI hs h3 h4, hs⟩
theorem OneC.armN (h : OneC w0 w D n m c) (ops : Int) (hops : (Lit.int .i64 ops).wf = true) (l : List Int) (t : Int) (hl : ∀ k ∈ l, (Lit.int .i64 k).wf = true) (hl2 : l.length ≤ 1000000) (fr : Nat × Nat) :
    Calls Try.prog 24 #[.pointer (some ⟨D, 0, none⟩), .int .i64 ops, .slice (some ⟨w.heap.size, 0, none⟩) l.length l.length, .int .i64 t] (w.alloc (.cells (Ni l).toArray 3 fr)) fun e w' => e = .returned (.tuple #[]) ∧ ∃ c', OneC w0 w' D n (Pd.arm m ops l t) c' ∧ Step c 1 w c' w' := by
  obtain ⟨h1, h2, h3, h4⟩ := h
  have hba : Below w.heap.size w (w.alloc (.cells (Ni l).toArray 3 fr)) := (Below.refl _ _).alloc (Nat.le_refl _) _
  have h4' := h4.trans (hba.mono h4.size)
  refine (dArm_any (h1.kept hba (fun _ _ => rfl)) ops hops _ l t (rdN_new hl2) hl hl2 (h2.cool (fun x hx => by rw [InB_at hx]; exact Nat.le_refl _))).mono ?_
  rintro e w' ⟨rfl, c', hI, hs⟩
  exact ⟨rfl, c', OneC.step hI hs h3 h4', hs.ahead hba⟩
theorem OneC.start (h : OneC w0 w D n m c) : Calls Try.prog 22 #[.pointer (some ⟨D, 0, none⟩)] w fun e w' => e = .returned (.bool (Pd.start m).1) ∧ ∃ c', OneC w0 w' D n (Pd.start m).2 c' ∧ Step c 1 w c' w' := by
  obtain ⟨h1, h2, h3, h4⟩ := h
  refine (dStart_any h1 h2).mono ?_
  rintro e w' ⟨rfl, hI, hs⟩
  exact ⟨rfl, c, OneC.step hI hs h3 h4, hs⟩
theorem OneC.on (h : OneC w0 w D n m c) : Calls Try.prog 25 #[.pointer (some ⟨D, 0, none⟩)] w fun e w' => e = .returned (.bool (!m.off)) ∧ w' = w := by
  obtain ⟨h1, _⟩ := h
  exact dOn_any h1
theorem OneC.size (h : OneC w0 w D n m c) : Calls Try.prog 19 #[.pointer (some ⟨D, 0, none⟩)] w fun e w' => e = .returned (.int .i64 ((32 * n : Nat) : Int)) ∧ w' = w := by
  obtain ⟨h1, _⟩ := h
  exact dSize_any h1
theorem OneC.dirty (h : OneC w0 w D n m c) : Calls Try.prog 17 #[.pointer (some ⟨D, 0, none⟩)] w fun e w' => ∃ v, e = .returned v ∧ RdN w' v (Nats m.dirty) ∧ OneC w0 w' D n m c ∧ Below w.heap.size w w' := by
  have hO := h
  obtain ⟨h1, _⟩ := h
  refine (dDirty_any h1).mono ?_
  rintro e w' ⟨v, rfl, hr, _, hb⟩
  exact ⟨v, rfl, hr, hO.kept hb, hb⟩
end
end Go.Proofs.Ytnkcjhfdmnpckaa
