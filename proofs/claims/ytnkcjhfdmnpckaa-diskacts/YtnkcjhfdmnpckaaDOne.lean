/-
  One disk that a law made: its acts.
-/
import Derived.Test.YtnkcjhfdmnpckaaDiskK
namespace Go.Proofs.Ytnkcjhfdmnpckaa
open Go.RowKit
open Pd (DM)
theorem cell_of_row {W : World} {b j : Nat} {T : TypeId} {fr : Nat × Nat} {cs : Array Value} (h : W.heap[b]? = some (.cells cs T fr)) : W.cell? ⟨b, j, none⟩ = cs[j]? := by simp [World.cell?, h]
theorem rd_new {W : World} {L : List UInt8} {fr : Nat × Nat} (hL : L.length ≤ 1000000) : Rd (W.alloc (.cells (By L).toArray 5 fr)) (.slice (some ⟨W.heap.size, 0, none⟩) L.length L.length) L := by
  refine ⟨_, _, rfl, Nat.le_refl _, by simp only [maxLen]; omega, fun h => by simp at h, fun _ => ⟨_, 0, rfl, by simp, fun j u hj => ?_⟩⟩
  rw [cell_of_row (heap_alloc_new W _)]
  simpa using hj
theorem rdN_new {W : World} {L : List Int} {fr : Nat × Nat} (hL : L.length ≤ 1000000) : RdN (W.alloc (.cells (Ni L).toArray 3 fr)) (.slice (some ⟨W.heap.size, 0, none⟩) L.length L.length) L := by
  refine ⟨_, _, rfl, Nat.le_refl _, by simp only [maxLen]; omega, fun h => by simp at h, fun _ => ⟨_, 0, rfl, by simp, fun j hj => ?_⟩⟩
  rw [cell_of_row (heap_alloc_new W _), Nat.zero_add]
  simpa using Ni_get hj
/-- Above the heap there is no colour. -/
def Norm (c : Nat → Nat) (w : World) : Prop := ∀ k, w.heap.size ≤ k → c k = 0
theorem Norm.kept {c : Nat → Nat} {w w' : World} (h : Norm c w) (hs : w.heap.size ≤ w'.heap.size) : Norm c w' := fun k hk => h k (Nat.le_trans hs hk)
theorem Norm.cool {c : Nat → Nat} {w : World} (h : Norm c w) {v : Value} (hv : ∀ x, InB v x → w.heap.size ≤ x) : Cool c v := fun x hx => h x (hv x hx)
theorem InB_at {g k cp x : Nat} (h : InB (.slice (some ⟨g, 0, none⟩) k cp) x) : x = g := by obtain ⟨_, _, _, e, _⟩ := h; cases e; rfl
/-- Blocks below B have no colour. -/
def Low (c : Nat → Nat) (B : Nat) : Prop := ∀ k, k < B → c k = 0
theorem Low.step {c c' : Nat → Nat} {i B : Nat} {w w' : World} (h : Low c B) (hs : Step c i w c' w') (hB : B ≤ w.heap.size) : Low c' B := fun k hk => (hs.ext k (by omega)).trans (h k hk)
/-- A disk that was made since w0. -/
def One (w0 w : World) (D n : Nat) (m : DM) : Prop := ∃ c, IsD w c 1 D n m ∧ Norm c w ∧ Low c w0.heap.size ∧ Below w0.heap.size w0 w
section
variable {w0 w : World} {D n : Nat} {m : DM}
theorem One.below (h : One w0 w D n m) : Below w0.heap.size w0 w := by obtain ⟨c, _, _, _, hb⟩ := h; exact hb
theorem One.ok (h : One w0 w D n m) : Pd.Ok n m ∧ Pd.Dark m ∧ 0 < n ∧ n ≤ 4096 := by obtain ⟨c, h, _⟩ := h; exact h.ok
theorem One.kept {w' : World} (h : One w0 w D n m) (hb : Below w.heap.size w w') : One w0 w' D n m := by
  obtain ⟨c, h1, h2, h3, h4⟩ := h
  exact ⟨c, h1.kept hb (fun _ _ => rfl), h2.kept hb.size, h3, h4.trans (hb.mono h4.size)⟩
theorem One.step {c c' : Nat → Nat} {w' : World} {m' : DM} (hI : IsD w' c' 1 D n m') (hs : Step c 1 w c' w') (h3 : Low c w0.heap.size) (h4 : Below w0.heap.size w0 w) : One w0 w' D n m' :=
  ⟨c', hI, hs.norm, h3.step hs h4.size, h4.trans (hs.below (by decide) h4.size h3)⟩
theorem One.new (w : World) (n : Nat) (h1 : 0 < n) (h2 : n ≤ 4096) : Calls Try.prog 11 #[.int .i64 (n : Int)] w fun e w' => ∃ D, e = .returned (.pointer (some ⟨D, 0, none⟩)) ∧ One w w' D n (Pd.new n) := by
  refine (dNew_any w (fun _ => 0) 1 (by decide) n h1 h2).mono ?_
  rintro e w' ⟨D, rfl, c', hD, hs, hb, _⟩
  exact ⟨D, rfl, c', hD, hs.norm, fun k hk => hs.ext k hk, hb⟩
theorem One.write (h : One w0 w D n m) (p : Int) (hp : (Lit.int .i64 p).wf = true) (v : Value) (b : List UInt8) (hr : Rd w0 v b) :
    Calls Try.prog 15 #[.pointer (some ⟨D, 0, none⟩), .int .i64 p, v] w fun e w' => e = .returned (.int .i64 ((Pd.write m p b).1 : Int)) ∧ One w0 w' D n (Pd.write m p b).2 := by
  obtain ⟨c, h1, h2, h3, h4⟩ := h
  refine (dWrite_any h1 h2 p hp v b (hr.kept h4) (fun x hx => h3 x (hr.inB_lt hx))).mono ?_
  rintro e w' ⟨rfl, c', hI, hs⟩
  exact ⟨rfl, One.step hI hs h3 h4⟩
theorem One.writeN (h : One w0 w D n m) (p : Int) (hp : (Lit.int .i64 p).wf = true) (b : List UInt8) (hb : b.length ≤ 1000000) (fr : Nat × Nat) :
    Calls Try.prog 15 #[.pointer (some ⟨D, 0, none⟩), .int .i64 p, .slice (some ⟨w.heap.size, 0, none⟩) b.length b.length] (w.alloc (.cells (By b).toArray 5 fr)) fun e w' => e = .returned (.int .i64 ((Pd.write m p b).1 : Int)) ∧ One w0 w' D n (Pd.write m p b).2 := by
  obtain ⟨c, h1, h2, h3, h4⟩ := h
  have hba : Below w.heap.size w (w.alloc (.cells (By b).toArray 5 fr)) := (Below.refl _ _).alloc (Nat.le_refl _) _
  have h4' := h4.trans (hba.mono h4.size)
  refine (dWrite_any (h1.kept hba (fun _ _ => rfl)) (h2.kept hba.size) p hp _ b (rd_new hb) (h2.cool (fun x hx => by rw [InB_at hx]; exact Nat.le_refl _))).mono ?_
  rintro e w' ⟨rfl, c', hI, hs⟩
  exact ⟨rfl, One.step hI hs h3 h4'⟩
theorem One.read (h : One w0 w D n m) (p k : Int) (hp : (Lit.int .i64 p).wf = true) :
    Calls Try.prog 18 #[.pointer (some ⟨D, 0, none⟩), .int .i64 p, .int .i64 k] w fun e w' => ∃ v, e = .returned (.tuple #[v, .int .i64 ((Pd.read m p k).2 : Int)]) ∧ Rd w' v (Pd.read m p k).1 ∧ One w0 w' D n m ∧ Below w.heap.size w w' := by
  have hO := h
  obtain ⟨c, h1, h2, h3, h4⟩ := h
  refine (dRead_any h1 p k hp).mono ?_
  rintro e w' ⟨v, rfl, hr, _, hb⟩
  exact ⟨v, rfl, hr, hO.kept hb, hb⟩
theorem One.sync (h : One w0 w D n m) : Calls Try.prog 16 #[.pointer (some ⟨D, 0, none⟩)] w fun e w' => e = .returned (.int .i64 ((Pd.sync m).1 : Int)) ∧ One w0 w' D n (Pd.sync m).2 := by
  obtain ⟨c, h1, h2, h3, h4⟩ := h
  refine (dSync_any h1 h2).mono ?_
  rintro e w' ⟨rfl, c', hI, hs⟩
  exact ⟨rfl, One.step hI hs h3 h4⟩
theorem One.crash (h : One w0 w D n m) (v : Value) (l : List Int) (t : Int) (hr : RdN w0 v l) (hl : ∀ k ∈ l, (Lit.int .i64 k).wf = true) :
    Calls Try.prog 21 #[.pointer (some ⟨D, 0, none⟩), v, .int .i64 t] w fun e w' => e = .returned (.bool (Pd.crashed m l t).1) ∧ One w0 w' D n (Pd.crashed m l t).2 := by
  obtain ⟨c, h1, h2, h3, h4⟩ := h
  refine (dCrash_any h1 h2 v l t (hr.kept h4) hl (fun x hx => h3 x (hr.inB_lt hx))).mono ?_
  rintro e w' ⟨rfl, c', hI, hs⟩
  exact ⟨rfl, One.step hI hs h3 h4⟩
theorem One.crashN (h : One w0 w D n m) (l : List Int) (hl2 : l.length ≤ 1000000) (t : Int) (hl : ∀ k ∈ l, (Lit.int .i64 k).wf = true) (fr : Nat × Nat) :
    Calls Try.prog 21 #[.pointer (some ⟨D, 0, none⟩), .slice (some ⟨w.heap.size, 0, none⟩) l.length l.length, .int .i64 t] (w.alloc (.cells (Ni l).toArray 3 fr)) fun e w' => e = .returned (.bool (Pd.crashed m l t).1) ∧ One w0 w' D n (Pd.crashed m l t).2 := by
  obtain ⟨c, h1, h2, h3, h4⟩ := h
  have hba : Below w.heap.size w (w.alloc (.cells (Ni l).toArray 3 fr)) := (Below.refl _ _).alloc (Nat.le_refl _) _
  have h4' := h4.trans (hba.mono h4.size)
  refine (dCrash_any (h1.kept hba (fun _ _ => rfl)) (h2.kept hba.size) _ l t (rdN_new hl2) hl (h2.cool (fun x hx => by rw [InB_at hx]; exact Nat.le_refl _))).mono ?_
  rintro e w' ⟨rfl, c', hI, hs⟩
  exact ⟨rfl, One.step hI hs h3 h4'⟩
theorem One.arm (h : One w0 w D n m) (ops : Int) (hops : (Lit.int .i64 ops).wf = true) (v : Value) (l : List Int) (t : Int) (hr : RdN w0 v l) (hl : ∀ k ∈ l, (Lit.int .i64 k).wf = true) (hl2 : l.length ≤ 1000000) :
    Calls Try.prog 24 #[.pointer (some ⟨D, 0, none⟩), .int .i64 ops, v, .int .i64 t] w fun e w' => e = .returned (.tuple #[]) ∧ One w0 w' D n (Pd.arm m ops l t) := by
  obtain ⟨c, h1, h2, h3, h4⟩ := h
  refine (dArm_any h1 ops hops v l t (hr.kept h4) hl hl2 (fun x hx => h3 x (hr.inB_lt hx))).mono ?_
  rintro e w' ⟨rfl, c', hI, hs⟩
  exact ⟨rfl, One.step hI hs h3 h4⟩
theorem One.armN (h : One w0 w D n m) (ops : Int) (hops : (Lit.int .i64 ops).wf = true) (l : List Int) (t : Int) (hl : ∀ k ∈ l, (Lit.int .i64 k).wf = true) (hl2 : l.length ≤ 1000000) (fr : Nat × Nat) :
    Calls Try.prog 24 #[.pointer (some ⟨D, 0, none⟩), .int .i64 ops, .slice (some ⟨w.heap.size, 0, none⟩) l.length l.length, .int .i64 t] (w.alloc (.cells (Ni l).toArray 3 fr)) fun e w' => e = .returned (.tuple #[]) ∧ One w0 w' D n (Pd.arm m ops l t) := by
  obtain ⟨c, h1, h2, h3, h4⟩ := h
  have hba : Below w.heap.size w (w.alloc (.cells (Ni l).toArray 3 fr)) := (Below.refl _ _).alloc (Nat.le_refl _) _
  have h4' := h4.trans (hba.mono h4.size)
  refine (dArm_any (h1.kept hba (fun _ _ => rfl)) ops hops _ l t (rdN_new hl2) hl hl2 (h2.cool (fun x hx => by rw [InB_at hx]; exact Nat.le_refl _))).mono ?_
  rintro e w' ⟨rfl, c', hI, hs⟩
  exact ⟨rfl, One.step hI hs h3 h4'⟩
theorem One.start (h : One w0 w D n m) : Calls Try.prog 22 #[.pointer (some ⟨D, 0, none⟩)] w fun e w' => e = .returned (.bool (Pd.start m).1) ∧ One w0 w' D n (Pd.start m).2 := by
  obtain ⟨c, h1, h2, h3, h4⟩ := h
  refine (dStart_any h1 h2).mono ?_
  rintro e w' ⟨rfl, hI, hs⟩
  exact ⟨rfl, One.step hI hs h3 h4⟩
theorem One.on (h : One w0 w D n m) : Calls Try.prog 25 #[.pointer (some ⟨D, 0, none⟩)] w fun e w' => e = .returned (.bool (!m.off)) ∧ w' = w := by
  obtain ⟨c, h1, _⟩ := h
  exact dOn_any h1
theorem One.size (h : One w0 w D n m) : Calls Try.prog 19 #[.pointer (some ⟨D, 0, none⟩)] w fun e w' => e = .returned (.int .i64 ((32 * n : Nat) : Int)) ∧ w' = w := by
  obtain ⟨c, h1, _⟩ := h
  exact dSize_any h1
theorem One.dirty (h : One w0 w D n m) : Calls Try.prog 17 #[.pointer (some ⟨D, 0, none⟩)] w fun e w' => ∃ v, e = .returned v ∧ RdN w' v (Nats m.dirty) ∧ One w0 w' D n m ∧ Below w.heap.size w w' := by
  have hO := h
  obtain ⟨c, h1, _⟩ := h
  refine (dDirty_any h1).mono ?_
  rintro e w' ⟨v, rfl, hr, _, hb⟩
  exact ⟨v, rfl, hr, hO.kept hb, hb⟩
end
end Go.Proofs.Ytnkcjhfdmnpckaa
