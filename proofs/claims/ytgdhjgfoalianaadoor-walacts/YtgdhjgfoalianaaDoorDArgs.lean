/-
  What comes in, as the walks ask it: acts.
-/
import Derived.Test.YtgdhjgfoalianaaDoorGK
import Derived.Test.YtgdhjgfoalianaaDoorGDa
import Derived.Deep.Slices
import Derived.Lib.SmallJoins
namespace Go.Proofs.YtgdhjgfoalianaaDoor
open Go.RowKit Go.ChangeShapes Go.WideShapes Go.ChangeAt Go.Deep
set_option maxRecDepth 4000
/-- An act. -/
structure ActP where
  kind : Int
  a : Int
  n : Int
  B : List UInt8
  keep : List Int
/-- The five cells of an act. -/
def AC (a : ActP) (vb vk : Value) : List Value := [.int .i64 a.kind, .int .i64 a.a, .int .i64 a.n, vb, vk]
structure IsA (w : World) (a : ActP) (vb vk : Value) : Prop where
  b : Rd w vb a.B
  k : RdN w vk a.keep
  wk : (Lit.int .i64 a.kind).wf = true
  wa : (Lit.int .i64 a.a).wf = true
  wn : (Lit.int .i64 a.n).wf = true
  ws : ∀ k ∈ a.keep, (Lit.int .i64 k).wf = true
theorem IsA.kept {w w' : World} {a : ActP} {vb vk : Value} (h : IsA w a vb vk) (hb : Below w.heap.size w w') : IsA w' a vb vk := ⟨h.b.kept hb, h.k.kept hb, h.wk, h.wa, h.wn, h.ws⟩
/-- v reads as these acts. -/
def RdL (w : World) (v : Value) (L : List ActP) : Prop :=
  ∃ a cap, v = .slice a L.length cap ∧ L.length ≤ cap ∧ cap ≤ maxLen ∧
    (0 < L.length → ∃ b off, a = some ⟨b, off, none⟩ ∧ b < w.heap.size ∧ ∀ j (h : j < L.length), ∃ vb vk, w.rangeAt b (off + j * 5) (AC L[j] vb vk) ∧ IsA w L[j] vb vk)
theorem RdL.kept {w w' : World} {v : Value} {L : List ActP} (h : RdL w v L) (hb : Below w.heap.size w w') : RdL w' v L := by
  obtain ⟨a, cap, rfl, h1, h2, h3⟩ := h
  refine ⟨a, cap, rfl, h1, h2, fun hp => ?_⟩
  obtain ⟨b, off, rfl, hlt, hx⟩ := h3 hp
  refine ⟨b, off, rfl, Nat.lt_of_lt_of_le hlt hb.size, fun j hj => ?_⟩
  obtain ⟨vb, vk, h4, h5⟩ := hx j hj
  exact ⟨vb, vk, fun i u hi => (hb.cell (p := ⟨b, off + j * 5 + i, none⟩) hlt).trans (h4 i u hi), h5.kept hb⟩
section
variable {H : Type} {enc : TypeId × Value → H} {W : World}
theorem bytes_cell {n : Nat} {vb : Value} {y : DataW H × List MemPlace} (h : DataW.trod enc Tryd.prog W 0 (fun _ => true) true n 33 [vb] = some y) : ∃ l, Rd W vb l := by
  rcases open_ints Tryd.underlying33 Tryd.underlying5 (by kernel_rfl) h with ⟨hcs, _⟩ | ⟨x, l, c, zs, hcs, _, hl, hm, hz, hx, hcell, hwz⟩
  · simp only [List.cons.injEq, and_true] at hcs
    subst hcs
    exact ⟨[], Rd_nil W⟩
  · simp only [List.cons.injEq, and_true] at hcs
    subst hcs
    have hzz : zs.length = c := by simpa using hz
    exact rd_of_row (w := W) (a := some x) (len := l) (cap := c) (zs := zs) (.inr ⟨x, rfl, hl, hm, hzz, hcell, hwz⟩)
theorem ints_cell {n : Nat} {vk : Value} {y : DataW H × List MemPlace} (h : DataW.trod enc Tryd.prog W 0 (fun _ => true) true n 34 [vk] = some y) : ∃ l, RdN W vk l ∧ ∀ k ∈ l, (Lit.int .i64 k).wf = true := by
  rcases open_ints Tryd.underlying34 Tryd.underlying3 (by kernel_rfl) h with ⟨hcs, _⟩ | ⟨x, l, c, zs, hcs, _, hl, hm, hz, hx, hcell, hwz⟩
  · simp only [List.cons.injEq, and_true] at hcs
    subst hcs
    exact ⟨[], RdN_nil W, by simp⟩
  · simp only [List.cons.injEq, and_true] at hcs
    subst hcs
    have hzz : zs.length = c := by simpa using hz
    have hlt : (zs.take l).length = l := by rw [List.length_take]; omega
    refine ⟨zs.take l, ⟨some x, c, by rw [hlt], by rw [hlt]; exact hl, hm, fun h => by simp at h, fun hp => ?_⟩, fun k hk => hwz k (List.mem_of_mem_take hk)⟩
    rw [hlt] at hp
    obtain ⟨b, off, spot⟩ := x
    have h0 := hcell 0 (by omega)
    have hspot : spot = none := by simpa [Addr.add] using World.cell?_spot h0
    subst hspot
    have h0' : W.cell? ⟨b, off, none⟩ = some (.int .i64 (zs.getD 0 0)) := by simpa [Addr.add_lit] using h0
    refine ⟨b, off, rfl, World.block_lt_of_cell? _ _ h0', fun j hj => ?_⟩
    rw [hlt] at hj
    have hc := hcell j (by omega)
    rw [Addr.add_lit] at hc
    rw [hc, List.getElem_take]
    simp [show j < zs.length by omega]
theorem act_cells {n : Nat} {cs : List Value} {y : DataW H × List MemPlace} (h : DataW.trod enc Tryd.prog W 0 (fun _ => true) true n 36 cs = some y) : ∃ a vb vk, cs = AC a vb vk ∧ IsA W a vb vk := by
  obtain ⟨xs, k, _, rfl, hl, hlen, hf⟩ := DataW.trod_struct Tryd.underlying36 h
  have hcl : cs.length = 5 := by rw [hl]; kernel_rfl
  match cs, hcl with
  | [c0, c1, c2, c3, c4], _ =>
    have k3 : Tryd.prog.cellsOf 3 = 1 := by kernel_rfl
    have kb : Tryd.prog.cellsOf 33 = 1 := by kernel_rfl
    have ki : Tryd.prog.cellsOf 34 = 1 := by kernel_rfl
    have hx5 : xs.length = 5 := hlen
    match xs, hx5 with
    | [x0, x1, x2, x3, x4], _ =>
      have g0 : DataW.trod enc Tryd.prog W 0 (fun _ => true) true k 3 [c0] = some x0 := by simpa [k3] using hf 0 _ rfl
      have g1 : DataW.trod enc Tryd.prog W 0 (fun _ => true) true k 3 [c1] = some x1 := by simpa [k3] using hf 1 _ rfl
      have g2 : DataW.trod enc Tryd.prog W 0 (fun _ => true) true k 3 [c2] = some x2 := by simpa [k3] using hf 2 _ rfl
      have g3 : DataW.trod enc Tryd.prog W 0 (fun _ => true) true k 33 [c3] = some x3 := by simpa [kb] using hf 3 _ rfl
      have g4 : DataW.trod enc Tryd.prog W 0 (fun _ => true) true k 34 [c4] = some x4 := by simpa [ki] using hf 4 _ rfl
      obtain ⟨n0, e0, _, w0⟩ := DataW.trod_int Tryd.underlying3 g0
      obtain ⟨n1, e1, _, w1⟩ := DataW.trod_int Tryd.underlying3 g1
      obtain ⟨n2, e2, _, w2⟩ := DataW.trod_int Tryd.underlying3 g2
      obtain ⟨B, hB⟩ := bytes_cell g3
      obtain ⟨K, hK, hKw⟩ := ints_cell g4
      simp only [List.cons.injEq, and_true] at e0 e1 e2
      subst e0 e1 e2
      exact ⟨⟨n0, n1, n2, B, K⟩, c3, c4, rfl, ⟨hB, hK, w0, w1, w2, hKw⟩⟩
theorem act_arg {r : Reach} {base : Nat} {v : Value} {d : DataW H} {p : List MemPlace} (hval : Value.okWide Tryd.prog W r base 36 v) (h : DataW.Trod enc Tryd.prog W 0 (fun _ => true) true 36 v d p) :
    ∃ a, ∃ vb vk, v = .agg (AC a vb vk).toArray ∧ IsA W a vb vk := by
  obtain ⟨cs, rfl, hsz⟩ := okWide_struct Tryd.underlying36 hval
  obtain ⟨fuel, hf⟩ := h
  obtain ⟨a, vb, vk, e, hA⟩ := act_cells hf
  refine ⟨a, vb, vk, ?_, hA⟩
  have e' : cs.toList = AC a vb vk := by simpa [Value.cells] using e
  rw [← e']
theorem acts_arg {r : Reach} {base : Nat} {v : Value} {d : DataW H} {p : List MemPlace} (hval : Value.okWide Tryd.prog W r base 22 v) (h : DataW.Trod enc Tryd.prog W 0 (fun _ => true) true 22 v d p) : ∃ L, RdL W v L := by
  obtain ⟨a, len, cap, rfl⟩ := okWide_slice Tryd.underlying22 hval
  obtain ⟨fuel, hf⟩ := h
  have k5 : Tryd.prog.cellsOf 36 = 5 := by kernel_rfl
  rcases open_slice Tryd.underlying22 hf with ⟨hcs, _⟩ | ⟨x, l, c, m, n, D, Pl, hcs, _, hl, hm, hmm, _, hx⟩
  · simp [Value.cells] at hcs
    obtain ⟨rfl, rfl, rfl⟩ := hcs
    exact ⟨[], none, 0, rfl, by simp, by simp, fun h => by simp at h⟩
  · simp [Value.cells] at hcs
    obtain ⟨rfl, rfl, rfl⟩ := hcs
    have hlm : len ≤ m := by rw [hmm]; simp; exact hl
    have hall : ∀ j, j < len → ∃ a vb vk, W.cells? 0 (x.add (j * 5)) 5 = some (AC a vb vk) ∧ IsA W a vb vk := fun j hj => by
      obtain ⟨cs, h1, h2⟩ := hx j (by omega)
      rw [k5] at h1
      obtain ⟨a, vb, vk, rfl, hA⟩ := act_cells h2
      exact ⟨a, vb, vk, h1, hA⟩
    refine ⟨(List.range len).map fun j => if h : j < len then (hall j h).choose else ⟨0, 0, 0, [], []⟩, some x, cap, by simp, by simpa using hl, hm, fun hp => ?_⟩
    simp only [List.length_map, List.length_range] at hp
    obtain ⟨b, off, spot⟩ := x
    have hcells : ∀ j, j < len → ∀ a vb vk, W.cells? 0 ((⟨b, off, spot⟩ : Addr).add (j * 5)) 5 = some (AC a vb vk) → ∀ i u, (AC a vb vk)[i]? = some u → W.cell? (((⟨b, off, spot⟩ : Addr).add (j * 5)).add i) = some u := fun j hj a vb vk h i u hu => by
      obtain ⟨_, hlen, hc⟩ := World.cells?_some h
      have hi : i < 5 := by have := (List.getElem?_eq_some_iff.1 hu).1; simpa [AC] using this
      rw [hc i hi, hu]
    have h0 : W.cell? ⟨b, off, spot⟩ = some (.int .i64 (hall 0 hp).choose.kind) := by
      obtain ⟨vb, vk, h1, _⟩ := (hall 0 hp).choose_spec
      have := hcells 0 hp _ vb vk h1 0 _ rfl
      simpa [Addr.add] using this
    have hspot : spot = none := by simpa using World.cell?_spot h0
    subst hspot
    refine ⟨b, off, rfl, World.block_lt_of_cell? _ _ h0, fun j hj => ?_⟩
    simp only [List.length_map, List.length_range] at hj
    simp only [List.getElem_map, List.getElem_range, hj, dif_pos]
    obtain ⟨vb, vk, h1, h2⟩ := (hall j hj).choose_spec
    refine ⟨vb, vk, fun i u hi => ?_, h2⟩
    have := hcells j hj _ vb vk h1 i u hi
    rwa [Addr.add_lit, Addr.add_lit] at this
end
end Go.Proofs.YtgdhjgfoalianaaDoor
