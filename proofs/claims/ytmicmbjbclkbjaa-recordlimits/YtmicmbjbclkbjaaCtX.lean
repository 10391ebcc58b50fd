/-
  What comes in, as the walks ask it: records, reads, rows of them.
-/
import Derived.Test.YtmicmbjbclkbjaaBfX
import Derived.Test.YtmicmbjbclkbjaaCtM
namespace Go.Proofs.Ytmicmbjbclkbjaa
open Go.RowKit Go.ChangeShapes Go.WideShapes Go.ChangeAt Go.Deep
set_option maxRecDepth 4000
/-- Nothing of a pair, a read, a record is longer than B bytes. -/
def PB (B : Nat) (p : Pr) : Prop := p.1.size ≤ B ∧ p.2.1.size ≤ B
structure XB (B : Nat) (x : Rz) : Prop where
  k : x.k.size ≤ B
  t : x.t.size ≤ B
  l : x.ps.length * 40 ≤ B
  p : ∀ p ∈ x.ps, PB B p
structure RB (B : Nat) (r : Rc) : Prop where
  rl : r.rs.length * 64 ≤ B
  wl : r.ws.length * 40 ≤ B
  rs : ∀ x ∈ r.rs, XB B x
  ws : ∀ p ∈ r.ws, PB B p
section
variable {H : Type} {enc : TypeId × Value → H} {W : World}
set_option maxRecDepth 4000
/-- A slice that came in, element by element, with how long it is. -/
theorem slice_open9 {α : Type} {E : Enc α} {t e : TypeId} (hn0 : 0 < E.n) (hu : Try.prog.underlying t = some (.slice e)) (hce : Try.prog.cellsOf e = E.n) {Q : α → Nat → Prop} (z : α)
    (hinv : ∀ n cs (y : DataW H × List MemPlace), DataW.trod enc Try.prog W 0 (fun _ => true) true n e cs = some y → ∃ x, cs = E.c x ∧ ∀ B, (∀ m ∈ y.1.weights Try.prog e, m ≤ B) → Q x B)
    {n0 : Nat} {cs : List Value} {y : DataW H × List MemPlace} (hf : DataW.trod enc Try.prog W 0 (fun _ => true) true n0 t cs = some y) :
    ∃ (a : Option Addr) (cap : Nat) (L : List α), cs = [.slice a L.length cap] ∧ RdG E W (.slice a L.length cap) L ∧ ∀ B, (∀ m ∈ y.1.weights Try.prog t, m ≤ B) → L.length * Try.prog.bytesOf e ≤ B ∧ ∀ x ∈ L, Q x B := by
  rcases open_slice hu hf with ⟨hcs, hy⟩ | ⟨x, l, c, m, n, D, Pl, hcs, _, hl, hm, hmm, hxd, hx⟩
  · subst hcs
    exact ⟨none, 0, [], rfl, RdG_nil W, fun B _ => ⟨by simp, by simp⟩⟩
  · subst hcs
    have hlm : l ≤ m := by rw [hmm]; simp; exact hl
    have hall : ∀ j, j < l → ∃ v : α, W.cells? 0 (x.add (j * E.n)) E.n = some (E.c v) ∧ ∀ B, (∀ m ∈ (D j).weights Try.prog e, m ≤ B) → Q v B := fun j hj => by
      obtain ⟨cs, h1, h2⟩ := hx j (by omega)
      rw [hce] at h1
      obtain ⟨v, rfl, hD⟩ := hinv _ _ _ h2
      exact ⟨v, h1, hD⟩
    obtain ⟨L, hLl, hL⟩ : ∃ L : List α, L.length = l ∧ ∀ j (hj : j < L.length), W.cells? 0 (x.add (j * E.n)) E.n = some (E.c L[j]) ∧ ∀ B, (∀ m ∈ (D j).weights Try.prog e, m ≤ B) → Q L[j] B := by
      refine ⟨(List.range l).map fun j => if h : j < l then (hall j h).choose else z, by simp, fun j hj => ?_⟩
      simp only [List.length_map, List.length_range] at hj
      simp only [List.getElem_map, List.getElem_range, hj, dif_pos]
      exact (hall j hj).choose_spec
    subst hLl
    refine ⟨some x, c, L, rfl, ⟨some x, c, rfl, hl, hm, fun h => by simp at h, fun hp => ?_⟩, fun B hB => ?_⟩
    · obtain ⟨b, off, spot⟩ := x
      have hcells : ∀ j (hj : j < L.length), ∀ i u, (E.c L[j])[i]? = some u → W.cell? (((⟨b, off, spot⟩ : Addr).add (j * E.n)).add i) = some u := fun j hj i u hu => by
        obtain ⟨_, hlen, hc⟩ := World.cells?_some (hL j hj).1
        have hi : i < E.n := by have := (List.getElem?_eq_some_iff.1 hu).1; rw [E.len] at this; exact this
        rw [hc i hi, hu]
      have hl0 : 0 < (E.c L[0]).length := by rw [E.len]; exact hn0
      have h0 : W.cell? ⟨b, off, spot⟩ = some ((E.c L[0])[0]) := by
        have := hcells 0 hp 0 _ (List.getElem?_eq_getElem hl0)
        simpa [Addr.add] using this
      have hspot : spot = none := by simpa using World.cell?_spot h0
      subst hspot
      refine ⟨b, off, rfl, World.block_lt_of_cell? _ _ h0, fun j u hj => ?_⟩
      have hjl : j < (E.cs L).length := (List.getElem?_eq_some_iff.1 hj).1
      rw [Enc.cs_length] at hjl
      have h3 : j / E.n < L.length := (Nat.div_lt_iff_lt_mul hn0).2 hjl
      have hm3 : j % E.n < (E.c L[j / E.n]).length := by rw [E.len]; exact Nat.mod_lt _ hn0
      have e1 := Enc.cs_get h3 (i := j % E.n) (u := (E.c L[j / E.n])[j % E.n]) (List.getElem?_eq_getElem hm3)
      have e2 : j / E.n * E.n + j % E.n = j := Nat.div_add_mod' j E.n
      rw [e2, hj] at e1
      have := hcells (j / E.n) h3 (j % E.n) u (by rw [List.getElem?_eq_getElem hm3]; exact e1.symm)
      rwa [Addr.add_lit, Addr.add_lit, Nat.add_assoc, e2] at this
    · rw [hxd] at hB
      simp only [DataW.weights, hu, List.mem_cons, List.mem_append, List.length_map, List.length_range] at hB
      refine ⟨Nat.le_trans (Nat.mul_le_mul_right _ (Nat.le_add_right _ _)) (hB _ (.inl rfl)), fun y hy => ?_⟩
      obtain ⟨i, hi, rfl⟩ := List.getElem_of_mem hy
      exact (hL i hi).2 B fun m' hm' => hB m' (.inr (.inl (weightsAll_mem (d := D i) (List.mem_map.2 ⟨i, by simp; omega, rfl⟩) _ hm')))
theorem pair_open (n : Nat) (cs : List Value) (y : DataW H × List MemPlace) (h : DataW.trod enc Try.prog W 0 (fun _ => true) true n 41 cs = some y) : ∃ p : Pr, cs = PC p ∧ ∀ B, (∀ m ∈ y.1.weights Try.prog 41, m ≤ B) → PB B p := by
  obtain ⟨p, h1, h2⟩ := pair_cells n cs y h
  refine ⟨p, h1, fun B hB => ?_⟩
  rw [h2] at hB
  exact ⟨hB _ (prD_weight p).1, hB _ (prD_weight p).2⟩
theorem str_le {s : ByteArray} {B : Nat} (h : ∀ m ∈ (DataW.lit (H := H) (.string s.data.toList)).weights Try.prog 9, m ≤ B) : s.size ≤ B := by
  have e : s.data.toList.length = s.size := Array.length_toList
  exact h _ (by simp [DataW.weights, e])
theorem read_open (n : Nat) (cs : List Value) (y : DataW H × List MemPlace) (h : DataW.trod enc Try.prog W 0 (fun _ => true) true n 39 cs = some y) : ∃ x : Rz, cs = XC x ∧ ∀ B, (∀ m ∈ y.1.weights Try.prog 39, m ≤ B) → XOk W x ∧ XB B x := by
  obtain ⟨xs, k, _, rfl, hl, hlen, hf⟩ := DataW.trod_struct Try.underlying39 h
  have hcl : cs.length = 4 := by rw [hl]; kernel_rfl
  match cs, hcl with
  | [c0, c1, c2, c3], _ =>
    have k4 : Try.prog.cellsOf 4 = 1 := by kernel_rfl
    have k9 : Try.prog.cellsOf 9 = 1 := by kernel_rfl
    have kp : Try.prog.cellsOf 25 = 1 := by kernel_rfl
    have ke : Try.prog.cellsOf 41 = PE.n := by kernel_rfl
    have kb : Try.prog.bytesOf 41 = 40 := by kernel_rfl
    have hx4 : xs.length = 4 := hlen
    match xs, hx4 with
    | [x0, x1, x2, x3], _ =>
      have g0 : DataW.trod enc Try.prog W 0 (fun _ => true) true k 4 [c0] = some x0 := by simpa [k4] using hf 0 _ rfl
      have g1 : DataW.trod enc Try.prog W 0 (fun _ => true) true k 9 [c1] = some x1 := by simpa [k4, k9] using hf 1 _ rfl
      have g2 : DataW.trod enc Try.prog W 0 (fun _ => true) true k 9 [c2] = some x2 := by simpa [k4, k9] using hf 2 _ rfl
      have g3 : DataW.trod enc Try.prog W 0 (fun _ => true) true k 25 [c3] = some x3 := by simpa [k4, k9, kp] using hf 3 _ rfl
      obtain ⟨b, e0, rfl⟩ := DataW.trod_bool Try.underlying4 g0
      obtain ⟨s1, e1, rfl, _⟩ := DataW.trod_string Try.underlying9 g1
      obtain ⟨s2, e2, rfl, _⟩ := DataW.trod_string Try.underlying9 g2
      obtain ⟨a, cap, L, e3, hL, hB⟩ := slice_open9 (E := PE) (Q := fun p B => PB B p) (by decide) Try.underlying25 ke zp pair_open g3
      simp only [List.cons.injEq, and_true] at e0 e1 e2 e3
      subst e0 e1 e2 e3
      refine ⟨⟨b, s1, s2, L, a, cap⟩, rfl, fun B hw => ?_⟩
      simp only [DataW.weights, Try.underlying39, List.map_cons, List.map_nil, DataW.weightsEach, List.mem_append] at hw
      obtain ⟨h1, h2⟩ := hB B (fun m hm => hw m (.inr (.inr (.inr (.inl hm)))))
      rw [kb] at h1
      exact ⟨hL, str_le (H := H) (fun m hm => hw m (.inr (.inl (by simpa [DataW.weights] using hm)))), str_le (H := H) (fun m hm => hw m (.inr (.inr (.inl (by simpa [DataW.weights] using hm))))), h1, h2⟩
theorem rec_open (n : Nat) (cs : List Value) (y : DataW H × List MemPlace) (h : DataW.trod enc Try.prog W 0 (fun _ => true) true n 27 cs = some y) : ∃ r : Rc, cs = RC r ∧ ∀ B, (∀ m ∈ y.1.weights Try.prog 27, m ≤ B) → ROk W r ∧ RB B r := by
  obtain ⟨xs, k, _, rfl, hl, hlen, hf⟩ := DataW.trod_struct Try.underlying27 h
  have hcl : cs.length = 5 := by rw [hl]; kernel_rfl
  match cs, hcl with
  | [c0, c1, c2, c3, c4], _ =>
    have k3 : Try.prog.cellsOf 3 = 1 := by kernel_rfl
    have k4 : Try.prog.cellsOf 4 = 1 := by kernel_rfl
    have kx : Try.prog.cellsOf 24 = 1 := by kernel_rfl
    have kp : Try.prog.cellsOf 25 = 1 := by kernel_rfl
    have ke : Try.prog.cellsOf 41 = PE.n := by kernel_rfl
    have kb : Try.prog.bytesOf 41 = 40 := by kernel_rfl
    have ke2 : Try.prog.cellsOf 39 = XE.n := by kernel_rfl
    have kb2 : Try.prog.bytesOf 39 = 64 := by kernel_rfl
    have hx5 : xs.length = 5 := hlen
    match xs, hx5 with
    | [x0, x1, x2, x3, x4], _ =>
      have g0 : DataW.trod enc Try.prog W 0 (fun _ => true) true k 3 [c0] = some x0 := by simpa [k3] using hf 0 _ rfl
      have g1 : DataW.trod enc Try.prog W 0 (fun _ => true) true k 3 [c1] = some x1 := by simpa [k3] using hf 1 _ rfl
      have g2 : DataW.trod enc Try.prog W 0 (fun _ => true) true k 4 [c2] = some x2 := by simpa [k3, k4] using hf 2 _ rfl
      have g3 : DataW.trod enc Try.prog W 0 (fun _ => true) true k 24 [c3] = some x3 := by simpa [k3, k4, kx] using hf 3 _ rfl
      have g4 : DataW.trod enc Try.prog W 0 (fun _ => true) true k 25 [c4] = some x4 := by simpa [k3, k4, kx, kp] using hf 4 _ rfl
      obtain ⟨z0, e0, rfl, _⟩ := DataW.trod_int Try.underlying3 g0
      obtain ⟨z1, e1, rfl, _⟩ := DataW.trod_int Try.underlying3 g1
      obtain ⟨b, e2, rfl⟩ := DataW.trod_bool Try.underlying4 g2
      obtain ⟨a, cap, L, e3, hL, hB⟩ := slice_open9 (E := XE) (Q := fun x B => XOk W x ∧ XB B x) (by decide) Try.underlying24 ke2 zx read_open g3
      obtain ⟨a', cap', L', e4, hL', hB'⟩ := slice_open9 (E := PE) (Q := fun p B => PB B p) (by decide) Try.underlying25 ke zp pair_open g4
      simp only [List.cons.injEq, and_true] at e0 e1 e2 e3 e4
      subst e0 e1 e2 e3 e4
      refine ⟨⟨z0, z1, b, L, L', a, cap, a', cap'⟩, rfl, fun B hw => ?_⟩
      simp only [DataW.weights, Try.underlying27, List.map_cons, List.map_nil, DataW.weightsEach, List.mem_append] at hw
      obtain ⟨h1, h2⟩ := hB B (fun m hm => hw m (.inr (.inr (.inr (.inl hm)))))
      obtain ⟨h3, h4⟩ := hB' B (fun m hm => hw m (.inr (.inr (.inr (.inr (.inl hm))))))
      rw [kb2] at h1
      rw [kb] at h3
      exact ⟨⟨⟨hL, fun x hx => (h2 x hx).1⟩, hL'⟩, ⟨h1, h3, fun x hx => (h2 x hx).2, h4⟩⟩
theorem reach_le {ts : List TypeId} {ds : List (DataW H)} {j : Nat} {t : TypeId} {d : DataW H} (hsz : (DataW.weightsEach Try.prog ts ds).all (· ≤ reachBytes) = true) (ht : ts[j]? = some t) (hd : ds[j]? = some d) : ∀ m ∈ d.weights Try.prog t, m ≤ 140737488351232 := fun m hm => by
  have := of_decide_eq_true (List.all_eq_true.1 hsz m (DataW.weights_mem_each ht hd m hm))
  simpa [reachBytes] using this
theorem rec_arg {r : Reach} {base : Nat} {v : Value} {d : DataW H} {p : List MemPlace} {ts : List TypeId} {ds : List (DataW H)} {j : Nat} (hval : Value.okWide Try.prog W r base 27 v) (h : DataW.Trod enc Try.prog W 0 (fun _ => true) true 27 v d p)
    (hsz : (DataW.weightsEach Try.prog ts ds).all (· ≤ reachBytes) = true) (ht : ts[j]? = some 27) (hd : ds[j]? = some d) : ∃ x : Rc, v = .agg (RC x).toArray ∧ ROk W x ∧ RB 140737488351232 x := by
  obtain ⟨cs, rfl, _⟩ := okWide_struct Try.underlying27 hval
  obtain ⟨fuel, hf⟩ := h
  obtain ⟨x, e, hB⟩ := rec_open _ _ _ hf
  refine ⟨x, ?_, hB _ (reach_le hsz ht hd)⟩
  have e' : cs.toList = RC x := by simpa [Value.cells] using e
  rw [← e']
theorem read_arg {r : Reach} {base : Nat} {v : Value} {d : DataW H} {p : List MemPlace} {ts : List TypeId} {ds : List (DataW H)} {j : Nat} (hval : Value.okWide Try.prog W r base 39 v) (h : DataW.Trod enc Try.prog W 0 (fun _ => true) true 39 v d p)
    (hsz : (DataW.weightsEach Try.prog ts ds).all (· ≤ reachBytes) = true) (ht : ts[j]? = some 39) (hd : ds[j]? = some d) : ∃ x : Rz, v = .agg (XC x).toArray ∧ XOk W x ∧ XB 140737488351232 x := by
  obtain ⟨cs, rfl, _⟩ := okWide_struct Try.underlying39 hval
  obtain ⟨fuel, hf⟩ := h
  obtain ⟨x, e, hB⟩ := read_open _ _ _ hf
  refine ⟨x, ?_, hB _ (reach_le hsz ht hd)⟩
  have e' : cs.toList = XC x := by simpa [Value.cells] using e
  rw [← e']
end
end Go.Proofs.Ytmicmbjbclkbjaa
