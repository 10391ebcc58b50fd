/-
  What comes in, as the walks ask it: texts, pairs of numbers, pairs of texts.
-/
import Derived.Test.YtcfakmjkbgcbhaaArgs
import Derived.Test.YtcfakmjkbgcbhaaList
import Derived.SizedLaws
import Derived.SliceStrings
namespace Go.Proofs.Ytcfakmjkbgcbhaa
open Go.RowKit Go.ChangeShapes Go.WideShapes Go.ChangeAt

theorem weightsAll_mem {H : Type} {P : Program} {e : TypeId} : ∀ {l : List (DataW H)} {d : DataW H}, d ∈ l → ∀ n ∈ d.weights P e, n ∈ DataW.weightsAll P e l
  | d0 :: r, d, hd, n, hn => by
    simp only [DataW.weightsAll, List.mem_append]
    rcases List.mem_cons.1 hd with rfl | hd
    · exact .inl hn
    · exact .inr (weightsAll_mem hd n hn)

theorem strs_trod {H : Type} {enc : TypeId × Value → H} {W : World} {fuel : Nat} {cs : List Value} {x : DataW H × List MemPlace} (h : DataW.trod enc Try.prog W 0 (fun _ => true) true fuel 36 cs = some x) :
    ∃ v ss, cs = [v] ∧ RdS W v ss ∧ ∀ s ∈ ss, s.size ∈ x.1.weights Try.prog 36 := by
  rcases open_strings Try.underlying36 Try.underlying9 (by kernel_rfl) h with ⟨hcs, _⟩ | ⟨a, len, cap, ss, hcs, _, hl, hm, hz, hx, hcell, _⟩
  · exact ⟨_, [], hcs, RdS_nil W, by simp⟩
  · have hz' : ss.length = cap := by simpa using hz
    have hlen : (ss.take len).length = len := by simp; omega
    refine ⟨_, ss.take len, hcs, ⟨some a, cap, by rw [hlen], by omega, hm, fun h => by simp at h, fun hp => ?_⟩, fun s hs => ?_⟩
    · rw [hlen] at hp
      obtain ⟨b, off, spot⟩ := a
      have h0 := hcell 0 (by omega)
      have hspot : spot = none := by simpa [Addr.add] using World.cell?_spot h0
      subst hspot
      have h0' : W.cell? ⟨b, off, none⟩ = some (.string (ss.getD 0 ByteArray.empty)) := by simpa [Addr.add_lit] using h0
      refine ⟨b, off, rfl, World.block_lt_of_cell? _ _ h0', fun j hj => ?_⟩
      rw [hlen] at hj
      have hcj := hcell j (by omega)
      rw [Addr.add_lit] at hcj
      rw [hcj]
      simp [List.getElem_take, show j < ss.length from by omega]
    · rw [hx]
      simp only [DataW.weights, Try.underlying36, List.mem_cons, List.mem_append]
      refine .inr (.inl (weightsAll_mem (d := .lit (.string s.data.toList)) ?_ _ ?_))
      · exact List.mem_map.2 ⟨s, hs, rfl⟩
      · simp [DataW.weights]

theorem slice_cells {v : Value} {a : Option Addr} {len cap : Nat} (h : (Value.slice a len cap).cells.toList = [v]) : v = .slice a len cap := by
  simp [Value.cells] at h
  exact h.symm

theorem strs_arg {H : Type} {enc : TypeId × Value → H} {W : World} {r : Reach} {base : Nat} {v : Value} {d : DataW H} {p : List MemPlace} {ts : List TypeId} {ds : List (DataW H)} {j : Nat} (hval : Value.okWide Try.prog W r base 36 v)
    (h : DataW.Trod enc Try.prog W 0 (fun _ => true) true 36 v d p) (hsz : (DataW.weightsEach Try.prog ts ds).all (· ≤ reachBytes) = true) (ht : ts[j]? = some 36) (hd : ds[j]? = some d) :
    ∃ ss, RdS W v ss ∧ ∀ s ∈ ss, s.size ≤ 140737488351232 := by
  obtain ⟨a, len, cap, rfl⟩ := okWide_slice Try.underlying36 hval
  obtain ⟨fuel, hf⟩ := h
  obtain ⟨v', ss, hcs, hr, hw⟩ := strs_trod hf
  have e := slice_cells hcs
  subst e
  refine ⟨ss, hr, fun s hs => ?_⟩
  have := List.all_eq_true.1 hsz _ (DataW.weights_mem_each ht hd _ (hw s hs))
  have h2 : s.size ≤ reachBytes := of_decide_eq_true this
  simpa [reachBytes] using h2

theorem bytes_arg {H : Type} {enc : TypeId × Value → H} {W : World} {r : Reach} {base : Nat} {v : Value} {d : DataW H} {p : List MemPlace} {ts : List TypeId} {ds : List (DataW H)} {j : Nat} (hval : Value.okWide Try.prog W r base 22 v)
    (h : DataW.Trod enc Try.prog W 0 (fun _ => true) true 22 v d p) (hsz : (DataW.weightsEach Try.prog ts ds).all (· ≤ reachBytes) = true) (ht : ts[j]? = some 22) (hd : ds[j]? = some d) :
    ∃ l, Rd W v l ∧ l.length ≤ 140737488351232 := by
  obtain ⟨a, len, cap, rfl⟩ := okWide_slice Try.underlying22 hval
  obtain ⟨fuel, hf⟩ := h
  rcases open_ints Try.underlying22 Try.underlying5 (by kernel_rfl) hf with ⟨hcs, _⟩ | ⟨x, l, c, zs, hcs, _, hl, hm, hz, hx, hcell, hwz⟩
  · simp [Value.cells] at hcs
    obtain ⟨rfl, rfl, rfl⟩ := hcs
    exact ⟨[], Rd_nil W, by simp⟩
  · simp [Value.cells] at hcs
    obtain ⟨rfl, rfl, rfl⟩ := hcs
    simp only [Prod.mk.injEq] at hx
    obtain ⟨rfl, -⟩ := hx
    have hzz : zs.length = cap := by simpa using hz
    have hs := sized_slice hsz ht hd Try.underlying22
    rw [show Try.prog.bytesOf 5 = 1 from by kernel_rfl] at hs
    simp only [lits, List.length_map, List.length_take, List.length_drop, reachBytes] at hs
    obtain ⟨l, hrd⟩ := rd_of_row (w := W) (a := some x) (len := len) (cap := cap) (zs := zs) (.inr ⟨x, rfl, hl, hm, hzz, hcell, hwz⟩)
    exact ⟨l, hrd, by have := rd_len hrd; omega⟩

theorem two_arg {H : Type} {enc : TypeId × Value → H} {W : World} {r : Reach} {base : Nat} {v : Value} {d : DataW H} {p : List MemPlace} (hval : Value.okWide Try.prog W r base 37 v)
    (h : DataW.Trod enc Try.prog W 0 (fun _ => true) true 37 v d p) : ∃ c m : Int, v = .agg #[.int .i64 c, .int .i64 m] ∧ (Lit.int .i64 c).wf = true ∧ (Lit.int .i64 m).wf = true := by
  simp only [Value.okWide, Try.underlying37] at hval
  obtain ⟨cs, rfl, hs, _⟩ := hval
  rw [show Try.prog.cellsOf 37 = 2 from by kernel_rfl] at hs
  obtain ⟨fuel, hf⟩ := h
  obtain ⟨xs, m, -, -, -, hxl, hxs⟩ := DataW.trod_array Try.underlying37 hf
  rw [show Try.prog.cellsOf 3 = 1 from by kernel_rfl] at hxs
  obtain ⟨l⟩ := cs
  match l, hs with
  | [c0, c1], _ =>
    have h0 := hxs 0 (by omega)
    have h1 := hxs 1 (by omega)
    rw [List.getElem?_eq_getElem (by omega)] at h0 h1
    simp [Value.cells] at h0 h1
    obtain ⟨c, e0, -, w0⟩ := DataW.trod_int Try.underlying3 h0
    obtain ⟨n, e1, -, w1⟩ := DataW.trod_int Try.underlying3 h1
    simp at e0 e1
    subst e0
    subst e1
    exact ⟨c, n, rfl, w0, w1⟩

theorem twostrs_arg {H : Type} {enc : TypeId × Value → H} {W : World} {r : Reach} {base : Nat} {v : Value} {d : DataW H} {p : List MemPlace} {ts : List TypeId} {ds : List (DataW H)} {j : Nat} (hval : Value.okWide Try.prog W r base 45 v)
    (h : DataW.Trod enc Try.prog W 0 (fun _ => true) true 45 v d p) (hsz : (DataW.weightsEach Try.prog ts ds).all (· ≤ reachBytes) = true) (ht : ts[j]? = some 45) (hd : ds[j]? = some d) :
    ∃ t u sx sy, v = .agg #[t, u] ∧ RdS W t sx ∧ RdS W u sy ∧ (∀ s ∈ sx, s.size ≤ 140737488351232) ∧ ∀ s ∈ sy, s.size ≤ 140737488351232 := by
  simp only [Value.okWide, Try.underlying45] at hval
  obtain ⟨cs, rfl, hs, _⟩ := hval
  rw [show Try.prog.cellsOf 45 = 2 from by kernel_rfl] at hs
  obtain ⟨fuel, hf⟩ := h
  obtain ⟨xs, m, -, hxe, -, hxl, hxs⟩ := DataW.trod_array Try.underlying45 hf
  rw [show Try.prog.cellsOf 36 = 1 from by kernel_rfl] at hxs
  simp only [Prod.mk.injEq] at hxe
  obtain ⟨rfl, -⟩ := hxe
  obtain ⟨l⟩ := cs
  match l, hs with
  | [c0, c1], _ =>
    have h0 := hxs 0 (by omega)
    have h1 := hxs 1 (by omega)
    rw [List.getElem?_eq_getElem (by omega)] at h0 h1
    simp [Value.cells] at h0 h1
    obtain ⟨t, sx, e0, r0, w0⟩ := strs_trod h0
    obtain ⟨u, sy, e1, r1, w1⟩ := strs_trod h1
    simp at e0 e1
    subst e0
    subst e1
    have key : ∀ x ∈ xs, ∀ n ∈ x.1.weights Try.prog 36, n ≤ 140737488351232 := fun x hx n hn => by
      have hm : n ∈ (DataW.agg (xs.map (·.1))).weights Try.prog 45 := by
        simp only [DataW.weights, Try.underlying45]
        exact weightsAll_mem (List.mem_map.2 ⟨x, hx, rfl⟩) n hn
      have := List.all_eq_true.1 hsz _ (DataW.weights_mem_each ht hd _ hm)
      have h2 : n ≤ reachBytes := of_decide_eq_true this
      simpa [reachBytes] using h2
    exact ⟨_, _, sx, sy, rfl, r0, r1, fun s hs => key _ (List.getElem_mem _) _ (w0 s hs), fun s hs => key _ (List.getElem_mem _) _ (w1 s hs)⟩
end Go.Proofs.Ytcfakmjkbgcbhaa
