/-
  What comes in, as the walks ask it: an act, and acts.
-/
import Derived.Test.YtcicekggeampcaaGreatSeY
import Derived.Test.YtcicekggeampcaaGreatGBa
namespace Go.Proofs.YtcicekggeampcaaGreat
open Go.RowKit Go.ChangeShapes Go.WideShapes Go.ChangeAt Go.Deep
set_option maxRecDepth 4000
section
variable {H : Type} {enc : TypeId × Value → H} {W : World}
/-- What an act reads as, and how great its parts are. -/
def acQ (W : World) (a : Ac) (d : DataW H) : Prop := RdG PE W a.v a.l ∧ (∀ p ∈ a.l, p.1.size ∈ d.weights Tryz.prog 37 ∧ p.2.1.size ∈ d.weights Tryz.prog 37) ∧ a.key.size ∈ d.weights Tryz.prog 37 ∧ a.val.size ∈ d.weights Tryz.prog 37
theorem act_cells (n : Nat) (cs : List Value) (y : DataW H × List MemPlace) (h : DataW.trod enc Tryz.prog W 0 (fun _ => true) true n 37 cs = some y) : ∃ a : Ac, cs = AC a ∧ acQ W a y.1 := by
  obtain ⟨xs, k, _, hy, hl, hlen, hf⟩ := DataW.trod_struct Tryz.underlying37 h
  have hcl : cs.length = 6 := by rw [hl]; kernel_rfl
  match cs, hcl with
  | [c0, c1, c2, c3, c4, c5], _ =>
    have k3 : Tryz.prog.cellsOf 3 = 1 := by kernel_rfl
    have k4 : Tryz.prog.cellsOf 4 = 1 := by kernel_rfl
    have k9 : Tryz.prog.cellsOf 9 = 1 := by kernel_rfl
    have kp : Tryz.prog.cellsOf 35 = 1 := by kernel_rfl
    have kq : Tryz.prog.cellsOf 51 = PE.n := by kernel_rfl
    have hx3 : xs.length = 6 := hlen
    match xs, hx3 with
    | [x0, x1, x2, x3, x4, x5], _ =>
      have g0 : DataW.trod enc Tryz.prog W 0 (fun _ => true) true k 3 [c0] = some x0 := by simpa [k3] using hf 0 _ rfl
      have g1 : DataW.trod enc Tryz.prog W 0 (fun _ => true) true k 3 [c1] = some x1 := by simpa [k3] using hf 1 _ rfl
      have g2 : DataW.trod enc Tryz.prog W 0 (fun _ => true) true k 9 [c2] = some x2 := by simpa [k9] using hf 2 _ rfl
      have g3 : DataW.trod enc Tryz.prog W 0 (fun _ => true) true k 9 [c3] = some x3 := by simpa [k9] using hf 3 _ rfl
      have g4 : DataW.trod enc Tryz.prog W 0 (fun _ => true) true k 4 [c4] = some x4 := by simpa [k4] using hf 4 _ rfl
      have g5 : DataW.trod enc Tryz.prog W 0 (fun _ => true) true k 35 [c5] = some x5 := by simpa [kp] using hf 5 _ rfl
      obtain ⟨n0, e0, rfl, _⟩ := DataW.trod_int Tryz.underlying3 g0
      obtain ⟨n1, e1, rfl, _⟩ := DataW.trod_int Tryz.underlying3 g1
      obtain ⟨s2, e2, rfl, _⟩ := DataW.trod_string Tryz.underlying9 g2
      obtain ⟨s3, e3, rfl, _⟩ := DataW.trod_string Tryz.underlying9 g3
      obtain ⟨b4, e4, rfl⟩ := DataW.trod_bool Tryz.underlying4 g4
      simp only [List.cons.injEq, and_true] at e0 e1 e2 e3 e4
      subst e0 e1 e2 e3 e4
      have h3 : ∃ a len cap, c5 = .slice a len cap := by
        rcases open_slice Tryz.underlying35 g5 with ⟨hcs, _⟩ | ⟨x, l, c, m, n, D, Pl, hcs, _⟩
        · simp only [List.cons.injEq, and_true] at hcs; exact ⟨_, _, _, hcs⟩
        · simp only [List.cons.injEq, and_true] at hcs; exact ⟨_, _, _, hcs⟩
      obtain ⟨a, len, cap, rfl⟩ := h3
      obtain ⟨L, hL, hw⟩ := slice_open (E := PE) (Q := fun p d => d = prD p) (by decide) Tryz.underlying35 kq (em, em, false) pair_cells g5
      have hlen2 := hL.len
      subst hlen2
      refine ⟨⟨n0, n1, s2, s3, b4, L, a, cap⟩, rfl, hL, fun p hp => ?_, ?_, ?_⟩
      · obtain ⟨dx, rfl, hm⟩ := hw p hp
        have := prD_weight (H := H) p
        rw [hy]
        simp only [DataW.weights, Tryz.underlying37, DataW.weightsEach, List.map_cons, List.map_nil, List.mem_append]
        exact ⟨.inr (.inr (.inr (.inr (.inr (.inl (hm _ this.1)))))), .inr (.inr (.inr (.inr (.inr (.inl (hm _ this.2))))))⟩
      · rw [hy]
        have e : s2.data.toList.length = s2.size := Array.length_toList
        simp [DataW.weights, Tryz.underlying37, DataW.weightsEach, e]
      · rw [hy]
        have e : s3.data.toList.length = s3.size := Array.length_toList
        simp [DataW.weights, Tryz.underlying37, DataW.weightsEach, e]
theorem acOk_of {a : Ac} {d : DataW H} {ws : List Nat} (h : acQ W a d) (hw : ∀ m ∈ d.weights Tryz.prog 37, m ∈ ws) (hsz : ws.all (· ≤ reachBytes) = true) : AcOk W a := by
  have hb : ∀ m ∈ d.weights Tryz.prog 37, m ≤ 140737488355328 := fun m hm => le_reach hsz (hw m hm)
  exact ⟨h.1, fun p hp => ⟨hb _ (h.2.1 p hp).1, hb _ (h.2.1 p hp).2⟩, hb _ h.2.2.1, hb _ h.2.2.2⟩
theorem acts_arg {r : Reach} {base : Nat} {v : Value} {d : DataW H} {p : List MemPlace} {ts : List TypeId} {ds : List (DataW H)} {j : Nat} (hval : Value.okWide Tryz.prog W r base 22 v) (h : DataW.Trod enc Tryz.prog W 0 (fun _ => true) true 22 v d p)
    (hsz : (DataW.weightsEach Tryz.prog ts ds).all (· ≤ reachBytes) = true) (ht : ts[j]? = some 22) (hd : ds[j]? = some d) : ∃ L, RdG AE W v L ∧ ∀ a ∈ L, AcOk W a := by
  obtain ⟨a, len, cap, rfl⟩ := okWide_slice Tryz.underlying22 hval
  obtain ⟨fuel, hf⟩ := h
  have ka : Tryz.prog.cellsOf 37 = AE.n := by kernel_rfl
  have hf' : DataW.trod enc Tryz.prog W 0 (fun _ => true) true fuel 22 [.slice a len cap] = some (d, p) := by simpa [Value.cells] using hf
  obtain ⟨L, hL, hw⟩ := slice_open (E := AE) (Q := acQ W) (by decide) Tryz.underlying22 ka ⟨0, 0, em, em, false, [], none, 0⟩ act_cells hf'
  refine ⟨L, hL, fun x hx => ?_⟩
  obtain ⟨dx, hq, hm⟩ := hw x hx
  exact acOk_of hq (fun m hm' => DataW.weights_mem_each ht hd _ (hm m hm')) hsz
end
end Go.Proofs.YtcicekggeampcaaGreat
