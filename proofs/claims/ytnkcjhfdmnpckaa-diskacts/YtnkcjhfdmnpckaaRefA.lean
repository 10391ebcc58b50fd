/-
  The reference's disk: Arm.
-/
import Derived.Test.YtnkcjhfdmnpckaaRefR
namespace Go.Proofs.Ytnkcjhfdmnpckaa
open Go.RowKit
open Pd (DM)
/-- What lies in blocks of colour i, or in new ones, is a disk of colour i. -/
theorem IsR.of_at {w w' : World} {c : Nat → Nat} {i R n : Nat} {m : DM} {vn vs vd vk : Value} (hc : Chg (fun k => c k = i) w w') (hA : RAt w' R vn vs vd vk m) (hO : Pd.Ok n m) (hn : Pd.Dark m ∧ 0 < n ∧ n ≤ 4096) (hR : R < w.heap.size → c R = i)
    (h2 : ∀ b, vn.ownBlock = some b → b < w.heap.size → c b = i) (h3 : ∀ b, vs.ownBlock = some b → b < w.heap.size → c b = i) (h4 : ∀ b, vd.ownBlock = some b → b < w.heap.size → c b = i) (h5 : ∀ b, vk.ownBlock = some b → b < w.heap.size → c b = i) (hi : i ≠ 0) :
    IsR w' (paint c w w' i) i R n m ∧ Step c i w (paint c w w' i) w' := by
  have key : ∀ b, b < w'.heap.size → (b < w.heap.size → c b = i) → paint c w w' i b = i := fun b hb h => by
    by_cases e : b < w.heap.size
    · rw [paint_old e]; exact h e
    · exact paint_new (by omega) hb
  exact ⟨⟨vn, vs, vd, vk, hA, hO, hn, key R hA.blk.lt hR, fun b hb => key b (ownB_lt hA.now hb) (h2 b hb), fun b hb => key b (ownB_lt hA.safe hb) (h3 b hb), fun b hb => key b (own_lt hA.dirty hb) (h4 b hb), fun b hb => key b (own_lt hA.keep hb) (h5 b hb), hi⟩, Step.of_paint hc⟩
/-- Numbers appended to a row that was made there and then. -/
theorem arm_new {w w1 : World} {l : List Int} {v1 : Value} (hrow : (w.alloc (.cells #[] 3 (0, 0))).ownsRow w.heap.size 3 1 (.slice (some ⟨w.heap.size, 0, none⟩) 0 0) 0 []) (ho : w1.ownsRow w.heap.size 3 1 v1 (0 + l.length) ([] ++ Ni l)) (hg : (w.alloc (.cells #[] 3 (0, 0))).grownBy w1 (Value.slice (some ⟨w.heap.size, 0, none⟩) 0 0).ownBlock) :
    Hid (OwnN w1 v1 l) ∧ Hid (∀ b, v1.ownBlock = some b → w.heap.size ≤ b) ∧ Hid (Below w.heap.size w w1) := by
  rw [Nat.zero_add, List.nil_append] at ho
  refine ⟨⟨ho.1, ?_⟩, fun b hb => (ho.lt b hb).1, ?_⟩
  · rcases ho.2 with h | ⟨g, cap, cur, hv, hg, r⟩
    · exact .inl h
    · exact .inr ⟨g, cap, cur, hv, Nat.zero_le _, r⟩
  · exact ((Below.refl _ _).alloc (Nat.le_refl _) _).trans (below_of_grown _ hrow hg (by simp))
set_option maxHeartbeats 2000000 in
set_option maxRecDepth 100000 in
theorem rArm_any {w : World} {c : Nat → Nat} {i R n : Nat} {m : DM} (h : IsR w c i R n m) (ops : Int) (hops : (Lit.int .i64 ops).wf = true) (v : Value) (l : List Int) (t : Int) (hr : RdN w v l) (hl : ∀ k ∈ l, (Lit.int .i64 k).wf = true) (hl2 : l.length ≤ 1000000) :
    Calls Try.prog 29 #[.pointer (some ⟨R, 0, none⟩), .int .i64 ops, v, .int .i64 t] w fun e w' => e = .returned (.tuple #[]) ∧ ∃ c', IsR w' c' i R n (Pd.arm m ops l t) ∧ Step c i w c' w' := by
  obtain ⟨vn, vs, vd, vk, hA, hO, hn, h1, h2, h3, h4, h5, h6⟩ := h
  have HA : Hid (RAt w R vn vs vd vk m) := hA
  have HR : Hid (RdN w v l) := hr
  have HL : Hid (∀ k ∈ l, (Lit.int .i64 k).wf = true) := hl
  have HO : Hid (Pd.Ok n m) := hO
  have HN : Hid (Pd.Dark m ∧ 0 < n ∧ n ≤ 4096) := hn
  have bo := bounds_i64 hops
  obtain ⟨a, cp, hv, -⟩ := hr
  subst hv
  have hrow : (w.alloc (.cells #[] 3 (0, 0))).ownsRow w.heap.size 3 1 (.slice (some ⟨w.heap.size, 0, none⟩) 0 0) 0 [] := ⟨rfl, .inr ⟨w.heap.size, 0, #[], rfl, Nat.le_refl _, heap_alloc_new w _, Nat.le_refl _, by simp [maxLen], rfl, rfl⟩⟩
  have HROW : Hid ((w.alloc (.cells #[] 3 (0, 0))).ownsRow w.heap.size 3 1 (.slice (some ⟨w.heap.size, 0, none⟩) 0 0) 0 []) := hrow
  obtain ⟨i0, hi0, hz0, hz1, hz2⟩ := info_parts Try.info3
  clear hA hl hO hn hrow
  go_enter Try.func29, Try.ntmps29
  go_upto_region 1 with (first
    | (at_builtin; refine wpList_append_mine _ rfl _ _ 30 30 rfl w.heap.size 3 i0 (.int .i64 0) 1 8 Try.underlying30 hi0 hz0 hz1 hz2 rfl (.slice (some ⟨w.heap.size, 0, none⟩) 0 0) 0 [] rfl HROW.out (.slice a l.length cp) l.length (Ni l) rfl (HR.out.kept ((Below.refl _ _).alloc (Nat.le_refl _) _)).src (by simp only [maxLen]; omega) (by omega) (by simp) ?_; intro v1 w1 ho1 hg1; obtain ⟨HO1, HN1, HB1⟩ := arm_new HROW.out ho1 hg1; have hB1 := HA.out.blk.kept HB1.out; have c4 := hB1.cell (j := 4) rfl; have c5 := hB1.cell (j := 5) rfl; have c6 := hB1.cell (j := 6) rfl; have z4 := hB1.frozen 4; have z5 := hB1.frozen 5; have z6 := hB1.frozen 6; clear ho1 hg1 hB1; obtain ⟨a1, cp1, hv1, -⟩ := HO1.out.rd; subst hv1)
    | fail)
  obtain ⟨w2, hw2⟩ : ∃ x, x = ((w1.setCell ⟨R, 4, none⟩ (.int .i64 ops)).setCell ⟨R, 5, none⟩ (.slice a1 l.length cp1)).setCell ⟨R, 6, none⟩ (.int .i64 t) := ⟨_, rfl⟩
  rw [← hw2]
  have HU2 : Hid (Chg (fun k => k = R) w1 w2) := (show Chg _ _ _ by rw [hw2]; exact ((Chg.setCell (F := fun k => k = R) w1 rfl 4 _).trans (Chg.setCell (F := fun k => k = R) _ rfl 5 _)).trans (Chg.setCell (F := fun k => k = R) _ rfl 6 _))
  have HB2 : Hid (Blk w2 R 60 (RC vn vs vd m.off ops (.slice a1 l.length cp1) t)) := (show Blk _ _ _ _ by
    have := (((HA.out.blk.kept HB1.out).set 4 (.int .i64 ops)).set 5 (.slice a1 l.length cp1)).set 6 (.int .i64 t)
    rw [← hw2] at this
    exact this)
  have HRl : Hid (R < w.heap.size) := HA.out.blk.lt
  have z4' := HB2.out.frozen 4
  have c4' := HB2.out.cell (j := 4) rfl
  have HFIN : Hid (∀ (w3 : World) (x : Int), Blk w3 R 60 (RC vn vs vd m.off x (.slice a1 l.length cp1) t) → Chg (fun k => k = R) w2 w3 → x = (ops.toNat : Int) → ∃ c', IsR w3 c' i R n (Pd.arm m ops l t) ∧ Step c i w c' w3) := (show ∀ _ _, _ by
    intro w3 x hB hU hx
    subst hx
    obtain ⟨n1, n2, n3, n4⟩ := HA.out.nR
    have hU3 : Chg (fun k => k = R) w1 w3 := HU2.out.trans hU
    have hC : Chg (fun k => k = R) w w3 := (Chg.of_below HB1.out).trans hU3
    have hK : OwnN w3 (.slice a1 l.length cp1) l := OwnN.chg (w := w1) HO1.out hU3 (fun b hb e => by have h7 := HN1.out b hb; have h8 := HRl.out; omega)
    exact ⟨_, IsR.of_at (m := Pd.arm m ops l t) (hC.mono (fun k _ e => by rw [e]; exact h1)) ⟨hB, ownB_chg HA.out.now hC n1, ownB_chg HA.out.safe hC n2, HA.out.dirty.chg hC n3, hK, HL.out, HA.out.ns, fun b hb hb' => by have h7 := HN1.out b hb'; have h8 := own_lt HA.out.dirty hb; omega, by show ops.toNat ≤ _; omega⟩ (HO.out.arm ops l t) HN.out (fun _ => h1) (fun b hb _ => h2 b hb) (fun b hb _ => h3 b hb) (fun b hb _ => h4 b hb) (fun b hb hlt => absurd (HN1.out b hb) (by omega)) h6⟩)
  clear hw2 c4 c5 c6 z4 z5 z6
  by_cases ho : ops < 1
  · have q1 : decide (ops < 1) = true := by simpa using ho
    go_wp2
    go_end0
    refine ⟨rfl, HFIN.out _ 0 ?_ (Chg.setCell (F := fun k => k = R) _ rfl 4 _) (by omega)⟩
    exact HB2.out.set 4 (.int .i64 0)
  · have q1 : decide (ops < 1) = false := by simpa using ho
    go_wp2
    go_end0
    exact ⟨rfl, HFIN.out w2 ops HB2.out (Chg.refl _ _) (by omega)⟩
end Go.Proofs.Ytnkcjhfdmnpckaa
