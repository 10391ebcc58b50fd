/-
  (*sha.words).turn: what the call does; the words where they stand.
-/
import Derived.Test.YtooffljimdklfaaDoorPlanOf
import Derived.Deep.LoopGhost
import Derived.BigRegion
import Derived.BigQuiet
import Derived.Deep.QuietTactic
import Derived.StillTailTactics
namespace Go.Proofs.YtooffljimdklfaaDoor
open Go.RowKit

/-- One round, the words where they stand. -/
def tl (l : List W) (t : Nat) (x : W) : List W :=
  let y := x + (gW l (pl 7 t) + ch (gW l (pl 4 t)) (gW l (pl 5 t)) (gW l (pl 6 t)) + S1 (gW l (pl 4 t)))
  (l.set (pl 3 t) (gW l (pl 3 t) + y)).set (pl 7 t) (y + mj (gW l (pl 0 t)) (gW l (pl 1 t)) (gW l (pl 2 t)) + S0 (gW l (pl 0 t)))
theorem tl_length (l : List W) (t : Nat) (x : W) : (tl l t x).length = l.length := by simp [tl]

theorem gW_set_same (l : List W) (p : Nat) (x : W) (h : p < l.length) : gW (l.set p x) p = x := by simp [gW, List.getD, h]
theorem gW_set_other (l : List W) (p q : Nat) (x : W) (h : p ≠ q) : gW (l.set p x) q = gW l q := by simp [gW, List.getD, h]
theorem pl_ne (i j t : Nat) (hi : i < 8) (hj : j < 8) (h : i ≠ j) : pl i t ≠ pl j t := by unfold pl; omega
theorem pl_zero (t : Nat) : pl 0 (t + 1) = pl 7 t := by unfold pl; omega
theorem pl_next (j t : Nat) : pl (j + 1) (t + 1) = pl j t := by unfold pl; omega
/-- The words where they stand are the words by their letters. -/
def Stands (l v : List W) (t : Nat) : Prop := ∀ j, j < 8 → gW l (pl j t) = gW v j
theorem stands_next (l v : List W) (t : Nat) (k p : W) (hl : l.length = 8) (h : Stands l v t) : Stands (tl l t (p + k)) (rnd v (k + p)) (t + 1) := by
  have h0 := h 0 (by omega)
  have h1 := h 1 (by omega)
  have h2 := h 2 (by omega)
  have h3 := h 3 (by omega)
  have h4 := h 4 (by omega)
  have h5 := h 5 (by omega)
  have h6 := h 6 (by omega)
  have h7 := h 7 (by omega)
  have hp : ∀ j, pl j t < l.length := fun j => by rw [hl]; exact pl_lt j t
  intro j hj
  unfold tl
  simp only [h0, h1, h2, h3, h4, h5, h6, h7]
  match j, hj with
  | 0, _ =>
    rw [pl_zero, gW_set_same _ _ _ (by rw [List.length_set]; exact hp 7)]
    show _ = gW v 7 + S1 (gW v 4) + ch (gW v 4) (gW v 5) (gW v 6) + (k + p) + (S0 (gW v 0) + mj (gW v 0) (gW v 1) (gW v 2))
    ac_rfl
  | 1, _ => rw [pl_next, gW_set_other _ _ _ _ (pl_ne _ _ _ (by omega) (by omega) (by omega)), gW_set_other _ _ _ _ (pl_ne _ _ _ (by omega) (by omega) (by omega)), h0]; rfl
  | 2, _ => rw [pl_next, gW_set_other _ _ _ _ (pl_ne _ _ _ (by omega) (by omega) (by omega)), gW_set_other _ _ _ _ (pl_ne _ _ _ (by omega) (by omega) (by omega)), h1]; rfl
  | 3, _ => rw [pl_next, gW_set_other _ _ _ _ (pl_ne _ _ _ (by omega) (by omega) (by omega)), gW_set_other _ _ _ _ (pl_ne _ _ _ (by omega) (by omega) (by omega)), h2]; rfl
  | 4, _ =>
    rw [pl_next, gW_set_other _ _ _ _ (pl_ne _ _ _ (by omega) (by omega) (by omega)), gW_set_same _ _ _ (hp 3)]
    show _ = gW v 3 + (gW v 7 + S1 (gW v 4) + ch (gW v 4) (gW v 5) (gW v 6) + (k + p))
    ac_rfl
  | 5, _ => rw [pl_next, gW_set_other _ _ _ _ (pl_ne _ _ _ (by omega) (by omega) (by omega)), gW_set_other _ _ _ _ (pl_ne _ _ _ (by omega) (by omega) (by omega)), h4]; rfl
  | 6, _ => rw [pl_next, gW_set_other _ _ _ _ (pl_ne _ _ _ (by omega) (by omega) (by omega)), gW_set_other _ _ _ _ (pl_ne _ _ _ (by omega) (by omega) (by omega)), h5]; rfl
  | 7, _ => rw [pl_next, gW_set_other _ _ _ _ (pl_ne _ _ _ (by omega) (by omega) (by omega)), gW_set_other _ _ _ _ (pl_ne _ _ _ (by omega) (by omega) (by omega)), h6]; rfl
  | j + 8, h => omega

set_option maxHeartbeats 1000000 in
set_option maxRecDepth 100000 in
theorem turnW_any (l : List W) (t : Nat) (x : W) (bt : Nat) (hl : l.length = 8) (ht : t < 64) (w : World) (hB : Blk w bt 133 (Ws l)) :
    Calls Tryd.prog 90 #[.pointer (some ⟨bt, 0, none⟩), .int .i64 (t : Int), wv x] w fun e w' => e = .returned (.tuple #[]) ∧ But bt w w' ∧ Blk w' bt 133 (Ws (tl l t x)) := by
  have HB : Hid (Blk w bt 133 (Ws l)) := hB
  clear hB
  have HT : Hid (tl l t x = (l.set (pl 3 t) (gW l (pl 3 t) + (x + (gW l (pl 7 t) + ch (gW l (pl 4 t)) (gW l (pl 5 t)) (gW l (pl 6 t)) + S1 (gW l (pl 4 t)))))).set (pl 7 t) ((x + (gW l (pl 7 t) + ch (gW l (pl 4 t)) (gW l (pl 5 t)) (gW l (pl 6 t)) + S1 (gW l (pl 4 t)))) + mj (gW l (pl 0 t)) (gW l (pl 1 t)) (gW l (pl 2 t)) + S0 (gW l (pl 0 t)))) := rfl
  have A0 : Hid (∀ w, Calls Tryd.prog 100 #[.int .i64 0, .int .i64 (t : Int)] w fun e w' => e = .returned (.int .i64 (pl 0 t : Int)) ∧ w' = w) := (show ∀ w, _ from at_any 0 t (by omega) ht)
  have b0 : ((pl 0 t : Nat) : Int) < 8 := by have := pl_lt 0 t; omega
  have C0 : Hid (∀ w' : World, w'.heap = w.heap → w'.cell? ⟨bt, pl 0 t, none⟩ = some (wv (gW l (pl 0 t)))) := (show ∀ w' : World, _ → _ from fun w' h => by
    have := HB.out.cell (Ws_get (l := l) (j := pl 0 t) (by have := pl_lt 0 t; omega))
    rw [← this]; simp only [World.cell?, h])
  generalize pl 0 t = p0 at *
  generalize gW l p0 = x0 at *
  have A1 : Hid (∀ w, Calls Tryd.prog 100 #[.int .i64 1, .int .i64 (t : Int)] w fun e w' => e = .returned (.int .i64 (pl 1 t : Int)) ∧ w' = w) := (show ∀ w, _ from at_any 1 t (by omega) ht)
  have b1 : ((pl 1 t : Nat) : Int) < 8 := by have := pl_lt 1 t; omega
  have C1 : Hid (∀ w' : World, w'.heap = w.heap → w'.cell? ⟨bt, pl 1 t, none⟩ = some (wv (gW l (pl 1 t)))) := (show ∀ w' : World, _ → _ from fun w' h => by
    have := HB.out.cell (Ws_get (l := l) (j := pl 1 t) (by have := pl_lt 1 t; omega))
    rw [← this]; simp only [World.cell?, h])
  generalize pl 1 t = p1 at *
  generalize gW l p1 = x1 at *
  have A2 : Hid (∀ w, Calls Tryd.prog 100 #[.int .i64 2, .int .i64 (t : Int)] w fun e w' => e = .returned (.int .i64 (pl 2 t : Int)) ∧ w' = w) := (show ∀ w, _ from at_any 2 t (by omega) ht)
  have b2 : ((pl 2 t : Nat) : Int) < 8 := by have := pl_lt 2 t; omega
  have C2 : Hid (∀ w' : World, w'.heap = w.heap → w'.cell? ⟨bt, pl 2 t, none⟩ = some (wv (gW l (pl 2 t)))) := (show ∀ w' : World, _ → _ from fun w' h => by
    have := HB.out.cell (Ws_get (l := l) (j := pl 2 t) (by have := pl_lt 2 t; omega))
    rw [← this]; simp only [World.cell?, h])
  generalize pl 2 t = p2 at *
  generalize gW l p2 = x2 at *
  have A3 : Hid (∀ w, Calls Tryd.prog 100 #[.int .i64 3, .int .i64 (t : Int)] w fun e w' => e = .returned (.int .i64 (pl 3 t : Int)) ∧ w' = w) := (show ∀ w, _ from at_any 3 t (by omega) ht)
  have b3 : ((pl 3 t : Nat) : Int) < 8 := by have := pl_lt 3 t; omega
  have C3 : Hid (∀ w' : World, w'.heap = w.heap → w'.cell? ⟨bt, pl 3 t, none⟩ = some (wv (gW l (pl 3 t)))) := (show ∀ w' : World, _ → _ from fun w' h => by
    have := HB.out.cell (Ws_get (l := l) (j := pl 3 t) (by have := pl_lt 3 t; omega))
    rw [← this]; simp only [World.cell?, h])
  generalize pl 3 t = p3 at *
  generalize gW l p3 = x3 at *
  have A4 : Hid (∀ w, Calls Tryd.prog 100 #[.int .i64 4, .int .i64 (t : Int)] w fun e w' => e = .returned (.int .i64 (pl 4 t : Int)) ∧ w' = w) := (show ∀ w, _ from at_any 4 t (by omega) ht)
  have b4 : ((pl 4 t : Nat) : Int) < 8 := by have := pl_lt 4 t; omega
  have C4 : Hid (∀ w' : World, w'.heap = w.heap → w'.cell? ⟨bt, pl 4 t, none⟩ = some (wv (gW l (pl 4 t)))) := (show ∀ w' : World, _ → _ from fun w' h => by
    have := HB.out.cell (Ws_get (l := l) (j := pl 4 t) (by have := pl_lt 4 t; omega))
    rw [← this]; simp only [World.cell?, h])
  generalize pl 4 t = p4 at *
  generalize gW l p4 = x4 at *
  have A5 : Hid (∀ w, Calls Tryd.prog 100 #[.int .i64 5, .int .i64 (t : Int)] w fun e w' => e = .returned (.int .i64 (pl 5 t : Int)) ∧ w' = w) := (show ∀ w, _ from at_any 5 t (by omega) ht)
  have b5 : ((pl 5 t : Nat) : Int) < 8 := by have := pl_lt 5 t; omega
  have C5 : Hid (∀ w' : World, w'.heap = w.heap → w'.cell? ⟨bt, pl 5 t, none⟩ = some (wv (gW l (pl 5 t)))) := (show ∀ w' : World, _ → _ from fun w' h => by
    have := HB.out.cell (Ws_get (l := l) (j := pl 5 t) (by have := pl_lt 5 t; omega))
    rw [← this]; simp only [World.cell?, h])
  generalize pl 5 t = p5 at *
  generalize gW l p5 = x5 at *
  have A6 : Hid (∀ w, Calls Tryd.prog 100 #[.int .i64 6, .int .i64 (t : Int)] w fun e w' => e = .returned (.int .i64 (pl 6 t : Int)) ∧ w' = w) := (show ∀ w, _ from at_any 6 t (by omega) ht)
  have b6 : ((pl 6 t : Nat) : Int) < 8 := by have := pl_lt 6 t; omega
  have C6 : Hid (∀ w' : World, w'.heap = w.heap → w'.cell? ⟨bt, pl 6 t, none⟩ = some (wv (gW l (pl 6 t)))) := (show ∀ w' : World, _ → _ from fun w' h => by
    have := HB.out.cell (Ws_get (l := l) (j := pl 6 t) (by have := pl_lt 6 t; omega))
    rw [← this]; simp only [World.cell?, h])
  generalize pl 6 t = p6 at *
  generalize gW l p6 = x6 at *
  have A7 : Hid (∀ w, Calls Tryd.prog 100 #[.int .i64 7, .int .i64 (t : Int)] w fun e w' => e = .returned (.int .i64 (pl 7 t : Int)) ∧ w' = w) := (show ∀ w, _ from at_any 7 t (by omega) ht)
  have b7 : ((pl 7 t : Nat) : Int) < 8 := by have := pl_lt 7 t; omega
  have C7 : Hid (∀ w' : World, w'.heap = w.heap → w'.cell? ⟨bt, pl 7 t, none⟩ = some (wv (gW l (pl 7 t)))) := (show ∀ w' : World, _ → _ from fun w' h => by
    have := HB.out.cell (Ws_get (l := l) (j := pl 7 t) (by have := pl_lt 7 t; omega))
    rw [← this]; simp only [World.cell?, h])
  generalize pl 7 t = p7 at *
  generalize gW l p7 = x7 at *
  unfold ch mj at HT
  have f1 := u32_and_bv x4 x5
  have f2 : bits .xor .u32 IntKind.u32.max (x4.toNat : Int) = ((~~~ x4).toNat : Int) := u32_not_bv x4
  have f3 := u32_and_bv (~~~ x4) x6
  generalize ~~~ x4 = n4 at *
  generalize x4 &&& x5 = g1 at *
  generalize n4 &&& x6 = g2 at *
  have f4 := u32_xor_bv g1 g2
  generalize g1 ^^^ g2 = g3 at *
  have f5 := add_wrap x7 g3
  generalize x7 + g3 = g4 at *
  have E1 : Hid _ := spread_S1 x4
  generalize S1 x4 = g5 at *
  have f6 := add_wrap g4 g5
  generalize g4 + g5 = g6 at *
  have f7 := add_wrap x g6
  generalize x + g6 = y at *
  have f8 := add_wrap x3 y
  generalize x3 + y = z at *
  have m1 := u32_and_bv x0 x1
  have m2 := u32_and_bv x0 x2
  have m3 := u32_and_bv x1 x2
  generalize x0 &&& x1 = h1 at *
  generalize x0 &&& x2 = h2 at *
  generalize x1 &&& x2 = h3 at *
  have m4 := u32_xor_bv h1 h2
  generalize h1 ^^^ h2 = h4 at *
  have m5 := u32_xor_bv h4 h3
  generalize h4 ^^^ h3 = h5 at *
  have m6 := add_wrap y h5
  generalize y + h5 = h6 at *
  have E0 : Hid _ := spread_S0 x0
  generalize S0 x0 = h7 at *
  have m7 := add_wrap h6 h7
  generalize h6 + h7 = u at *
  have c0 := C0.out w rfl
  have c1 := C1.out w rfl
  have c2 := C2.out w rfl
  go_enter Tryd.func90, Tryd.ntmps90
  go_wp2_with fail
  refine wp_region_still_lit Tryd.mixed (by kernel_rfl) ?_
  repeat still_step
  still_call (A0.out _)
  repeat still_step
  still_call (A1.out _)
  repeat still_step
  still_call (A2.out _)
  repeat still_step
  refine wpStill_nil ?_
  generalize hq : ({ w with drawn := w.drawn + 1 } : World) = w1
  have H1 : Hid (w1.heap = w.heap) := by rw [← hq]; exact rfl
  have U1 : Hid (But bt w w1) := by rw [← hq]; exact But.drew bt w
  clear hq c0 c1 c2
  have c4 := C4.out w1 H1.out
  have c5 := C5.out w1 H1.out
  have c6 := C6.out w1 H1.out
  go_wp2_with fail
  refine wp_region_still_lit Tryd.mixed (by kernel_rfl) ?_
  repeat still_step
  still_call (A4.out _)
  repeat still_step
  still_call (A5.out _)
  repeat still_step
  still_call (A6.out _)
  repeat still_step
  refine wpStill_nil ?_
  generalize hq : ({ w1 with drawn := w1.drawn + 1 } : World) = w2
  have H2 : Hid (w2.heap = w.heap) := by rw [← hq]; exact H1.out
  have U2 : Hid (But bt w w2) := by rw [← hq]; exact U1.out.trans (But.drew bt w1)
  clear hq c4 c5 c6 H1 U1
  have c7 := C7.out w2 H2.out
  go_wp2_with fail
  refine wp_region_still_lit Tryd.mixed (by kernel_rfl) ?_
  repeat still_step
  still_call (A7.out _)
  repeat still_step
  still_call (E1.out _)
  repeat still_step
  refine wpStill_nil ?_
  generalize hq : ({ w2 with drawn := w2.drawn + 1 } : World) = w3
  have H3 : Hid (w3.heap = w.heap) := by rw [← hq]; exact H2.out
  have U3 : Hid (But bt w w3) := by rw [← hq]; exact U2.out.trans (But.drew bt w2)
  clear hq c7 H2 U2
  have B3 : Hid (Blk w3 bt 133 (Ws l)) := (show _ = _ by rw [H3.out]; exact HB.out)
  have c3 := C3.out w3 H3.out
  have z3 := B3.out.frozen p3
  go_wp2_with fail
  refine wp_region_still_tail 10 Tryd.mixed (by kernel_rfl) ?_
  simp only [List.take_succ_cons, List.take_zero, List.drop_succ_cons, List.drop_zero]
  repeat still_step
  still_call (A3.out _)
  repeat still_step
  refine wpStill_nil ?_
  go_wp2_with fail
  generalize hq : World.drew _ = w4
  have B4 : Hid (Blk w4 bt 133 (Ws (l.set p3 z))) := (show _ = _ by
    rw [← hq]
    have := B3.out.set p3 (wv z)
    rw [Ws_set] at this
    exact this)
  have U4 : Hid (But bt w w4) := by rw [← hq]; exact (U3.out.trans (But.setCell bt _ _ _)).trans (But.drew bt _)
  clear hq c3 z3 H3 U3 B3
  have c7 := B4.out.cell (Ws_get (l := l.set p3 z) (j := p7) (by rw [List.length_set]; omega))
  have z7 := B4.out.frozen p7
  generalize gW (l.set p3 z) p7 = old at *
  refine wp_region_still_tail 21 Tryd.mixed (by kernel_rfl) ?_
  simp only [List.take_succ_cons, List.take_zero, List.drop_succ_cons, List.drop_zero]
  repeat still_step
  still_call (A7.out _)
  repeat still_step
  still_call (E0.out _)
  repeat still_step
  refine wpStill_nil ?_
  go_wp2_with fail
  go_end0
  refine ⟨rfl, (U4.out.trans (But.setCell bt _ _ _)).trans (But.drew bt _), ?_⟩
  have := B4.out.set p7 (wv u)
  rw [Ws_set] at this
  rw [HT.out]
  exact this
end Go.Proofs.YtooffljimdklfaaDoor
