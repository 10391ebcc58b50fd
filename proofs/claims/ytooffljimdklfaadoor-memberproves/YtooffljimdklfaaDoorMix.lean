/-
  (*sha.words).mix: what the call does.
-/
import Derived.Test.YtooffljimdklfaaDoorState
import Derived.Test.YtooffljimdklfaaDoorTurn
import Derived.Deep.WholeRow
import Derived.Deep.Cut
namespace Go.Proofs.YtooffljimdklfaaDoor
open Go.RowKit
theorem Tryd.size133 : (Tryd.prog.info? 133).map (·.size) = some 8 := by kernel_rfl
theorem rnds_length (p h : List W) (hh : h.length = 8) : ∀ t, (rnds p h t).length = 8
  | 0 => hh
  | _ + 1 => rfl
theorem blk_length (h : List W) (b : List UInt8) (hh : h.length = 8) : (blk h b).length = 8 := by
  simp [blk, hh, rnds_length]
/-- The words so far added. -/
def az (h v : List W) (i : Nat) : List W := (List.zipWith (· + ·) h v).take i ++ h.drop i
theorem az_length (h v : List W) (hh : h.length = 8) (hv : v.length = 8) (i : Nat) (hi : i ≤ 8) : (az h v i).length = 8 := by simp [az, hh, hv]; omega
theorem az_get (h v : List W) (hh : h.length = 8) (hv : v.length = 8) (i : Nat) (hi : i < 8) : gW (az h v i) i = gW h i := by
  unfold gW az
  rw [List.getD, List.getElem?_append_right (by simp [hh, hv]; omega)]
  simp [hh, hv, List.getD, show min i 8 = i by omega]
theorem az_set (h v : List W) (hh : h.length = 8) (hv : v.length = 8) (i : Nat) (hi : i < 8) : (az h v i).set i (gW h i + gW v i) = az h v (i + 1) := by
  unfold az
  have hl : ((List.zipWith (· + ·) h v).take i).length = i := by simp [hh, hv]; omega
  rw [List.set_append_right _ _ (by omega), hl, Nat.sub_self, List.take_add_one]
  have h1 : (List.zipWith (· + ·) h v)[i]? = some (gW h i + gW v i) := by
    simp [gW, List.getD, hh, hv, hi]
  have h2 : h.drop i = gW h i :: h.drop (i + 1) := by
    rw [List.drop_eq_getElem_cons (by omega)]
    simp [gW, List.getD, hh, hi]
  rw [h1, h2]
  simp
theorem stands_start (h : List W) : Stands h h 0 := fun j hj => by rw [show pl j 0 = j by unfold pl; omega]
theorem stands_end (l v : List W) (h : Stands l v 64) (j : Nat) (hj : j < 8) : gW l j = gW v j := by
  have := h j hj
  rwa [show pl j 64 = j by unfold pl; omega] at this

set_option maxHeartbeats 1000000 in
set_option maxRecDepth 100000 in
theorem mix_any (v : Value) (b : List UInt8) (bs : Nat) (m : Bool) (h : List W) (k : List UInt8) (n : Nat) (hb : b.length = 64) (hh : h.length = 8) (w : World)
    (hT : Tabs w) (hB : Blk w bs 137 (SC m h k n)) (hr : Rd w v b) (h2 : 2 ≤ bs) :
    Calls Tryd.prog 84 #[.pointer (some ⟨bs, 1, none⟩), v] w fun e w' => e = .returned (.tuple #[]) ∧ But bs w w' ∧ Blk w' bs 137 (SC m (blk h b) k n) := by
  have HT : Hid (Tabs w) := hT
  have HB : Hid (Blk w bs 137 (SC m h k n)) := hB
  have HR : Hid (Rd w v b) := hr
  clear hT hB hr
  obtain ⟨N, HN⟩ : ∃ N, Hid (w.heap.size = N) := ⟨_, rfl⟩
  have HbN : Hid (bs < N) := (show _ by rw [← HN.out]; exact HB.out.lt)
  go_enter Tryd.func84, Tryd.ntmps84
  go_wp2_with fail
  refine (planOf_any v b hb w HR.out).mono ?_
  rintro e w1 ⟨rfl, hw1⟩
  obtain ⟨p, HP⟩ : ∃ p, Hid (plan b 64 = p) := ⟨_, rfl⟩
  rw [HP.out]
  have hpl : p.length = 64 := by rw [← HP.out]; exact plan_length b 64
  have H1 : Hid (Below N w w1) := (show _ by rw [← HN.out]; exact hw1)
  have B1 : Hid (Blk w1 bs 137 (SC m h k n)) := HB.out.kept hw1
  clear hw1
  obtain ⟨M, HM⟩ : ∃ M, Hid (w1.heap.size = M) := ⟨_, rfl⟩
  have HNM : Hid (N ≤ M) := (show _ by rw [← HM.out, ← HN.out]; exact H1.out.size)
  have R1 : Hid ((w1.alloc (.cells (Ws p).toArray 145 (0, 0))).rangeAt bs 1 (Ws h)) := (B1.out.alloc _).range 1 (Ws h) (fun j u hj => by
    have hj' : j < h.length := by have := (List.getElem?_eq_some_iff.1 hj).1; rwa [Ws_length] at this
    rw [SC_word j hj', ← hj, Ws_get hj'])
  go_wp2_with (first
    | (refine wpList_store_new rfl 145 _ _ rfl w1 _ _ _ rfl rfl rfl (by simpa [Ws_length, hpl] using Tryd.size145) (by simp [Ws_length, hpl]) (all_one (Ws_one _)) ?_)
    | (refine wpList_load_mid rfl 133 _ rfl bs 1 rfl (Ws h) _ R1.out Tryd.underlying133 rfl (by simpa [Ws_length, hh] using Tryd.size133) ?_)
    | (refine wpList_store_new rfl 133 _ _ rfl (w1.alloc (.cells (Ws p).toArray 145 (0, 0))) _ _ _ rfl rfl (by simp) (by simpa [Ws_length, hh] using Tryd.size133) (by simp [Ws_length, hh]) (all_one (Ws_one _)) ?_)
    | fail)
  rw [HM.out]
  clear R1
  obtain ⟨w2, hw2⟩ : ∃ x, x = (w1.alloc (.cells (Ws p).toArray 145 (0, 0))).alloc (.cells (Ws h).toArray 133 (0, 0)) := ⟨_, rfl⟩
  have P2 : Hid (Blk w2 M 145 (Ws p)) := (show Blk _ _ _ _ by rw [hw2, ← HM.out]; exact (Blk.new w1 145 (Ws p)).alloc _)
  have T2 : Hid (Blk w2 (M + 1) 133 (Ws h)) := (show Blk _ _ _ _ by
    have := Blk.new (w1.alloc (.cells (Ws p).toArray 145 (0, 0))) 133 (Ws h)
    rw [show (w1.alloc (.cells (Ws p).toArray 145 (0, 0))).heap.size = M + 1 by simp [HM.out]] at this
    rw [hw2]; exact this)
  have S2 : Hid (Blk w2 bs 137 (SC m h k n)) := (show Blk _ _ _ _ by rw [hw2]; exact (B1.out.alloc _).alloc _)
  have L2 : Hid (Below N w w2) := (show Below _ _ _ by rw [hw2]; exact (H1.out.alloc (by rw [HM.out]; exact HNM.out) _).alloc (by have := HNM.out; simp [HM.out]; omega) _)
  rw [← hw2]
  clear hw2 B1
  go_loopg [13] 65 (fun g z wr => Hid (Below N w wr) ∧ ∃ i : Nat, i ≤ 64 ∧ g + i = 65 ∧ z = .int .i64 i ∧ Hid (Blk wr M 145 (Ws p)) ∧ Hid (Blk wr bs 137 (SC m h k n)) ∧ ∃ l : List W, l.length = 8 ∧ Hid (Blk wr (M + 1) 133 (Ws l)) ∧ Hid (Stands l (rnds p h i) i))
  case atStart => exact ⟨L2, 0, by omega, rfl, rfl, P2, S2, h, hh, T2, stands_start h⟩
  case round =>
    clear P2 T2 S2 L2
    obtain ⟨HBL, i, hi, hgk, rfl, P2, S2, l, hll, T2, HS⟩ := hrel
    by_cases hlt : i < 64
    · have q1 : (i : Int) < 64 := by omega
      have c1 := P2.out.cell (Ws_get (l := p) (j := i) (by omega))
      have c2 := (HT.out.kept (HBL.out.mono (by have := HbN.out; omega))).rounds i (by omega)
      have HE : Hid (Stands (tl l i (gW p i + gW K i)) (rnds p h (i + 1)) (i + 1)) := stands_next l (rnds p h i) i (gW K i) (gW p i) hll HS.out
      generalize gW p i = x at *
      generalize gW K i = y at *
      have f1 := add_wrap x y
      generalize x + y = z at *
      go_wp2_with fail
      refine wp_region_still_tail 8 Tryd.mixed (by kernel_rfl) ?_
      simp only [List.take_succ_cons, List.take_zero, List.drop_succ_cons, List.drop_zero]
      repeat still_step
      refine wpStill_nil ?_
      go_wp2_with fail
      refine (turnW_any l i z (M + 1) hll hlt _ T2.out.drew).mono ?_
      rintro e w3 ⟨rfl, hu3, ht3⟩
      have HU : Hid (But (M + 1) wr w3) := (But.drew _ wr).trans hu3
      have T3 : Hid (Blk w3 (M + 1) 133 (Ws (tl l i z))) := ht3
      clear hu3 ht3
      go_wp2
      go_roundg (gk - 1)
      case measure => omega
      case rel =>
        have hNM := HNM.out
        have hbN := HbN.out
        have hM := P2.out.lt
        exact ⟨HBL.out.trans (HU.out.below (by omega) (by omega)), i + 1, by omega, by omega, by go_num, P2.out.but HU.out (by omega), S2.out.but HU.out (by omega), tl l i z, by rw [tl_length, hll], T3, HE⟩
    · obtain rfl : i = 64 := by omega
      have hvl := rnds_length p h hh 64
      have HV : Hid (blk h b = az h (rnds p h 64) 8) := (show _ = _ by
        rw [blk, HP.out, az, List.take_of_length_le (by simp; omega), List.drop_eq_nil_of_le (by omega), List.append_nil])
      have HS : Hid (∀ j, j < 8 → gW l j = gW (rnds p h 64) j) := (show ∀ j, _ → _ from stands_end l _ HS.out)
      generalize rnds p h 64 = v64 at *
      go_wp2
      go_loopg [26] 9 (fun g z wr => Hid (But bs w wr) ∧ ∃ i : Nat, i ≤ 8 ∧ g + i = 9 ∧ z = .int .i64 i ∧ Hid (Blk wr bs 137 (SC m (az h v64 i) k n)) ∧ Hid (Blk wr (M + 1) 133 (Ws l)))
      case atStart =>
        refine ⟨But.of_below (by rw [HN.out]; exact HBL.out), 0, by omega, rfl, rfl, ?_, T2⟩
        have : az h v64 0 = h := by simp [az]
        rw [this]; exact S2
      case round =>
        clear P2 S2 HBL T2
        obtain ⟨HBL, i, hi, hgk, rfl, S2, T2⟩ := hrel
        by_cases hlt : i < 8
        · have q1 : (i : Int) < 8 := by omega
          have c1 := S2.out.cell (SC_word (h := az h v64 i) i (by rw [az_length h v64 hh hvl i hi]; exact hlt))
          have z1 := S2.out.frozen (1 + i)
          have c2 := T2.out.cell (Ws_get (l := l) (j := i) (by omega))
          rw [HS.out i hlt] at c2
          rw [az_get h v64 hh hvl i hlt] at c1
          have HE : Hid ((az h v64 i).set i (gW h i + gW v64 i) = az h v64 (i + 1)) := az_set h v64 hh hvl i hlt
          generalize gW h i = x at *
          generalize gW v64 i = y at *
          have f1 := add_wrap x y
          generalize x + y = z at *
          go_wp2_with fail
          refine wp_region_still_tail 11 Tryd.mixed (by kernel_rfl) ?_
          simp only [List.take_succ_cons, List.take_zero, List.drop_succ_cons, List.drop_zero]
          repeat still_step
          refine wpStill_nil ?_
          go_wp2
          go_roundg (gk - 1)
          case measure => omega
          case rel =>
            have hNM := HNM.out
            have hbN := HbN.out
            exact ⟨(HBL.out.trans (But.setCell bs _ _ _)).trans (But.drew bs _), i + 1, by omega, by omega, by go_num, by
              show Blk _ _ _ _
              have := S2.out.set (1 + i) (wv z)
              rw [SC_set_word i (by rw [az_length h v64 hh hvl i hi]; exact hlt), HE.out] at this
              exact this, T2.out.set_other (by omega) _ _⟩
        · obtain rfl : i = 8 := by omega
          go_wp2
          go_end0
          exact ⟨rfl, HBL.out, by rw [HV.out]; exact S2.out⟩
end Go.Proofs.YtooffljimdklfaaDoor
