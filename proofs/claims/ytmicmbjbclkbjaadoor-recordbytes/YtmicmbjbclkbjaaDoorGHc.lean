/-
  Texts that ride together: State Mix Holds Take NewState.
-/
import Derived.Test.YtmicmbjbclkbjaaDoorGHb
import Derived.Deep.WholeRow
import Derived.Deep.Cut
import Derived.Laws.CopyOwn
/-
  A State's cells; the tables.
-/
namespace Go.Proofs.YtmicmbjbclkbjaaDoor
open Go.RowKit

/-- The cells of a State. -/
def ShC (m : Bool) (h : List W) (k : List UInt8) (n : Nat) : List Value := .bool m :: (Ws h ++ (By k ++ [.int .u64 (n : Int)]))
theorem SC_length {m : Bool} {h : List W} {k : List UInt8} {n : Nat} (hh : h.length = 8) (hk : k.length = 64) : (ShC m h k n).length = 74 := by
  simp [ShC, Ws_length, By_length, hh, hk]
theorem SC_made (m : Bool) (h : List W) (k : List UInt8) (n : Nat) : (ShC m h k n)[0]? = some (.bool m) := rfl
theorem SC_word {m : Bool} {h : List W} {k : List UInt8} {n : Nat} (j : Nat) (hj : j < h.length) : (ShC m h k n)[1 + j]? = some (shwv (gW h j)) := by
  rw [Nat.add_comm, ShC, List.getElem?_cons_succ, List.getElem?_append_left (by rw [Ws_length]; exact hj), Ws_get hj]
theorem SC_byte {m : Bool} {h : List W} {k : List UInt8} {n : Nat} (hh : h.length = 8) (j : Nat) (hj : j < k.length) : (ShC m h k n)[9 + j]? = some (.int .u8 ((gB k j).toNat : Int)) := by
  rw [show 9 + j = (8 + j) + 1 by omega, ShC, List.getElem?_cons_succ, List.getElem?_append_right (by rw [Ws_length]; omega), Ws_length, hh, Nat.add_sub_cancel_left,
    List.getElem?_append_left (by rw [By_length]; exact hj), By_get hj]
  simp [gB, List.getD, hj]
theorem SC_len {m : Bool} {h : List W} {k : List UInt8} {n : Nat} (hh : h.length = 8) (hk : k.length = 64) : (ShC m h k n)[73]? = some (.int .u64 (n : Int)) := by
  rw [ShC, List.getElem?_cons_succ, List.getElem?_append_right (by rw [Ws_length]; omega), Ws_length, hh, List.getElem?_append_right (by rw [By_length]; omega), By_length, hk]
  rfl
theorem SC_set_word {m : Bool} {h : List W} {k : List UInt8} {n : Nat} (j : Nat) (hj : j < h.length) (x : W) : (ShC m h k n).set (1 + j) (shwv x) = ShC m (h.set j x) k n := by
  rw [Nat.add_comm, ShC, List.set_cons_succ, List.set_append_left _ _ (by rw [Ws_length]; exact hj), Ws_set, ShC]
theorem SC_set_len {m : Bool} {h : List W} {k : List UInt8} {n n' : Nat} (hh : h.length = 8) (hk : k.length = 64) : (ShC m h k n).set 73 (.int .u64 (n' : Int)) = ShC m h k n' := by
  rw [ShC, List.set_cons_succ, List.set_append_right _ _ (by rw [Ws_length]; omega), Ws_length, hh, List.set_append_right _ _ (by rw [By_length]; omega), By_length, hk, ShC]
  rfl
theorem SC_over {m : Bool} {h : List W} {k : List UInt8} {n : Nat} (hh : h.length = 8) (hk : k.length = 64) (o : Nat) (l : List UInt8) (ho : o + l.length ≤ 64) :
    over (ShC m h k n) (9 + o) (By l) = ShC m h (k.take o ++ l ++ k.drop (o + l.length)) n := by
  unfold over
  rw [By_length, show 9 + o = (8 + o) + 1 by omega, show 8 + o + 1 + l.length = (8 + (o + l.length)) + 1 by omega, ShC, List.take_succ_cons, List.drop_succ_cons,
    List.take_append, List.drop_append, Ws_length, hh, List.take_of_length_le (by rw [Ws_length]; omega), List.drop_eq_nil_of_le (by rw [Ws_length]; omega),
    Nat.add_sub_cancel_left, Nat.add_sub_cancel_left, List.take_append, List.drop_append, By_length, hk, show o - 64 = 0 by omega, show o + l.length - 64 = 0 by omega]
  simp [ShC, By, List.map_take, List.map_drop]

/-- The tables are laid. -/
structure Tabs (w : World) : Prop where
  size : 2 ≤ w.heap.size
  begin : ∀ j, j < 8 → w.cell? ⟨0, j, none⟩ = some (shwv (gW H0 j))
  rounds : ∀ j, j < 64 → w.cell? ⟨1, j, none⟩ = some (shwv (gW K j))
theorem Tabs.kept {w w' : World} (h : Tabs w) (hb : Below 2 w w') : Tabs w' :=
  ⟨Nat.le_trans h.size hb.size, fun j hj => (hb.cell (p := ⟨0, j, none⟩) (by show 0 < 2; omega)).trans (h.begin j hj), fun j hj => (hb.cell (p := ⟨1, j, none⟩) (by show 1 < 2; omega)).trans (h.rounds j hj)⟩
theorem Tabs.gr {w w' : World} (h : Tabs w) (hb : Below w.heap.size w w') : Tabs w' := h.kept (hb.mono h.size)
theorem Tabs.but {w w' : World} (h : Tabs w) {b : Nat} (hb : But b w w') (h2 : 2 ≤ b) : Tabs w' := h.kept (hb.below h2 h.size)
end Go.Proofs.YtmicmbjbclkbjaaDoor

/-
  (*sha.words).mix: what the call does.
-/
namespace Go.Proofs.YtmicmbjbclkbjaaDoor
open Go.RowKit
theorem Tryd.size110 : (Tryd.prog.info? 110).map (·.size) = some 8 := by kernel_rfl
theorem rnds_length (p h : List W) (hh : h.length = 8) : ∀ t, (rnds p h t).length = 8
  | 0 => hh
  | _ + 1 => rfl
theorem blk_length (h : List W) (b : List UInt8) (hh : h.length = 8) : (blk h b).length = 8 := by
  simp [blk, hh, rnds_length]
/-- The words so far added. -/
def az (h v : List W) (i : Nat) : List W := (List.zipWith (· + ·) h v).take i ++ h.drop i
theorem az_length (h v : List W) (hh : h.length = 8) (hv : v.length = 8) (i : Nat) (hi : i ≤ 8) : (az h v i).length = 8 := by simp [az, hh, hv]; omega
theorem az_get (h v : List W) (hh : h.length = 8) (hv : v.length = 8) (i : Nat) (hi : i < 8) : gW (az h v i) i = gW h i := by
  unfold gW az
  rw [List.getD, List.getElem?_append_right (by simp [hh, hv]; omega)]
  simp [hh, hv, List.getD, show min i 8 = i by omega]
theorem az_set (h v : List W) (hh : h.length = 8) (hv : v.length = 8) (i : Nat) (hi : i < 8) : (az h v i).set i (gW h i + gW v i) = az h v (i + 1) := by
  unfold az
  have hl : ((List.zipWith (· + ·) h v).take i).length = i := by simp [hh, hv]; omega
  rw [List.set_append_right _ _ (by omega), hl, Nat.sub_self, List.take_add_one]
  have h1 : (List.zipWith (· + ·) h v)[i]? = some (gW h i + gW v i) := by
    simp [gW, List.getD, hh, hv, hi]
  have h2 : h.drop i = gW h i :: h.drop (i + 1) := by
    rw [List.drop_eq_getElem_cons (by omega)]
    simp [gW, List.getD, hh, hi]
  rw [h1, h2]
  simp
theorem stands_start (h : List W) : Stands h h 0 := fun j hj => by rw [show pl j 0 = j by unfold pl; omega]
theorem stands_end (l v : List W) (h : Stands l v 64) (j : Nat) (hj : j < 8) : gW l j = gW v j := by
  have := h j hj
  rwa [show pl j 64 = j by unfold pl; omega] at this

set_option maxHeartbeats 1000000 in
set_option maxRecDepth 100000 in
theorem mix_any (v : Value) (b : List UInt8) (bs : Nat) (m : Bool) (h : List W) (k : List UInt8) (n : Nat) (hb : b.length = 64) (hh : h.length = 8) (w : World)
    (hT : Tabs w) (hB : Blk w bs 113 (ShC m h k n)) (hr : Rd w v b) (h2 : 2 ≤ bs) :
    Calls Tryd.prog 92 #[.pointer (some ⟨bs, 1, none⟩), v] w fun e w' => e = .returned (.tuple #[]) ∧ But bs w w' ∧ Blk w' bs 113 (ShC m (blk h b) k n) := by
  have HT : Hid (Tabs w) := hT
  have HB : Hid (Blk w bs 113 (ShC m h k n)) := hB
  have HR : Hid (Rd w v b) := hr
  clear hT hB hr
  obtain ⟨N, HN⟩ : ∃ N, Hid (w.heap.size = N) := ⟨_, rfl⟩
  have HbN : Hid (bs < N) := (show _ by rw [← HN.out]; exact HB.out.lt)
  go_enter Tryd.func92, Tryd.ntmps92
  go_wp2_with fail
  refine (planOf_any v b hb w HR.out).mono ?_
  rintro e w1 ⟨rfl, hw1⟩
  obtain ⟨p, HP⟩ : ∃ p, Hid (plan b 64 = p) := ⟨_, rfl⟩
  rw [HP.out]
  have hpl : p.length = 64 := by rw [← HP.out]; exact plan_length b 64
  have H1 : Hid (Below N w w1) := (show _ by rw [← HN.out]; exact hw1)
  have B1 : Hid (Blk w1 bs 113 (ShC m h k n)) := HB.out.kept hw1
  clear hw1
  obtain ⟨M, HM⟩ : ∃ M, Hid (w1.heap.size = M) := ⟨_, rfl⟩
  have HNM : Hid (N ≤ M) := (show _ by rw [← HM.out, ← HN.out]; exact H1.out.size)
  have R1 : Hid ((w1.alloc (.cells (Ws p).toArray 117 (0, 0))).rangeAt bs 1 (Ws h)) := (B1.out.alloc _).range 1 (Ws h) (fun j u hj => by
    have hj' : j < h.length := by have := (List.getElem?_eq_some_iff.1 hj).1; rwa [Ws_length] at this
    rw [SC_word j hj', ← hj, Ws_get hj'])
  go_wp2_with (first
    | (refine wpList_store_new rfl 117 _ _ rfl w1 _ _ _ rfl rfl rfl (by simpa [Ws_length, hpl] using Tryd.size117) (by simp [Ws_length, hpl]) (all_one (Ws_one _)) ?_)
    | (refine wpList_load_mid rfl 110 _ rfl bs 1 rfl (Ws h) _ R1.out Tryd.underlying110 rfl (by simpa [Ws_length, hh] using Tryd.size110) ?_)
    | (refine wpList_store_new rfl 110 _ _ rfl (w1.alloc (.cells (Ws p).toArray 117 (0, 0))) _ _ _ rfl rfl (by simp) (by simpa [Ws_length, hh] using Tryd.size110) (by simp [Ws_length, hh]) (all_one (Ws_one _)) ?_)
    | fail)
  rw [HM.out]
  clear R1
  obtain ⟨w2, hw2⟩ : ∃ x, x = (w1.alloc (.cells (Ws p).toArray 117 (0, 0))).alloc (.cells (Ws h).toArray 110 (0, 0)) := ⟨_, rfl⟩
  have P2 : Hid (Blk w2 M 117 (Ws p)) := (show Blk _ _ _ _ by rw [hw2, ← HM.out]; exact (Blk.new w1 117 (Ws p)).alloc _)
  have T2 : Hid (Blk w2 (M + 1) 110 (Ws h)) := (show Blk _ _ _ _ by
    have := Blk.new (w1.alloc (.cells (Ws p).toArray 117 (0, 0))) 110 (Ws h)
    rw [show (w1.alloc (.cells (Ws p).toArray 117 (0, 0))).heap.size = M + 1 by simp [HM.out]] at this
    rw [hw2]; exact this)
  have S2 : Hid (Blk w2 bs 113 (ShC m h k n)) := (show Blk _ _ _ _ by rw [hw2]; exact (B1.out.alloc _).alloc _)
  have L2 : Hid (Below N w w2) := (show Below _ _ _ by rw [hw2]; exact (H1.out.alloc (by rw [HM.out]; exact HNM.out) _).alloc (by have := HNM.out; simp [HM.out]; omega) _)
  rw [← hw2]
  clear hw2 B1
  go_loopg [13] 65 (fun g z wr => Hid (Below N w wr) ∧ ∃ i : Nat, i ≤ 64 ∧ g + i = 65 ∧ z = .int .i64 i ∧ Hid (Blk wr M 117 (Ws p)) ∧ Hid (Blk wr bs 113 (ShC m h k n)) ∧ ∃ l : List W, l.length = 8 ∧ Hid (Blk wr (M + 1) 110 (Ws l)) ∧ Hid (Stands l (rnds p h i) i))
  case atStart => exact ⟨L2, 0, by omega, rfl, rfl, P2, S2, h, hh, T2, stands_start h⟩
  case round =>
    clear P2 T2 S2 L2
    obtain ⟨HBL, i, hi, hgk, rfl, P2, S2, l, hll, T2, HS⟩ := hrel
    by_cases hlt : i < 64
    · have q1 : (i : Int) < 64 := by omega
      have c1 := P2.out.cell (Ws_get (l := p) (j := i) (by omega))
      have c2 := (HT.out.kept (HBL.out.mono (by have := HbN.out; omega))).rounds i (by omega)
      have HE : Hid (Stands (tl l i (gW p i + gW K i)) (rnds p h (i + 1)) (i + 1)) := stands_next l (rnds p h i) i (gW K i) (gW p i) hll HS.out
      generalize gW p i = x at *
      generalize gW K i = y at *
      have f1 := add_wrap x y
      generalize x + y = z at *
      go_wp2_with fail
      refine wp_region_still_tail 8 Tryd.mixed (by kernel_rfl) ?_
      simp only [List.take_succ_cons, List.take_zero, List.drop_succ_cons, List.drop_zero]
      repeat still_step
      refine wpStill_nil ?_
      go_wp2_with fail
      refine (turnW_any l i z (M + 1) hll hlt _ T2.out.drew).mono ?_
      rintro e w3 ⟨rfl, hu3, ht3⟩
      have HU : Hid (But (M + 1) wr w3) := (But.drew _ wr).trans hu3
      have T3 : Hid (Blk w3 (M + 1) 110 (Ws (tl l i z))) := ht3
      clear hu3 ht3
      go_wp2
      go_roundg (gk - 1)
      case measure => omega
      case rel =>
        have hNM := HNM.out
        have hbN := HbN.out
        have hM := P2.out.lt
        exact ⟨HBL.out.trans (HU.out.below (by omega) (by omega)), i + 1, by omega, by omega, by go_num, P2.out.but HU.out (by omega), S2.out.but HU.out (by omega), tl l i z, by rw [tl_length, hll], T3, HE⟩
    · obtain rfl : i = 64 := by omega
      have hvl := rnds_length p h hh 64
      have HV : Hid (blk h b = az h (rnds p h 64) 8) := (show _ = _ by
        rw [blk, HP.out, az, List.take_of_length_le (by simp; omega), List.drop_eq_nil_of_le (by omega), List.append_nil])
      have HS : Hid (∀ j, j < 8 → gW l j = gW (rnds p h 64) j) := (show ∀ j, _ → _ from stands_end l _ HS.out)
      generalize rnds p h 64 = v64 at *
      go_wp2
      go_loopg [26] 9 (fun g z wr => Hid (But bs w wr) ∧ ∃ i : Nat, i ≤ 8 ∧ g + i = 9 ∧ z = .int .i64 i ∧ Hid (Blk wr bs 113 (ShC m (az h v64 i) k n)) ∧ Hid (Blk wr (M + 1) 110 (Ws l)))
      case atStart =>
        refine ⟨But.of_below (by rw [HN.out]; exact HBL.out), 0, by omega, rfl, rfl, ?_, T2⟩
        have : az h v64 0 = h := by simp [az]
        rw [this]; exact S2
      case round =>
        clear P2 S2 HBL T2
        obtain ⟨HBL, i, hi, hgk, rfl, S2, T2⟩ := hrel
        by_cases hlt : i < 8
        · have q1 : (i : Int) < 8 := by omega
          have c1 := S2.out.cell (SC_word (h := az h v64 i) i (by rw [az_length h v64 hh hvl i hi]; exact hlt))
          have z1 := S2.out.frozen (1 + i)
          have c2 := T2.out.cell (Ws_get (l := l) (j := i) (by omega))
          rw [HS.out i hlt] at c2
          rw [az_get h v64 hh hvl i hlt] at c1
          have HE : Hid ((az h v64 i).set i (gW h i + gW v64 i) = az h v64 (i + 1)) := az_set h v64 hh hvl i hlt
          generalize gW h i = x at *
          generalize gW v64 i = y at *
          have f1 := add_wrap x y
          generalize x + y = z at *
          go_wp2_with fail
          refine wp_region_still_tail 11 Tryd.mixed (by kernel_rfl) ?_
          simp only [List.take_succ_cons, List.take_zero, List.drop_succ_cons, List.drop_zero]
          repeat still_step
          refine wpStill_nil ?_
          go_wp2
          go_roundg (gk - 1)
          case measure => omega
          case rel =>
            have hNM := HNM.out
            have hbN := HbN.out
            exact ⟨(HBL.out.trans (But.setCell bs _ _ _)).trans (But.drew bs _), i + 1, by omega, by omega, by go_num, by
              show Blk _ _ _ _
              have := S2.out.set (1 + i) (shwv z)
              rw [SC_set_word i (by rw [az_length h v64 hh hvl i hi]; exact hlt), HE.out] at this
              exact this, T2.out.set_other (by omega) _ _⟩
        · obtain rfl : i = 8 := by omega
          go_wp2
          go_end0
          exact ⟨rfl, HBL.out, by rw [HV.out]; exact S2.out⟩
end Go.Proofs.YtmicmbjbclkbjaaDoor

/-
  What a State holds of the bytes that were written; a copy of bytes into the middle of a block.
-/
namespace Go.Proofs.YtmicmbjbclkbjaaDoor
open Go.RowKit

theorem blks_take (m l : List UInt8) : ∀ j, 64 * j ≤ m.length → blks (m ++ l) j = blks m j
  | 0, _ => rfl
  | j + 1, h => by
    rw [blks, blks, blks_take m l j (by omega)]
    congr 1
    rw [List.drop_append_of_le_length (by omega), List.take_append_of_le_length (by simp; omega)]
theorem blks_length (m : List UInt8) (hb : ∀ h b, h.length = 8 → (blk h b).length = 8) : ∀ j, (blks m j).length = 8
  | 0 => rfl
  | j + 1 => hb _ _ (blks_length m hb j)

/-- The words h and the block k are those of the bytes m. -/
structure Holds (h : List W) (k m : List UInt8) : Prop where
  words : h = blks m (m.length / 64)
  size : k.length = 64
  rest : k.take (m.length % 64) = m.drop (64 * (m.length / 64))

theorem holds_nil : Holds H0 (List.replicate 64 0) [] := ⟨rfl, rfl, rfl⟩

/-- Not yet a whole block. -/
theorem holds_few {h : List W} {k m l : List UInt8} (hh : Holds h k m) (hl : m.length % 64 + l.length < 64) :
    Holds h (k.take (m.length % 64) ++ l ++ k.drop (m.length % 64 + l.length)) (m ++ l) := by
  have hq : (m ++ l).length / 64 = m.length / 64 := by simp; omega
  have hr : (m ++ l).length % 64 = m.length % 64 + l.length := by simp; omega
  have hk := hh.size
  refine ⟨?_, ?_, ?_⟩
  · rw [hq, blks_take _ _ _ (by omega)]; exact hh.words
  · simp [hk]; omega
  · rw [hq, hr, List.drop_append_of_le_length (by omega), ← hh.rest]
    rw [List.take_append_of_le_length (by simp [hk]; omega), List.take_of_length_le (by simp [hk]; omega)]
/-- The block is full now. -/
theorem full_block {h : List W} {k m l : List UInt8} (hh : Holds h k m) :
    k.take (m.length % 64) ++ l.take (64 - m.length % 64) = ((m ++ l).drop (64 * (m.length / 64))).take 64 := by
  have hd : (m.drop (64 * (m.length / 64))).length = m.length % 64 := by simp; omega
  rw [hh.rest, List.drop_append_of_le_length (by omega), List.take_append, hd, List.take_of_length_le (l := m.drop _) (by omega)]
theorem full_words {h : List W} {k m l : List UInt8} (hh : Holds h k m) :
    blk h (k.take (m.length % 64) ++ l.take (64 - m.length % 64)) = blks (m ++ l) (m.length / 64 + 1) := by
  rw [full_block hh, blks, blks_take _ _ _ (by omega), hh.words]
theorem full_rest (m l : List UInt8) : l.drop (64 - m.length % 64) = (m ++ l).drop (64 * (m.length / 64 + 1)) := by
  rw [List.drop_append, (List.drop_eq_nil_of_le (by omega) : m.drop (64 * (m.length / 64 + 1)) = []), List.nil_append]
  congr 1
  omega
theorem none_rest (m l : List UInt8) (hr : m.length % 64 = 0) : l = (m ++ l).drop (64 * (m.length / 64)) := by
  rw [List.drop_append_of_le_length (by omega), List.drop_eq_nil_of_le (by omega), List.nil_append]
theorem none_words {h : List W} {k m : List UInt8} (l : List UInt8) (hh : Holds h k m) : h = blks (m ++ l) (m.length / 64) := by
  rw [blks_take _ _ _ (by omega)]; exact hh.words
/-- What is left over at the end. -/
theorem holds_end (M k : List UInt8) (j : Nat) (hk : k.length = 64) (hj : 64 * j ≤ M.length) (hr : (M.drop (64 * j)).length < 64) :
    Holds (blks M j) (M.drop (64 * j) ++ k.drop (M.drop (64 * j)).length) M := by
  have hl : (M.drop (64 * j)).length = M.length - 64 * j := by simp
  have hq : M.length / 64 = j := by omega
  have hm : M.length % 64 = M.length - 64 * j := by omega
  refine ⟨by rw [hq], by rw [List.length_append, hl, List.length_drop, hk]; omega, ?_⟩
  rw [hq, hm, List.take_append_of_le_length (by omega), List.take_of_length_le (by omega)]

end Go.Proofs.YtmicmbjbclkbjaaDoor

/-
  (*sha.State).take: what the call does.
-/
namespace Go.Proofs.YtmicmbjbclkbjaaDoor
open Go.RowKit
theorem slice111 (g r : Nat) (hr : r < 64) (W : World) : (Instr.sliceAt 111 (.pointer (some ⟨g, 9, none⟩)) (some (.int .i64 (r : Int))) none none).run Tryd.prog W = .ok (.slice (some ⟨g, 9 + r, none⟩) (64 - r) (64 - r)) W := by
  have h9 : (r : Int) ≤ 64 := by omega
  have hn : ¬ 64 = r := by omega
  simp [Instr.sliceAt, Instr.sureAddr, run_underlying Tryd.underlying111, Instr.sliceBounds, run_sliceBound, h9, hn, Addr.add_lit]
theorem slice111w (g : Nat) (W : World) : (Instr.sliceAt 111 (.pointer (some ⟨g, 9, none⟩)) none none none).run Tryd.prog W = .ok (.slice (some ⟨g, 9, none⟩) 64 64) W := by
  simp [Instr.sliceAt, Instr.sureAddr, run_underlying Tryd.underlying111, Instr.sliceBounds, Addr.add_lit]
theorem rd_block {w : World} {bs : Nat} {mm : Bool} {h : List W} {k : List UInt8} {n : Nat} (hB : Blk w bs 113 (ShC mm h k n)) (hh : h.length = 8) (hk : k.length = 64) : Rd w (.slice (some ⟨bs, 9, none⟩) 64 64) k := by
  refine ⟨_, 64, by rw [hk], by omega, by simp [maxLen], fun h => by simp at h, fun _ => ⟨bs, 9, rfl, hB.lt, fun j u hj => ?_⟩⟩
  have hj' : j < k.length := by have := (List.getElem?_eq_some_iff.1 hj).1; rwa [By_length] at this
  rw [hB.cell (SC_byte hh j hj'), ← hj, By_get hj']
  simp [gB, List.getD, hj']
set_option maxHeartbeats 1000000 in
set_option maxRecDepth 100000 in
theorem take_any (v : Value) (l m : List UInt8) (bs : Nat) (mm : Bool) (h : List W) (k : List UInt8) (hH : Holds h k m) (hn : m.length + l.length < 9223372036854775808) (w : World)
    (hT : Tabs w) (hB : Blk w bs 113 (ShC mm h k m.length)) (hr : Rd w v l) (ho : Off bs v) (h2 : 2 ≤ bs) :
    Calls Tryd.prog 85 #[.pointer (some ⟨bs, 0, none⟩), v] w fun e w' => e = .returned (.tuple #[]) ∧ But bs w w' ∧ ∃ h' k', Blk w' bs 113 (ShC mm h' k' (m ++ l).length) ∧ Holds h' k' (m ++ l) := by
  have HT : Hid (Tabs w) := hT
  have HB : Hid (Blk w bs 113 (ShC mm h k m.length)) := hB
  have HR : Hid (Rd w v l) := hr
  have HO : Hid (Off bs v) := ho
  have HH : Hid (Holds h k m) := hH
  have hhl : h.length = 8 := by rw [hH.words]; exact blks_length _ blk_length _
  have hkl : k.length = 64 := hH.size
  have c73 := hB.cell (SC_len hhl hkl)
  have z73 := hB.frozen 73
  obtain ⟨a, cap, rfl, h1, hc2, h3, h4⟩ := hr
  clear hT hB ho hH h4
  obtain ⟨M, HM⟩ : ∃ M, Hid (m ++ l = M) := ⟨_, rfl⟩
  have HML : Hid (M.length = m.length + l.length) := (show _ = _ by rw [← HM.out, List.length_append])
  rw [HM.out]
  obtain ⟨r, HRR⟩ : ∃ r, Hid (r = m.length % 64) := ⟨_, rfl⟩
  have hrlt : r < 64 := by have := HRR.out; omega
  have E1 : Hid ((m.length : Int) % 64 = (r : Int)) := (show _ = _ by have := HRR.out; omega)
  go_enter Tryd.func85, Tryd.ntmps85
  go_upto_region 2 with fail
  rw [E1.out]
  obtain ⟨w1, hw1⟩ : ∃ x, x = w.setCell ⟨bs, 73, none⟩ (.int .u64 ((m.length : Int) + (l.length : Int))) := ⟨_, rfl⟩
  rw [← hw1]
  have B1 : Hid (Blk w1 bs 113 (ShC mm h k M.length)) := (show Blk _ _ _ _ by
    have := HB.out.set 73 (.int .u64 ((M.length : Nat) : Int))
    rw [SC_set_len hhl hkl] at this
    rw [hw1]
    rw [HML.out] at this ⊢
    exact this)
  have U1 : Hid (But bs w w1) := (show But _ _ _ by rw [hw1]; exact But.setCell bs w _ _)
  have R1 : Hid (Rd w1 (.slice a l.length cap) l) := HR.out.but U1.out HO.out
  clear hw1 c73 z73 HB HR
  by_cases hr0 : 0 < r
  · have q1 : (0 : Int) < (r : Int) := by omega
    have hs1 := slice111 bs r hrlt
    obtain ⟨X, HX⟩ : ∃ X, Hid (l.take (64 - r) = X) := ⟨_, rfl⟩
    by_cases hfew : r + l.length < 64
    · have HXl : Hid (X = l) := (show _ = _ by rw [← HX.out, List.take_of_length_le (by omega)])
      have HXn : Hid (X.length = l.length) := (show _ = _ by rw [HXl.out])
      have q2 : (r : Int) + (l.length : Int) < 64 := by omega
      obtain ⟨a2, hs2, H2, H3⟩ := slice_from Tryd.underlying28 Tryd.size5 a l.length cap l.length (Nat.le_refl _) h1
      clear H2 H3
      go_wp2_with (first
        | (refine wpList_copy_bytes rfl (.tmp 28) (.tmp 29) 28 28 rfl 5 Tryd.underlying28 Tryd.size5 bs (9 + r) (64 - r) (64 - r) (.slice a l.length cap) l rfl rfl R1.out X l.length HX.out HXn.out 113 _ B1.out (by rw [SC_length hhl hkl]; omega) ?_)
        | fail)
      refine bodyPost_ret (results_none rfl _ _ _) rfl ?_
      refine ⟨rfl, U1.out.trans (But.setCells bs _ _ _), h, k.take r ++ X ++ k.drop (r + X.length), ?_, ?_⟩
      · have := Blk.over (By X) B1.out (9 + r) (by rw [SC_length hhl hkl, By_length, HXn.out]; omega)
        rw [SC_over hhl hkl r X (by rw [HXn.out]; omega)] at this
        exact this
      · rw [HXl.out, HRR.out, ← HM.out]
        exact holds_few HH.out (by rw [← HRR.out]; exact hfew)
    · have HXn : Hid (X.length = 64 - r) := (show _ = _ by rw [← HX.out, List.length_take]; omega)
      obtain ⟨c, HC⟩ : ∃ c, Hid (64 - r = c) := ⟨_, rfl⟩
      have hcl : c ≤ l.length := by have := HC.out; omega
      have q2 : 64 ≤ r + c := by have := HC.out; omega
      have q3 : c ≤ 64 := by have := HC.out; omega
      obtain ⟨a2, hs2, H2, H3⟩ := slice_from Tryd.underlying28 Tryd.size5 a l.length cap c hcl h1
      have H2 : Hid _ := H2
      have H3 : Hid _ := H3
      have hs0 := slice111w bs
      go_wp2_with (first
        | (refine wpList_copy_bytes rfl (.tmp 28) (.tmp 29) 28 28 rfl 5 Tryd.underlying28 Tryd.size5 bs (9 + r) (64 - r) (64 - r) (.slice a l.length cap) l rfl rfl R1.out X c HX.out (HXn.out.trans HC.out) 113 _ B1.out (by rw [SC_length hhl hkl]; omega) ?_)
        | fail)
      obtain ⟨k1, HK1⟩ : ∃ k1, Hid (k.take r ++ X = k1) := ⟨_, rfl⟩
      have hk1 : k1.length = 64 := by rw [← HK1.out, List.length_append, HXn.out, List.length_take]; omega
      obtain ⟨wa, hwa⟩ : ∃ x, x = w1.setCells bs (9 + r) (By X) := ⟨_, rfl⟩
      rw [← hwa]
      have Ua : Hid (But bs w1 wa) := (show But _ _ _ by rw [hwa]; exact But.setCells bs _ _ _)
      have Ba : Hid (Blk wa bs 113 (ShC mm h k1 M.length)) := (show Blk _ _ _ _ by
        have := Blk.over (By X) B1.out (9 + r) (by rw [SC_length hhl hkl, By_length, HXn.out]; omega)
        rw [SC_over hhl hkl r X (by rw [HXn.out]; omega), HK1.out, List.drop_eq_nil_of_le (by rw [hkl, HXn.out]; omega), List.append_nil] at this
        rw [hwa]; exact this)
      clear hwa
      refine wp_region_still_tail 7 Tryd.mixed (by kernel_rfl) ?_
      simp only [List.take_succ_cons, List.take_zero, List.drop_succ_cons, List.drop_zero]
      repeat still_step
      refine wpStill_nil ?_
      go_wp2_with fail
      refine (mix_any (.slice (some ⟨bs, 9, none⟩) 64 64) k1 bs mm h k1 M.length hk1 hhl _ (HT.out.but ((U1.out.trans Ua.out).trans (But.drew _ _)) h2) Ba.out.drew (rd_block Ba.out.drew hhl hk1) h2).mono ?_
      rintro e w2 ⟨rfl, hu2, hb2⟩
      have U2' : Hid (But bs w1 w2) := (Ua.out.trans (But.drew bs wa)).trans hu2
      have U2 : Hid (But bs w w2) := U1.out.trans U2'.out
      have B2 : Hid (Blk w2 bs 113 (ShC mm (blks M (m.length / 64 + 1)) k1 M.length)) := (show Blk _ _ _ _ by
        have := full_words (l := l) HH.out
        rw [HM.out, ← HRR.out, HX.out, HK1.out] at this
        rw [← this]; exact hb2)
      have R2 : Hid (Rd w2 (.slice a2 (l.length - c) (cap - c)) (M.drop (64 * (m.length / 64 + 1)))) := (show Rd _ _ _ by
        have := (H2.out w1 _ R1.out).but U2'.out (H3.out w1 _ bs R1.out HO.out)
        have e := full_rest m l
        rw [HM.out, ← HRR.out, HC.out] at e
        rwa [e] at this)
      have O2 : Hid (Off bs (.slice a2 (l.length - c) (cap - c))) := H3.out w1 _ bs R1.out HO.out
      have hj2 : 64 * (m.length / 64 + 1) ≤ M.length := by have := HRR.out; rw [HML.out]; omega
      clear hu2 hb2 Ba Ua R1 B1
      have hk2 := hk1
      go_wp2
      go_loopg [1] (M.length + 1) (fun g z wr => ∃ (j : Nat) (a' : Option Addr) (n' cap' : Nat) (k' : List UInt8), z = .slice a' n' cap' ∧ Hid (But bs w wr) ∧ Hid (Blk wr bs 113 (ShC mm (blks M j) k' M.length)) ∧ k'.length = 64 ∧ Hid (Rd wr (.slice a' n' cap') (M.drop (64 * j))) ∧ Hid (Off bs (.slice a' n' cap')) ∧ Hid (64 * j ≤ M.length ∧ g + j = M.length + 1 + (m.length / 64 + 1)))
      case atStart => exact ⟨(m.length / 64 + 1), _, _, _, k1, rfl, U2, B2, hk2, R2, O2, ⟨hj2, by omega⟩⟩
      case round =>
        clear B2 R2 O2 U2
        obtain ⟨j, a', n', cap', k', rfl, U2, B2, hk2, R2, O2, HJ⟩ := hrel
        have hbl : (blks M j).length = 8 := blks_length _ blk_length _
        have hnl : (M.drop (64 * j)).length = n' := rd_len R2.out
        have hcap : n' ≤ cap' := rd_cap R2.out
        have hcm : cap' ≤ maxLen := rd_max R2.out
        have hs0 := slice111w bs
        have HJ1 := HJ.out.1
        have HNL : Hid (M.length - 64 * j = n') := (show _ = _ by rw [← hnl, List.length_drop])
        clear hnl HJ1
        by_cases hge : 64 ≤ n'
        · have q1 : (64 : Int) ≤ (n' : Int) := by omega
          have hs1 : ∀ W, (Instr.sliceAt 28 (.slice a' n' cap') none (some (.int .i64 64)) none).run Tryd.prog W = .ok (.slice a' 64 cap') W := slice_to Tryd.underlying28 Tryd.size5 a' n' cap' 64 hge hcap (by omega) wr _ R2.out
          obtain ⟨a2, hs2, H2, H3⟩ := slice_from Tryd.underlying28 Tryd.size5 a' n' cap' 64 hge hcap
          have hs2 : ∀ W, (Instr.sliceAt 28 (.slice a' n' cap') (some (.int .i64 64)) none none).run Tryd.prog W = .ok (.slice a2 (n' - 64) (cap' - 64)) W := hs2
          have H2 : Hid _ := H2
          have H3 : Hid _ := H3
          go_wp2_with fail
          refine wp_region_still_tail 5 Tryd.mixed (by kernel_rfl) ?_
          simp only [List.take_succ_cons, List.take_zero, List.drop_succ_cons, List.drop_zero]
          repeat still_step
          refine wpStill_nil ?_
          go_wp2_with fail
          refine (mix_any (.slice a' 64 cap') ((M.drop (64 * j)).take 64) bs mm (blks M j) k' M.length (by have := HNL.out; rw [List.length_take, List.length_drop]; omega) hbl _ (HT.out.but (U2.out.trans (But.drew _ _)) h2) B2.out.drew ((R2.out.take 64 hge).but (But.drew bs _) (O2.out.len 64 (by omega) (by omega))) h2).mono ?_
          rintro e w3 ⟨rfl, hu3, hb3⟩
          have U3 : Hid (But bs wr w3) := (But.drew bs wr).trans hu3
          have B3 : Hid (Blk w3 bs 113 (ShC mm (blks M (j + 1)) k' M.length)) := hb3
          have R3 : Hid (Rd w3 (.slice a2 (n' - 64) (cap' - 64)) (M.drop (64 * (j + 1)))) := (show Rd _ _ _ by
            have := (H2.out wr _ R2.out).but U3.out (H3.out wr _ bs R2.out O2.out)
            rwa [List.drop_drop] at this)
          have O3 : Hid (Off bs (.slice a2 (n' - 64) (cap' - 64))) := H3.out wr _ bs R2.out O2.out
          clear hu3 hb3
          go_wp2
          go_roundg (gk - 1)
          case measure => have := HJ.out; have := HNL.out; omega
          case rel => exact ⟨j + 1, _, _, _, k', rfl, U2.out.trans U3.out, B3, hk2, R3, O3, ⟨by have := HJ.out; have := HNL.out; omega, by have := HJ.out; have := HNL.out; omega⟩⟩
        · have q1 : ¬ (64 : Int) ≤ (n' : Int) := by omega
          have hlt : (M.drop (64 * j)).length < 64 := by have := HNL.out; rw [List.length_drop]; omega
          obtain ⟨X, HX⟩ : ∃ X, Hid ((M.drop (64 * j)).take 64 = X) := ⟨_, rfl⟩
          have HX2 : Hid (M.drop (64 * j) = X) := (show _ = _ by rw [← HX.out, List.take_of_length_le (by omega)])
          have HXn : Hid (X.length = n') := (show _ = _ by rw [← HX2.out, List.length_drop]; exact HNL.out)
          go_wp2_with (first
            | (refine wpList_copy_bytes rfl (.tmp 60) (.tmp 61) 28 28 rfl 5 Tryd.underlying28 Tryd.size5 bs 9 64 64 (.slice a' n' cap') _ rfl rfl R2.out X n' HX.out HXn.out 113 _ B2.out (by rw [SC_length hbl hk2]; omega) ?_)
            | fail)
          go_end0
          refine ⟨rfl, U2.out.trans (But.setCells bs _ _ _), blks M j, X ++ k'.drop X.length, ?_, ?_⟩
          · have := Blk.over (By X) B2.out 9 (by rw [SC_length hbl hk2, By_length, HXn.out]; omega)
            rw [show (9 : Nat) = 9 + 0 from rfl, SC_over hbl hk2 0 X (by rw [HXn.out]; omega)] at this
            simpa using this
          · have := holds_end M k' j hk2 HJ.out.1 hlt
            rw [HX2.out] at this
            exact this
  · obtain rfl : r = 0 := by omega
    have hs0 := slice111w bs
    have U2 : Hid (But bs w w1) := U1
    have B2 : Hid (Blk w1 bs 113 (ShC mm (blks M (m.length / 64)) k M.length)) := (show Blk _ _ _ _ by
      have := none_words l HH.out
      rw [HM.out] at this
      rw [← this]; exact B1.out)
    have R2 : Hid (Rd w1 (.slice a l.length cap) (M.drop (64 * (m.length / 64)))) := (show Rd _ _ _ by
      have := none_rest m l HRR.out.symm
      rw [HM.out] at this
      rw [← this]; exact R1.out)
    have O2 : Hid (Off bs (.slice a l.length cap)) := HO
    have hj2 : 64 * (m.length / 64) ≤ M.length := by rw [HML.out]; omega
    clear R1 B1
    have hk2 := hkl
    go_wp2
    go_loopg [1] (M.length + 1) (fun g z wr => ∃ (j : Nat) (a' : Option Addr) (n' cap' : Nat) (k' : List UInt8), z = .slice a' n' cap' ∧ Hid (But bs w wr) ∧ Hid (Blk wr bs 113 (ShC mm (blks M j) k' M.length)) ∧ k'.length = 64 ∧ Hid (Rd wr (.slice a' n' cap') (M.drop (64 * j))) ∧ Hid (Off bs (.slice a' n' cap')) ∧ Hid (64 * j ≤ M.length ∧ g + j = M.length + 1 + (m.length / 64)))
    case atStart => exact ⟨(m.length / 64), _, _, _, k, rfl, U2, B2, hk2, R2, O2, ⟨hj2, by omega⟩⟩
    case round =>
      clear B2 R2 O2 U2
      obtain ⟨j, a', n', cap', k', rfl, U2, B2, hk2, R2, O2, HJ⟩ := hrel
      have hbl : (blks M j).length = 8 := blks_length _ blk_length _
      have hnl : (M.drop (64 * j)).length = n' := rd_len R2.out
      have hcap : n' ≤ cap' := rd_cap R2.out
      have hcm : cap' ≤ maxLen := rd_max R2.out
      have hs0 := slice111w bs
      have HJ1 := HJ.out.1
      have HNL : Hid (M.length - 64 * j = n') := (show _ = _ by rw [← hnl, List.length_drop])
      clear hnl HJ1
      by_cases hge : 64 ≤ n'
      · have q1 : (64 : Int) ≤ (n' : Int) := by omega
        have hs1 : ∀ W, (Instr.sliceAt 28 (.slice a' n' cap') none (some (.int .i64 64)) none).run Tryd.prog W = .ok (.slice a' 64 cap') W := slice_to Tryd.underlying28 Tryd.size5 a' n' cap' 64 hge hcap (by omega) wr _ R2.out
        obtain ⟨a2, hs2, H2, H3⟩ := slice_from Tryd.underlying28 Tryd.size5 a' n' cap' 64 hge hcap
        have hs2 : ∀ W, (Instr.sliceAt 28 (.slice a' n' cap') (some (.int .i64 64)) none none).run Tryd.prog W = .ok (.slice a2 (n' - 64) (cap' - 64)) W := hs2
        have H2 : Hid _ := H2
        have H3 : Hid _ := H3
        go_wp2_with fail
        refine wp_region_still_tail 5 Tryd.mixed (by kernel_rfl) ?_
        simp only [List.take_succ_cons, List.take_zero, List.drop_succ_cons, List.drop_zero]
        repeat still_step
        refine wpStill_nil ?_
        go_wp2_with fail
        refine (mix_any (.slice a' 64 cap') ((M.drop (64 * j)).take 64) bs mm (blks M j) k' M.length (by have := HNL.out; rw [List.length_take, List.length_drop]; omega) hbl _ (HT.out.but (U2.out.trans (But.drew _ _)) h2) B2.out.drew ((R2.out.take 64 hge).but (But.drew bs _) (O2.out.len 64 (by omega) (by omega))) h2).mono ?_
        rintro e w3 ⟨rfl, hu3, hb3⟩
        have U3 : Hid (But bs wr w3) := (But.drew bs wr).trans hu3
        have B3 : Hid (Blk w3 bs 113 (ShC mm (blks M (j + 1)) k' M.length)) := hb3
        have R3 : Hid (Rd w3 (.slice a2 (n' - 64) (cap' - 64)) (M.drop (64 * (j + 1)))) := (show Rd _ _ _ by
          have := (H2.out wr _ R2.out).but U3.out (H3.out wr _ bs R2.out O2.out)
          rwa [List.drop_drop] at this)
        have O3 : Hid (Off bs (.slice a2 (n' - 64) (cap' - 64))) := H3.out wr _ bs R2.out O2.out
        clear hu3 hb3
        go_wp2
        go_roundg (gk - 1)
        case measure => have := HJ.out; have := HNL.out; omega
        case rel => exact ⟨j + 1, _, _, _, k', rfl, U2.out.trans U3.out, B3, hk2, R3, O3, ⟨by have := HJ.out; have := HNL.out; omega, by have := HJ.out; have := HNL.out; omega⟩⟩
      · have q1 : ¬ (64 : Int) ≤ (n' : Int) := by omega
        have hlt : (M.drop (64 * j)).length < 64 := by have := HNL.out; rw [List.length_drop]; omega
        obtain ⟨X, HX⟩ : ∃ X, Hid ((M.drop (64 * j)).take 64 = X) := ⟨_, rfl⟩
        have HX2 : Hid (M.drop (64 * j) = X) := (show _ = _ by rw [← HX.out, List.take_of_length_le (by omega)])
        have HXn : Hid (X.length = n') := (show _ = _ by rw [← HX2.out, List.length_drop]; exact HNL.out)
        go_wp2_with (first
          | (refine wpList_copy_bytes rfl (.tmp 60) (.tmp 61) 28 28 rfl 5 Tryd.underlying28 Tryd.size5 bs 9 64 64 (.slice a' n' cap') _ rfl rfl R2.out X n' HX.out HXn.out 113 _ B2.out (by rw [SC_length hbl hk2]; omega) ?_)
          | fail)
        go_end0
        refine ⟨rfl, U2.out.trans (But.setCells bs _ _ _), blks M j, X ++ k'.drop X.length, ?_, ?_⟩
        · have := Blk.over (By X) B2.out 9 (by rw [SC_length hbl hk2, By_length, HXn.out]; omega)
          rw [show (9 : Nat) = 9 + 0 from rfl, SC_over hbl hk2 0 X (by rw [HXn.out]; omega)] at this
          simpa using this
        · have := holds_end M k' j hk2 HJ.out.1 hlt
          rw [HX2.out] at this
          exact this
end Go.Proofs.YtmicmbjbclkbjaaDoor

/-
  sha.newState: what the call does.
-/
namespace Go.Proofs.YtmicmbjbclkbjaaDoor
open Go.RowKit
theorem Tryd.size99 : (Tryd.prog.info? 99).map (·.size) = some 8 := by kernel_rfl
theorem Tryd.size113 : (Tryd.prog.info? 113).map (·.size) = some 74 := by kernel_rfl
/-- A new State's cells. -/
def S0c : List Value := ShC true H0 (List.replicate 64 0) 0
theorem ShC_one (m : Bool) (h : List W) (k : List UInt8) (n : Nat) : ∀ u ∈ ShC m h k n, u.oneCell' = true := by
  intro u hu
  simp only [ShC, List.mem_cons, List.mem_append] at hu
  rcases hu with rfl | hu | hu | rfl | hu
  · rfl
  · exact Ws_one _ u hu
  · exact By_one _ u hu
  · rfl
  · simp at hu
def Z113 : List Value := ShC false (List.replicate 8 0#32) (List.replicate 64 0) 0
theorem zero113 (W : World) : (zeroValue 113).run Tryd.prog W = .ok (.agg Z113.toArray) W := by kernel_rfl
theorem build48 : List.foldl (fun (cs : Array Value) (x : Value × Nat) => cs.setIfInBounds (1 + x.snd) x.fst) (Z113.set 0 (Value.bool true)).toArray (Ws H0).zipIdx = S0c.toArray := by kernel_rfl
theorem begin_range {w : World} (h : Tabs w) : w.rangeAt 0 0 (Ws H0) := fun j v hj => by
  have hj' : j < 8 := by have := (List.getElem?_eq_some_iff.1 hj).1; rw [Ws_length] at this; exact this
  rw [Nat.zero_add, h.begin j hj', ← hj, Ws_get hj']

set_option maxHeartbeats 1000000 in
set_option maxRecDepth 100000 in
theorem newState_any (w : World) (hT : Tabs w) : Calls Tryd.prog 84 #[] w fun e w' => e = .returned (.agg S0c.toArray) ∧ Below w.heap.size w w' := by
  have HT : Hid (Tabs w) := hT
  clear hT
  obtain ⟨N, HN⟩ : ∃ N, Hid (w.heap.size = N) := ⟨_, rfl⟩
  obtain ⟨B, HB⟩ : ∃ B : List Value, Hid (Ws H0 = B) := ⟨_, rfl⟩
  have hbl : B.length = 8 := by rw [← HB.out]; rfl
  have hz := zero113
  obtain ⟨Z, HZ⟩ : ∃ Z, Hid (Z113 = Z) := ⟨_, rfl⟩
  rw [HZ.out] at hz
  have hzl : Z.length = 74 := by rw [← HZ.out]; rfl
  have hze : ¬ Z = [] := fun h => by rw [h] at hzl; simp at hzl
  have hs : S0c.length = 74 := rfl
  have hb := build48
  rw [HB.out, HZ.out] at hb
  have HO : Hid (∀ u ∈ S0c, u.oneCell' = true) := ShC_one _ _ _ _
  generalize S0c = S at *
  go_enter Tryd.func84, Tryd.ntmps84
  go_wp2_with (first
    | (refine wpList_load_mid rfl 99 _ rfl 0 0 rfl B _ (by rw [← HB.out]; exact begin_range (HT.out.gr ((Below.refl _ _).alloc (Nat.le_refl _) _))) Tryd.underlying99 rfl (by rw [hbl]; exact Tryd.size99) ?_)
    | (refine wpList_store_new rfl 113 _ _ rfl w _ _ _ rfl rfl rfl (by simpa [hs] using Tryd.size113) (by simp [hzl, hs]) (all_one HO.out) ?_)
    | fail)
  refine bodyPost_ret (results_cell_row rfl _ _ w.heap.size 113 _ (0, 0) _ rfl (Blk.new w 113 S) Tryd.underlying113 rfl (by simpa [hs] using Tryd.size113)) rfl ⟨rfl, ?_⟩
  exact (Below.refl _ _).alloc (Nat.le_refl _) _
end Go.Proofs.YtmicmbjbclkbjaaDoor
