/-
  sha.ended: what the call does.
-/
import Derived.Test.YtooffljimdklfaaDoorNewState
import Derived.Test.YtooffljimdklfaaDoorHashB
namespace Go.Proofs.YtooffljimdklfaaDoor
open Go.RowKit
theorem zero149 (W : World) : (zeroValue 149).run Tryd.prog W = .ok (.agg (By (List.replicate 72 0)).toArray) W := by kernel_rfl
theorem Tryd.size91 : (Tryd.prog.info? 91).map (·.size) = some 1 := by kernel_rfl
theorem be8_length (n : Nat) : (be8 n).length = 8 := by simp [be8]
theorem be8_get (n i : Nat) (hi : i < 8) : (be8 n)[i]? = some (UInt8.ofNat (n / 2 ^ (8 * (7 - i)))) := by simp [be8, hi]
theorem padb_length (n : Nat) : (padb n).length = (119 - n % 64) % 64 + 9 := by simp [padb, be8_length]
/-- The bytes behind a message, so far; c: bits, z: noughts ahead of their count. -/
def pa (c z i : Nat) : List UInt8 := 0x80 :: (List.replicate z 0 ++ (be8 c).take i) ++ List.replicate (71 - z - i) 0
theorem pa_length (c z i : Nat) (hz : z < 64) (hi : i ≤ 8) : (pa c z i).length = 72 := by simp [pa, be8_length]; omega
theorem pa_set (c z i : Nat) (hz : z < 64) (hi : i < 8) : (pa c z i).set (1 + z + i) (UInt8.ofNat (c / 2 ^ (8 * (7 - i)))) = pa c z (i + 1) := by
  unfold pa
  have hl : (0x80 :: (List.replicate z 0 ++ (be8 c).take i) : List UInt8).length = 1 + z + i := by simp [be8_length]; omega
  rw [List.set_append_right _ _ (by omega), hl, Nat.sub_self]
  obtain ⟨q, hq⟩ : ∃ q, 71 - z - i = q + 1 := ⟨70 - z - i, by omega⟩
  rw [hq, List.replicate_succ, List.set_cons_zero, show 71 - z - (i + 1) = q by omega, List.take_add_one, be8_get c i hi]
  simp
theorem pa_end (n : Nat) : (pa (8 * n) ((119 - n % 64) % 64) 8).take ((119 - n % 64) % 64 + 9) = padb n := by
  unfold pa padb
  rw [List.take_of_length_le (l := be8 _) (by rw [be8_length]; omega)]
  rw [List.take_append_of_le_length (by simp [be8_length]), List.take_of_length_le (by simp [be8_length])]
theorem slice149 (g r : Nat) (h0 : 0 < r) (hr : r ≤ 72) (W : World) : (Instr.sliceAt 149 (.pointer (some ⟨g, 0, none⟩)) none (some (.int .i64 (r : Int))) none).run Tryd.prog W = .ok (.slice (some ⟨g, 0, none⟩) r 72) W := by
  have h9 : (r : Int) ≤ 72 := by omega
  simp [Instr.sliceAt, Instr.sureAddr, run_underlying Tryd.underlying149, Instr.sliceBounds, run_sliceBound, h9, Addr.add_lit]
/-- An element of an array that is a value. -/
theorem index_row {P : Program} {t e : TypeId} {n : Nat} {k : IntKind} (hu : P.underlying t = some (.array n e)) (he : P.underlying e = some (.int k)) (hsz : (P.info? e).map (·.size) = some 1)
    (cs : List Value) (i : Nat) (v : Value) (hi : i < n) (hv : cs[i]? = some v) (W : World) : (Instr.index t (.agg cs.toArray) (.int .i64 (i : Int))).run P W = .ok v W := by
  cases hq : P.info? e with
  | none => simp [hq] at hsz
  | some j =>
    have hj : j.size = 1 := by simpa [hq] using hsz
    simp [Instr.index, asIntOf, run_underlying hu, run_underlying he, part, isAgg, sizeOf, typeInfo, hq, hj, hv]
    omega
theorem u8_top (x : W) : (x.toNat : Int) / 16777216 = ((UInt8.ofNat (x.toNat / 2 ^ 24)).toNat : Int) := by
  have := x.isLt
  rw [UInt8.toNat_ofNat']
  omega
theorem u8_two (x : W) : (x.toNat : Int) / 65536 % 256 = ((UInt8.ofNat (x.toNat / 2 ^ 16)).toNat : Int) := by
  rw [UInt8.toNat_ofNat']
  omega
theorem u8_three (x : W) : (x.toNat : Int) / 256 % 256 = ((UInt8.ofNat (x.toNat / 2 ^ 8)).toNat : Int) := by
  rw [UInt8.toNat_ofNat']
  omega
theorem u8_four (x : W) : (x.toNat : Int) % 256 = ((UInt8.ofNat x.toNat).toNat : Int) := by
  rw [UInt8.toNat_ofNat']
  omega
/-- The digest so far. -/
def dz (h : List W) (i : Nat) : List UInt8 := dig (h.take i) ++ List.replicate (32 - 4 * i) 0
theorem dig_length (h : List W) : (dig h).length = 4 * h.length := by
  induction h with
  | nil => rfl
  | cons x t ih => simp only [dig, List.map_cons, List.flatten_cons, List.length_append] at *; rw [ih]; simp [by4]; omega
theorem dz_length (h : List W) (hh : h.length = 8) (i : Nat) (hi : i ≤ 8) : (dz h i).length = 32 := by simp [dz, dig_length, hh]; omega
theorem dz_set (h : List W) (hh : h.length = 8) (i : Nat) (hi : i < 8) :
    ((((dz h i).set (4 * i) (UInt8.ofNat ((gW h i).toNat / 2 ^ 24))).set (4 * i + 1) (UInt8.ofNat ((gW h i).toNat / 2 ^ 16))).set (4 * i + 2) (UInt8.ofNat ((gW h i).toNat / 2 ^ 8))).set (4 * i + 3) (UInt8.ofNat (gW h i).toNat) = dz h (i + 1) := by
  have hl : (dig (h.take i)).length = 4 * i := by rw [dig_length, List.length_take, hh]; omega
  obtain ⟨q, hq⟩ : ∃ q, 32 - 4 * i = q + 4 := ⟨28 - 4 * i, by omega⟩
  unfold dz
  rw [hq, show 32 - 4 * (i + 1) = q by omega, List.set_append_right _ _ (by omega), List.set_append_right _ _ (by omega), List.set_append_right _ _ (by omega), List.set_append_right _ _ (by omega), hl, Nat.sub_self,
    Nat.add_sub_cancel_left, Nat.add_sub_cancel_left, Nat.add_sub_cancel_left, List.take_add_one]
  have hx : h[i]? = some (gW h i) := by simp [gW, List.getD, hh, hi]
  rw [hx]
  simp [dig, by4, List.replicate_succ]
/-- The first n of a block of bytes. -/
theorem rd_bytes {w : World} {b : Nat} {T : TypeId} {l : List UInt8} (hB : Blk w b T (By l)) (n cap : Nat) (hn : n ≤ l.length) (hc : n ≤ cap) (hm : cap ≤ maxLen) : Rd w (.slice (some ⟨b, 0, none⟩) n cap) (l.take n) := by
  have hl : (l.take n).length = n := by simp; omega
  refine ⟨_, cap, by rw [hl], by omega, hm, fun h => by simp at h, fun _ => ⟨b, 0, rfl, hB.lt, fun j u hj => ?_⟩⟩
  rw [Nat.zero_add]
  refine hB.cell ?_
  have hj' : j < n := by have := (List.getElem?_eq_some_iff.1 hj).1; rw [By_length, hl] at this; exact this
  rw [← hj, By, By, List.map_take, List.getElem?_take_of_lt hj']

set_option maxHeartbeats 1000000 in
set_option maxRecDepth 100000 in
theorem ended_any (m : List UInt8) (mm : Bool) (h : List W) (k : List UInt8) (hH : Holds h k m) (hn : m.length ≤ 2199023255552) (w : World) (hT : Tabs w) :
    Calls Tryd.prog 76 #[.agg (SC mm h k m.length).toArray] w fun e w' => e = .returned (.agg (By (sha m)).toArray) ∧ Below w.heap.size w w' := by
  have HT : Hid (Tabs w) := hT
  have HH : Hid (Holds h k m) := hH
  have hhl : h.length = 8 := by rw [hH.words]; exact blks_length _ blk_length _
  have hkl : k.length = 64 := hH.size
  clear hT hH
  obtain ⟨C, HC⟩ : ∃ C, Hid (SC mm h k m.length = C) := ⟨_, rfl⟩
  rw [HC.out]
  obtain ⟨N, HN⟩ : ∃ N, Hid (w.heap.size = N) := ⟨_, rfl⟩
  obtain ⟨Z, HZ⟩ : ∃ Z, Hid (By (List.replicate 72 0) = Z) := ⟨_, rfl⟩
  have hz := zero149
  rw [HZ.out] at hz
  go_enter Tryd.func76, Tryd.ntmps76
  go_upto_region 2 with fail
  obtain ⟨w1, hw1⟩ : ∃ x, x = ((w.alloc (.cells C.toArray 137 (0, 0))).alloc (.cells (By (List.replicate 32 0)).toArray 24 (0, 0))).alloc (.cells Z.toArray 149 (0, 0)) := ⟨_, rfl⟩
  have S1 : Hid (Blk w1 N 137 C) := (show Blk _ _ _ _ by rw [hw1, ← HN.out]; exact ((Blk.new w 137 C).alloc _).alloc _)
  have O1 : Hid (Blk w1 (N + 1) 24 (By (List.replicate 32 0))) := (show Blk _ _ _ _ by
    have := (Blk.new (w.alloc (.cells C.toArray 137 (0, 0))) 24 (By (List.replicate 32 0))).alloc (.cells Z.toArray 149 (0, 0))
    rw [show (w.alloc (.cells C.toArray 137 (0, 0))).heap.size = N + 1 by simp [HN.out]] at this
    rw [hw1]; exact this)
  have P1 : Hid (Blk w1 (N + 2) 149 Z) := (show Blk _ _ _ _ by
    have := Blk.new ((w.alloc (.cells C.toArray 137 (0, 0))).alloc (.cells (By (List.replicate 32 0)).toArray 24 (0, 0))) 149 Z
    rw [show ((w.alloc (.cells C.toArray 137 (0, 0))).alloc (.cells (By (List.replicate 32 0)).toArray 24 (0, 0))).heap.size = N + 2 by simp [HN.out]] at this
    rw [hw1]; exact this)
  have L1 : Hid (Below N w w1) := (show Below _ _ _ by
    rw [hw1]; exact ((Below.refl _ _).alloc (by rw [HN.out]; omega) _).alloc (by simp [HN.out]) _ |>.alloc (by simp [HN.out]; omega) _)
  change Code.wp _ _ _ _ (((w.alloc (.cells C.toArray 137 (0, 0))).alloc (.cells (By (List.replicate 32 0)).toArray 24 (0, 0))).alloc (.cells Z.toArray 149 (0, 0)))
  rw [← hw1, HN.out]
  have c0 := P1.out.cell (j := 0) (v := .int .u8 0) (by rw [← HZ.out]; rfl)
  have z0 := P1.out.frozen 0
  have c73 := S1.out.cell (j := 73) (v := .int .u64 (m.length : Int)) (by rw [← HC.out]; exact SC_len hhl hkl)
  have c73' : (w1.setCell ⟨N + 2, 0, none⟩ (.int .u8 128)).cell? ⟨N, 73, none⟩ = some (.int .u64 (m.length : Int)) := (S1.out.set_other (by omega) _ _).cell (j := 73) (v := .int .u64 (m.length : Int)) (by rw [← HC.out]; exact SC_len hhl hkl)
  clear hw1
  obtain ⟨z, HZZ⟩ : ∃ z, Hid ((119 - m.length % 64) % 64 = z) := ⟨_, rfl⟩
  have hz64 : z < 64 := by have := HZZ.out; omega
  obtain ⟨c, HCC⟩ : ∃ c, Hid (8 * m.length = c) := ⟨_, rfl⟩
  have hc64 : c < 18446744073709551616 := by have := HCC.out; omega
  go_wp2
  rw [show (1 + (119 - (m.length : Int)) % 64) = ((1 + z : Nat) : Int) by have := HZZ.out; omega, show ((m.length : Int) * 8) = (c : Int) by have := HCC.out; omega]
  obtain ⟨y, HY⟩ : ∃ y, Hid (1 + z = y) := ⟨_, rfl⟩
  have hy : y ≤ 64 := by have := HY.out; omega
  rw [HY.out]
  obtain ⟨w2, hw2⟩ : ∃ x, x = w1.setCell ⟨N + 1 + 1, 0, none⟩ (.int .u8 128) := ⟨_, rfl⟩
  rw [← hw2]
  have S2 : Hid (Blk w2 N 137 C) := (show Blk _ _ _ _ by rw [hw2]; exact S1.out.set_other (by omega) _ _)
  have O2 : Hid (Blk w2 (N + 1) 24 (By (List.replicate 32 0))) := (show Blk _ _ _ _ by rw [hw2]; exact O1.out.set_other (by omega) _ _)
  have P2 : Hid (Blk w2 (N + 1 + 1) 149 (By (pa c z 0))) := (show Blk _ _ _ _ by
    rw [hw2]
    have := P1.out.set 0 (.int .u8 128)
    rw [← HZ.out, show (Value.int .u8 128) = .int .u8 (((128 : UInt8).toNat : Nat) : Int) from rfl, By_set] at this
    have e : (List.replicate 72 (0 : UInt8)).set 0 128 = pa c z 0 := by
      unfold pa
      rw [show (72 : Nat) = 71 + 1 from rfl, List.replicate_succ, List.set_cons_zero, List.take_zero, List.append_nil, List.cons_append, List.replicate_append_replicate, show z + (71 - z - 0) = 71 by omega]
    rw [e] at this
    exact this)
  have L2 : Hid (Below N w w2) := (show Below _ _ _ by rw [hw2]; exact L1.out.trans ((But.setCell _ _ _ _).below (by omega) (by have := S1.out.lt; omega)))
  clear hw2 c0 z0 c73 c73' S1 O1 P1 L1
  go_loopg [21] 9 (fun g x wr => Hid (Below N w wr) ∧ ∃ i : Nat, i ≤ 8 ∧ g + i = 9 ∧ x = .int .i64 i ∧ Hid (Blk wr N 137 C) ∧ Hid (Blk wr (N + 1) 24 (By (List.replicate 32 0))) ∧ Hid (Blk wr (N + 1 + 1) 149 (By (pa c z i))))
  case atStart => exact ⟨L2, 0, by omega, rfl, rfl, S2, O2, P2⟩
  case round =>
    clear S2 O2 P2 L2
    obtain ⟨L2, i, hi, hgk, rfl, S2, O2, P2⟩ := hrel
    by_cases hlt : i < 8
    · have c1 := P2.out.cell (By_get (l := pa c z i) (j := y + i) (by rw [pa_length c z i hz64 hi]; have := HY.out; omega))
      have z1 := P2.out.frozen (y + i)
      have q1 : (i : Int) < 8 := by omega
      have q2 : (y : Int) + (i : Int) < 72 := by omega
      have f1 : Hid ((c : Int) / (2 : Int) ^ (8 * (7 - i)) % 256 = ((UInt8.ofNat (c / 2 ^ (8 * (7 - i)))).toNat : Int)) := u8_shr c _
      have HE : Hid ((pa c z i).set (y + i) (UInt8.ofNat (c / 2 ^ (8 * (7 - i)))) = pa c z (i + 1)) := (show _ = _ by rw [← HY.out]; exact pa_set c z i hz64 hlt)
      generalize UInt8.ofNat (c / 2 ^ (8 * (7 - i))) = x at *
      generalize (pa c z i)[y + i]'_ = old at *
      go_wp2
      go_roundg (gk - 1)
      case measure => omega
      case rel => exact ⟨L2.out.trans ((But.setCell _ _ _ _).below (by omega) (by have := S2.out.lt; omega)), i + 1, by omega, by omega, by go_num, S2.out.set_other (by omega) _ _, O2.out.set_other (by omega) _ _, by
        show Blk _ _ _ _
        rw [f1.out]
        have := P2.out.set (y + i) (.int .u8 (x.toNat : Int))
        rw [By_set, HE.out] at this
        exact this⟩
    · obtain rfl : i = 8 := by omega
      have hs1 : ∀ W, (Instr.sliceAt 149 (.pointer (some ⟨N + 1 + 1, 0, none⟩)) none (some (.int .i64 ((y : Int) + 8))) none).run Tryd.prog W = .ok (.slice (some ⟨N + 1 + 1, 0, none⟩) (y + 8) 72) W := slice149 (N + 1 + 1) (y + 8) (by omega) (by omega)
      have HPA : Hid ((pa c z 8).take (y + 8) = padb m.length) := (show _ = _ by
        have := pa_end m.length
        rw [HZZ.out, HCC.out] at this
        rw [← this, ← HY.out]
        congr 1; omega)
      have HPL : Hid ((padb m.length).length = y + 8) := (show _ = _ by rw [padb_length, HZZ.out, ← HY.out]; omega)
      have R2 : Hid (Rd wr (.slice (some ⟨N + 1 + 1, 0, none⟩) (y + 8) 72) (padb m.length)) := (show Rd _ _ _ by
        rw [← HPA.out]
        exact rd_bytes P2.out (y + 8) 72 (by rw [pa_length c z 8 hz64 hi]; omega) (by omega) (by simp [maxLen]))
      go_wp2_with fail
      refine (take_any (.slice (some ⟨N + 1 + 1, 0, none⟩) (y + 8) 72) (padb m.length) m N mm h k HH.out (by rw [HPL.out]; omega) wr (HT.out.kept (L2.out.mono (by rw [← HN.out]; exact HT.out.size))) (by rw [HC.out]; exact S2.out) R2.out (fun _ _ _ _ e _ => by cases e; omega) (by rw [← HN.out]; exact HT.out.size)).mono ?_
      rintro e w3 ⟨rfl, hu3, h', k', hb3, hh3⟩
      have U3 : Hid (But N wr w3) := hu3
      have S3 : Hid (Blk w3 N 137 (SC mm h' k' (m ++ padb m.length).length)) := hb3
      have HH3 : Hid (Holds h' k' (m ++ padb m.length)) := hh3
      have hhl' : h'.length = 8 := by rw [hh3.words]; exact blks_length _ blk_length _
      have hkl' : k'.length = 64 := hh3.size
      have O3 : Hid (Blk w3 (N + 1) 24 (By (List.replicate 32 0))) := O2.out.but hu3 (by omega)
      have L3 : Hid (Below N w w3) := L2.out.trans (hu3.below (Nat.le_refl _) (by have := S2.out.lt; omega))
      clear hu3 hb3 hh3
      obtain ⟨M, HM⟩ : ∃ M, Hid (w3.heap.size = M) := ⟨_, rfl⟩
      have HNM : Hid (N + 1 < M) := (show _ by rw [← HM.out]; exact O3.out.lt)
      have R3 : Hid ((w3.alloc (.cells (By (List.replicate 32 0)).toArray 24 (0, 0))).rangeAt N 1 (Ws h')) := (S3.out.alloc _).range 1 (Ws h') (fun j u hj => by
        have hj' : j < h'.length := by have := (List.getElem?_eq_some_iff.1 hj).1; rwa [Ws_length] at this
        rw [SC_word j hj', ← hj, Ws_get hj'])
      go_wp2_with (first
        | (refine wpList_load_mid rfl 133 _ rfl N 1 rfl (Ws h') _ R3.out Tryd.underlying133 rfl (by simpa [Ws_length, hhl'] using Tryd.size133) ?_)
        | fail)
      obtain ⟨w4, hw4⟩ : ∃ x, x = w3.alloc (.cells (By (List.replicate 32 0)).toArray 24 (0, 0)) := ⟨_, rfl⟩
      change Code.wp _ _ _ _ (w3.alloc (.cells (By (List.replicate 32 0)).toArray 24 (0, 0)))
      rw [← hw4, HM.out]
      have O4 : Hid (Blk w4 (N + 1) 24 (By (List.replicate 32 0))) := (show Blk _ _ _ _ by rw [hw4]; exact O3.out.alloc _)
      have D4 : Hid (Blk w4 M 24 (By (dz h' 0))) := (show Blk _ _ _ _ by rw [hw4, ← HM.out]; exact Blk.new w3 24 (By (List.replicate 32 0)))
      have L4 : Hid (Below N w w4) := (show Below _ _ _ by rw [hw4]; exact L3.out.alloc (by have := HNM.out; rw [HM.out]; omega) _)
      have HD : Hid (sha m = dig h') := (show _ = _ by rw [sha, HH3.out.words])
      clear hw4 O3 L3 S3 U3 R3 HH3
      go_loopg [41] 9 (fun g x wr => Hid (Below N w wr) ∧ ∃ i : Nat, i ≤ 8 ∧ g + i = 9 ∧ x = .int .i64 i ∧ Hid (Blk wr (N + 1) 24 (By (List.replicate 32 0))) ∧ Hid (Blk wr M 24 (By (dz h' i))))
      case atStart => exact ⟨L4, 0, by omega, rfl, rfl, O4, D4⟩
      case round =>
        clear S2 O2 P2 L2 R2 O4 D4 L4
        obtain ⟨L4, i, hi, hgk, rfl, O4, D4⟩ := hrel
        have hdl := dz_length h' hhl' i hi
        by_cases hlt : i < 8
        · have q1 : (i : Int) < 8 := by omega
          have hix := index_row Tryd.underlying133 Tryd.underlying91 Tryd.size91 (Ws h') i _ hlt (Ws_get (by omega))
          have c0 := D4.out.cell (By_get (l := dz h' i) (j := 4 * i) (by omega))
          have c1 := D4.out.cell (By_get (l := dz h' i) (j := 4 * i + 1) (by omega))
          have c2 := D4.out.cell (By_get (l := dz h' i) (j := 4 * i + 2) (by omega))
          have c3 := D4.out.cell (By_get (l := dz h' i) (j := 4 * i + 3) (by omega))
          have z0 := D4.out.frozen (4 * i)
          have z1 := D4.out.frozen (4 * i + 1)
          have z2 := D4.out.frozen (4 * i + 2)
          have z3 := D4.out.frozen (4 * i + 3)
          have q4 : (4 : Int) * i + 3 < 32 := by omega
          go_wp2
          have HE : Hid _ := dz_set h' hhl' i hlt
          have g0 := u8_top (gW h' i)
          have g1 := u8_two (gW h' i)
          have g2 := u8_three (gW h' i)
          have g3 := u8_four (gW h' i)
          go_roundg (gk - 1)
          case measure => omega
          case rel =>
            rw [g0, g1, g2, g3]
            have hNM := HNM.out
            have hwr := D4.out.lt
            refine ⟨L4.out.trans (((((But.setCell M _ _ _).trans (But.setCell M _ _ _)).trans (But.setCell M _ _ _)).trans (But.setCell M _ _ _)).below (by omega) (by omega)), i + 1, by omega, by omega, by go_num, (((O4.out.set_other (by omega) _ _).set_other (by omega) _ _).set_other (by omega) _ _).set_other (by omega) _ _, ?_⟩
            show Blk _ _ _ _
            have := (((D4.out.set (4 * i) (.int .u8 ((UInt8.ofNat ((gW h' i).toNat / 2 ^ 24)).toNat : Int))).set (4 * i + 1) (.int .u8 ((UInt8.ofNat ((gW h' i).toNat / 2 ^ 16)).toNat : Int))).set (4 * i + 2) (.int .u8 ((UInt8.ofNat ((gW h' i).toNat / 2 ^ 8)).toNat : Int))).set (4 * i + 3) (.int .u8 ((UInt8.ofNat (gW h' i).toNat).toNat : Int))
            rw [By_set, By_set, By_set, By_set, HE.out] at this
            exact this
        · obtain rfl : i = 8 := by omega
          have HDZ : Hid (dz h' 8 = sha m) := (show _ = _ by rw [HD.out, dz, List.take_of_length_le (by omega)]; simp)
          have hl32 : (sha m).length = 32 := by rw [← HDZ.out]; exact dz_length h' hhl' 8 (by omega)
          have D5 : Hid (Blk wr M 24 (By (sha m))) := (show Blk _ _ _ _ by rw [← HDZ.out]; exact D4.out)
          have r0 := D5.out.range0
          have t0 := O4.out.there 0 32 (by rw [By_length]; simp)
          obtain ⟨L, HL⟩ : ∃ L, Hid (sha m = L) := ⟨_, rfl⟩
          rw [HL.out] at hl32 r0
          go_wp2_with (first
            | (refine wpList_load_mid rfl 24 _ rfl M 0 rfl _ _ r0 Tryd.underlying24 rfl (by rw [By_length, hl32]; exact Tryd.size24) ?_)
            | (refine wpList_store_mid rfl 24 _ _ rfl (N + 1) 0 _ rfl rfl (by simpa [By_length, hl32] using t0) (by simpa [By_length, hl32] using Tryd.size24) (all_one (By_one _)) ?_)
            | fail)
          have hB := Blk.over (By L) O4.out 0 (by rw [By_length, By_length, hl32]; simp)
          rw [over_all _ _ (by rw [By_length, By_length, hl32]; simp)] at hB
          refine bodyPost_ret (results_cell_row rfl _ _ (N + 1) 24 _ (0, 0) _ rfl hB Tryd.underlying24 rfl (by simpa [By_length, hl32] using Tryd.size24)) rfl ⟨by rw [HL.out], ?_⟩
          rw [HN.out]
          exact L4.out.trans ((But.setCells (N + 1) _ 0 wr).below (by omega) (by have := O4.out.lt; omega))
end Go.Proofs.YtooffljimdklfaaDoor
