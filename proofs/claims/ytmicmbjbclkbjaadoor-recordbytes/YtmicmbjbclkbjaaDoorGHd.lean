/-
  Texts that ride together: HashB Ended Sums Padded Block RefSum.
-/
import Derived.Test.YtmicmbjbclkbjaaDoorGK
import Derived.Test.YtmicmbjbclkbjaaDoorGHc
/-
  Hashes: held against each other, as slices, loaded, pairs and lists of them.
-/
namespace Go.Proofs.YtmicmbjbclkbjaaDoor
open Go.RowKit
theorem Tryd.size31 : (Tryd.prog.info? 31).map (·.size) = some 32 := by kernel_rfl
theorem eq31 (X Y : List UInt8) (hX : X.length = 32) (hY : Y.length = 32) (W : World) : (Op.equalIn 10000 31 (.agg (By X).toArray) (.agg (By Y).toArray)).run Tryd.prog W = .ok (X == Y) W :=
  run_equalIn_bytes W 9998 31 5 32 Tryd.underlying31 Tryd.underlying5 size5w X Y hX hY
/-- A hash that lies in memory, as a slice. -/
theorem slice31 (g off : Nat) (W : World) : (Instr.sliceAt 31 (.pointer (some ⟨g, off, none⟩)) none none none).run Tryd.prog W = .ok (.slice (some ⟨g, off, none⟩) 32 32) W := by
  have hsz := Tryd.size5
  cases hq : Tryd.prog.info? 5 with
  | none => simp [hq] at hsz
  | some i =>
    have hi : i.size = 1 := by simpa [hq] using hsz
    simp [Instr.sliceAt, Instr.slice, Instr.sureAddr, run_underlying Tryd.underlying31, Instr.sliceBounds, Addr.add_mid]
theorem rd_range {w : World} {b off : Nat} {l : List UInt8} (hb : b < w.heap.size) (h : w.rangeAt b off (By l)) (hl : l.length = 32) : Rd w (.slice (some ⟨b, off, none⟩) 32 32) l :=
  ⟨_, _, by rw [hl], by omega, by simp [maxLen], fun h => by simp at h, fun _ => ⟨b, off, rfl, hb, h⟩⟩
theorem rd_blk {w : World} {b : Nat} {l : List UInt8} (h : Blk w b 31 (By l)) (hl : l.length = 32) : Rd w (.slice (some ⟨b, 0, none⟩) 32 32) l := rd_range h.lt h.range0 hl
theorem part24 (cs : List Value) (off : Nat) (W : World) : (part 31 cs.toArray off).run Tryd.prog W = .ok (.agg ((cs.drop off).take 32).toArray) W := by
  unfold part
  simp [isAgg, run_underlying Tryd.underlying31]
theorem size31w : ∀ w, (sizeOf 31).run Tryd.prog w = .ok 32 w := fun w => by
  cases hq : Tryd.prog.info? 31 with
  | none => have := Tryd.size31; simp [hq] at this
  | some i =>
    have : i.size = 32 := by have := Tryd.size31; simpa [hq] using this
    simp [sizeOf, typeInfo, hq, this]
theorem eq31' (X Y : List UInt8) (hX : X.length = 32) (hY : Y.length = 32) (W : World) : (Op.equalIn 9999 31 (.agg (By X).toArray) (.agg (By Y).toArray)).run Tryd.prog W = .ok (X == Y) W :=
  run_equalIn_bytes W 9997 31 5 32 Tryd.underlying31 Tryd.underlying5 size5w X Y hX hY
theorem append_beq (x y p q : List UInt8) (h : x.length = p.length) : (x ++ y == p ++ q) = (x == p && y == q) := by
  rw [Bool.eq_iff_iff]
  simp only [beq_iff_eq, Bool.and_eq_true]
  exact ⟨fun e => List.append_inj e h, fun ⟨e, f⟩ => by rw [e, f]⟩
theorem eq30 (X Y : List UInt8) (hX : X.length = 32) (hY : Y.length = 32) (W : World) : (Op.equalIn 10000 30 (.agg (By X).toArray) (.agg (By Y).toArray)).run Tryd.prog W = .ok (X == Y) W :=
  run_equalIn_bytes W 9998 30 5 32 Tryd.underlying30 Tryd.underlying5 size5w X Y hX hY
/-- Two hashes in boxes, and room for the result. -/
theorem boxes {w w1 : World} {N : Nat} {x y : List UInt8} (HN : Hid (w.heap.size = N)) (hw1 : w1 = ((w.alloc (.cells (By x).toArray 31 (0, 0))).alloc (.cells (By y).toArray 31 (0, 0))).alloc (.cells (By (List.replicate 32 0)).toArray 31 (0, 0))) :
    Blk w1 N 31 (By x) ∧ Blk w1 (N + 1) 31 (By y) ∧ Blk w1 (N + 2) 31 (By (List.replicate 32 0)) ∧ Below N w w1 := by
  subst hw1
  have h1 := Blk.new w 31 (By x)
  have h2 := Blk.new (w.alloc (.cells (By x).toArray 31 (0, 0))) 31 (By y)
  have h3 := Blk.new ((w.alloc (.cells (By x).toArray 31 (0, 0))).alloc (.cells (By y).toArray 31 (0, 0))) 31 (By (List.replicate 32 0))
  rw [show (w.alloc (.cells (By x).toArray 31 (0, 0))).heap.size = N + 1 by simp [HN.out]] at h2
  rw [show ((w.alloc (.cells (By x).toArray 31 (0, 0))).alloc (.cells (By y).toArray 31 (0, 0))).heap.size = N + 2 by simp [HN.out]] at h3
  rw [HN.out] at h1
  exact ⟨(h1.alloc _).alloc _, h2.alloc _, h3, (((Below.refl _ _).alloc (by rw [HN.out]; exact Nat.le_refl _) _).alloc (by simp [HN.out]) _).alloc (by simp [HN.out]; omega) _⟩
/-- The slice value v reads as the hashes Hs. -/
def RdH (w : World) (v : Value) (Hs : List (List UInt8)) : Prop :=
  ∃ b cap, v = .slice (some ⟨b, 0, none⟩) Hs.length cap ∧ b < w.heap.size ∧ Hs.length ≤ cap ∧ ∀ j (_ : j < Hs.length), w.rangeAt b (32 * j) (By Hs[j])
theorem RdH.kept (Hs : List (List UInt8)) : ∀ (w w' : World) (v : Value), Gr w w' → RdH w v Hs → RdH w' v Hs := by
  rintro w w' v hg ⟨b, cap, rfl, hb, hc, h⟩
  refine ⟨b, cap, rfl, Nat.lt_of_lt_of_le hb hg.size, hc, fun j hj i u hu => ?_⟩
  exact (Below.cell hg (p := ⟨b, 32 * j + i, none⟩) hb).trans (h j hj i u hu)
/-- A new list of rows, whole. -/
def RdF (w : World) (v : Value) (L : List (List UInt8)) : Prop := RdR w v L ∧ ∃ b, v = .slice (some ⟨b, 0, none⟩) L.length L.length
theorem RdF.kept (L : List (List UInt8)) : ∀ (w w' : World) (v : Value), Gr w w' → RdF w v L → RdF w' v L := fun _ _ _ hg h => ⟨RdR.kept h.1 hg, h.2⟩
theorem Tryd.info24 : (Tryd.prog.info? 31).map (fun i => (i.zero.isSome, i.size)) = some (true, 32) := by kernel_rfl
end Go.Proofs.YtmicmbjbclkbjaaDoor

/-
  sha.ended: what the call does.
-/
namespace Go.Proofs.YtmicmbjbclkbjaaDoor
open Go.RowKit
theorem zero122 (W : World) : (zeroValue 122).run Tryd.prog W = .ok (.agg (By (List.replicate 72 0)).toArray) W := by kernel_rfl
theorem Tryd.size98 : (Tryd.prog.info? 98).map (·.size) = some 1 := by kernel_rfl
theorem be8_length (n : Nat) : (be8 n).length = 8 := by simp [be8]
theorem be8_get (n i : Nat) (hi : i < 8) : (be8 n)[i]? = some (UInt8.ofNat (n / 2 ^ (8 * (7 - i)))) := by simp [be8, hi]
theorem padb_length (n : Nat) : (padb n).length = (119 - n % 64) % 64 + 9 := by simp [padb, be8_length]
/-- The bytes behind a message, so far; c: bits, z: noughts ahead of their count. -/
def pa (c z i : Nat) : List UInt8 := 0x80 :: (List.replicate z 0 ++ (be8 c).take i) ++ List.replicate (71 - z - i) 0
theorem pa_length (c z i : Nat) (hz : z < 64) (hi : i ≤ 8) : (pa c z i).length = 72 := by simp [pa, be8_length]; omega
theorem pa_set (c z i : Nat) (hz : z < 64) (hi : i < 8) : (pa c z i).set (1 + z + i) (UInt8.ofNat (c / 2 ^ (8 * (7 - i)))) = pa c z (i + 1) := by
  unfold pa
  have hl : (0x80 :: (List.replicate z 0 ++ (be8 c).take i) : List UInt8).length = 1 + z + i := by simp [be8_length]; omega
  rw [List.set_append_right _ _ (by omega), hl, Nat.sub_self]
  obtain ⟨q, hq⟩ : ∃ q, 71 - z - i = q + 1 := ⟨70 - z - i, by omega⟩
  rw [hq, List.replicate_succ, List.set_cons_zero, show 71 - z - (i + 1) = q by omega, List.take_add_one, be8_get c i hi]
  simp
theorem pa_end (n : Nat) : (pa (8 * n) ((119 - n % 64) % 64) 8).take ((119 - n % 64) % 64 + 9) = padb n := by
  unfold pa padb
  rw [List.take_of_length_le (l := be8 _) (by rw [be8_length]; omega)]
  rw [List.take_append_of_le_length (by simp [be8_length]), List.take_of_length_le (by simp [be8_length])]
theorem slice122 (g r : Nat) (h0 : 0 < r) (hr : r ≤ 72) (W : World) : (Instr.sliceAt 122 (.pointer (some ⟨g, 0, none⟩)) none (some (.int .i64 (r : Int))) none).run Tryd.prog W = .ok (.slice (some ⟨g, 0, none⟩) r 72) W := by
  have h9 : (r : Int) ≤ 72 := by omega
  simp [Instr.sliceAt, Instr.sureAddr, run_underlying Tryd.underlying122, Instr.sliceBounds, run_sliceBound, h9, Addr.add_lit]
/-- An element of an array that is a value. -/
theorem index_row {P : Program} {t e : TypeId} {n : Nat} {k : IntKind} (hu : P.underlying t = some (.array n e)) (he : P.underlying e = some (.int k)) (hsz : (P.info? e).map (·.size) = some 1)
    (cs : List Value) (i : Nat) (v : Value) (hi : i < n) (hv : cs[i]? = some v) (W : World) : (Instr.index t (.agg cs.toArray) (.int .i64 (i : Int))).run P W = .ok v W := by
  cases hq : P.info? e with
  | none => simp [hq] at hsz
  | some j =>
    have hj : j.size = 1 := by simpa [hq] using hsz
    simp [Instr.index, asIntOf, run_underlying hu, run_underlying he, part, isAgg, sizeOf, typeInfo, hq, hj, hv]
    omega
theorem u8_top (x : W) : (x.toNat : Int) / 16777216 = ((UInt8.ofNat (x.toNat / 2 ^ 24)).toNat : Int) := by
  have := x.isLt
  rw [UInt8.toNat_ofNat']
  omega
theorem u8_two (x : W) : (x.toNat : Int) / 65536 % 256 = ((UInt8.ofNat (x.toNat / 2 ^ 16)).toNat : Int) := by
  rw [UInt8.toNat_ofNat']
  omega
theorem u8_three (x : W) : (x.toNat : Int) / 256 % 256 = ((UInt8.ofNat (x.toNat / 2 ^ 8)).toNat : Int) := by
  rw [UInt8.toNat_ofNat']
  omega
theorem u8_four (x : W) : (x.toNat : Int) % 256 = ((UInt8.ofNat x.toNat).toNat : Int) := by
  rw [UInt8.toNat_ofNat']
  omega
/-- The digest so far. -/
def dz (h : List W) (i : Nat) : List UInt8 := dig (h.take i) ++ List.replicate (32 - 4 * i) 0
theorem dig_length (h : List W) : (dig h).length = 4 * h.length := by
  induction h with
  | nil => rfl
  | cons x t ih => simp only [dig, List.map_cons, List.flatten_cons, List.length_append] at *; rw [ih]; simp [by4]; omega
theorem dz_length (h : List W) (hh : h.length = 8) (i : Nat) (hi : i ≤ 8) : (dz h i).length = 32 := by simp [dz, dig_length, hh]; omega
theorem dz_set (h : List W) (hh : h.length = 8) (i : Nat) (hi : i < 8) :
    ((((dz h i).set (4 * i) (UInt8.ofNat ((gW h i).toNat / 2 ^ 24))).set (4 * i + 1) (UInt8.ofNat ((gW h i).toNat / 2 ^ 16))).set (4 * i + 2) (UInt8.ofNat ((gW h i).toNat / 2 ^ 8))).set (4 * i + 3) (UInt8.ofNat (gW h i).toNat) = dz h (i + 1) := by
  have hl : (dig (h.take i)).length = 4 * i := by rw [dig_length, List.length_take, hh]; omega
  obtain ⟨q, hq⟩ : ∃ q, 32 - 4 * i = q + 4 := ⟨28 - 4 * i, by omega⟩
  unfold dz
  rw [hq, show 32 - 4 * (i + 1) = q by omega, List.set_append_right _ _ (by omega), List.set_append_right _ _ (by omega), List.set_append_right _ _ (by omega), List.set_append_right _ _ (by omega), hl, Nat.sub_self,
    Nat.add_sub_cancel_left, Nat.add_sub_cancel_left, Nat.add_sub_cancel_left, List.take_add_one]
  have hx : h[i]? = some (gW h i) := by simp [gW, List.getD, hh, hi]
  rw [hx]
  simp [dig, by4, List.replicate_succ]
/-- The first n of a block of bytes. -/
theorem rd_bytes {w : World} {b : Nat} {T : TypeId} {l : List UInt8} (hB : Blk w b T (By l)) (n cap : Nat) (hn : n ≤ l.length) (hc : n ≤ cap) (hm : cap ≤ maxLen) : Rd w (.slice (some ⟨b, 0, none⟩) n cap) (l.take n) := by
  have hl : (l.take n).length = n := by simp; omega
  refine ⟨_, cap, by rw [hl], by omega, hm, fun h => by simp at h, fun _ => ⟨b, 0, rfl, hB.lt, fun j u hj => ?_⟩⟩
  rw [Nat.zero_add]
  refine hB.cell ?_
  have hj' : j < n := by have := (List.getElem?_eq_some_iff.1 hj).1; rw [By_length, hl] at this; exact this
  rw [← hj, By, By, List.map_take, List.getElem?_take_of_lt hj']

set_option maxHeartbeats 1000000 in
set_option maxRecDepth 100000 in
theorem ended_any (m : List UInt8) (mm : Bool) (h : List W) (k : List UInt8) (hH : Holds h k m) (hn : m.length ≤ 2199023255552) (w : World) (hT : Tabs w) :
    Calls Tryd.prog 86 #[.agg (ShC mm h k m.length).toArray] w fun e w' => e = .returned (.agg (By (sha m)).toArray) ∧ Below w.heap.size w w' := by
  have HT : Hid (Tabs w) := hT
  have HH : Hid (Holds h k m) := hH
  have hhl : h.length = 8 := by rw [hH.words]; exact blks_length _ blk_length _
  have hkl : k.length = 64 := hH.size
  clear hT hH
  obtain ⟨C, HC⟩ : ∃ C, Hid (ShC mm h k m.length = C) := ⟨_, rfl⟩
  rw [HC.out]
  obtain ⟨N, HN⟩ : ∃ N, Hid (w.heap.size = N) := ⟨_, rfl⟩
  obtain ⟨Z, HZ⟩ : ∃ Z, Hid (By (List.replicate 72 0) = Z) := ⟨_, rfl⟩
  have hz := zero122
  rw [HZ.out] at hz
  go_enter Tryd.func86, Tryd.ntmps86
  go_upto_region 2 with fail
  obtain ⟨w1, hw1⟩ : ∃ x, x = ((w.alloc (.cells C.toArray 113 (0, 0))).alloc (.cells (By (List.replicate 32 0)).toArray 31 (0, 0))).alloc (.cells Z.toArray 122 (0, 0)) := ⟨_, rfl⟩
  have S1 : Hid (Blk w1 N 113 C) := (show Blk _ _ _ _ by rw [hw1, ← HN.out]; exact ((Blk.new w 113 C).alloc _).alloc _)
  have O1 : Hid (Blk w1 (N + 1) 31 (By (List.replicate 32 0))) := (show Blk _ _ _ _ by
    have := (Blk.new (w.alloc (.cells C.toArray 113 (0, 0))) 31 (By (List.replicate 32 0))).alloc (.cells Z.toArray 122 (0, 0))
    rw [show (w.alloc (.cells C.toArray 113 (0, 0))).heap.size = N + 1 by simp [HN.out]] at this
    rw [hw1]; exact this)
  have P1 : Hid (Blk w1 (N + 2) 122 Z) := (show Blk _ _ _ _ by
    have := Blk.new ((w.alloc (.cells C.toArray 113 (0, 0))).alloc (.cells (By (List.replicate 32 0)).toArray 31 (0, 0))) 122 Z
    rw [show ((w.alloc (.cells C.toArray 113 (0, 0))).alloc (.cells (By (List.replicate 32 0)).toArray 31 (0, 0))).heap.size = N + 2 by simp [HN.out]] at this
    rw [hw1]; exact this)
  have L1 : Hid (Below N w w1) := (show Below _ _ _ by
    rw [hw1]; exact ((Below.refl _ _).alloc (by rw [HN.out]; omega) _).alloc (by simp [HN.out]) _ |>.alloc (by simp [HN.out]; omega) _)
  change Code.wp _ _ _ _ (((w.alloc (.cells C.toArray 113 (0, 0))).alloc (.cells (By (List.replicate 32 0)).toArray 31 (0, 0))).alloc (.cells Z.toArray 122 (0, 0)))
  rw [← hw1, HN.out]
  have c0 := P1.out.cell (j := 0) (v := .int .u8 0) (by rw [← HZ.out]; rfl)
  have z0 := P1.out.frozen 0
  have c73 := S1.out.cell (j := 73) (v := .int .u64 (m.length : Int)) (by rw [← HC.out]; exact SC_len hhl hkl)
  have c73' : (w1.setCell ⟨N + 2, 0, none⟩ (.int .u8 128)).cell? ⟨N, 73, none⟩ = some (.int .u64 (m.length : Int)) := (S1.out.set_other (by omega) _ _).cell (j := 73) (v := .int .u64 (m.length : Int)) (by rw [← HC.out]; exact SC_len hhl hkl)
  clear hw1
  obtain ⟨z, HZZ⟩ : ∃ z, Hid ((119 - m.length % 64) % 64 = z) := ⟨_, rfl⟩
  have hz64 : z < 64 := by have := HZZ.out; omega
  obtain ⟨c, HCC⟩ : ∃ c, Hid (8 * m.length = c) := ⟨_, rfl⟩
  have hc64 : c < 18446744073709551616 := by have := HCC.out; omega
  go_wp2
  rw [show (1 + (119 - (m.length : Int)) % 64) = ((1 + z : Nat) : Int) by have := HZZ.out; omega, show ((m.length : Int) * 8) = (c : Int) by have := HCC.out; omega]
  obtain ⟨y, HY⟩ : ∃ y, Hid (1 + z = y) := ⟨_, rfl⟩
  have hy : y ≤ 64 := by have := HY.out; omega
  rw [HY.out]
  obtain ⟨w2, hw2⟩ : ∃ x, x = w1.setCell ⟨N + 1 + 1, 0, none⟩ (.int .u8 128) := ⟨_, rfl⟩
  rw [← hw2]
  have S2 : Hid (Blk w2 N 113 C) := (show Blk _ _ _ _ by rw [hw2]; exact S1.out.set_other (by omega) _ _)
  have O2 : Hid (Blk w2 (N + 1) 31 (By (List.replicate 32 0))) := (show Blk _ _ _ _ by rw [hw2]; exact O1.out.set_other (by omega) _ _)
  have P2 : Hid (Blk w2 (N + 1 + 1) 122 (By (pa c z 0))) := (show Blk _ _ _ _ by
    rw [hw2]
    have := P1.out.set 0 (.int .u8 128)
    rw [← HZ.out, show (Value.int .u8 128) = .int .u8 (((128 : UInt8).toNat : Nat) : Int) from rfl, By_set] at this
    have e : (List.replicate 72 (0 : UInt8)).set 0 128 = pa c z 0 := by
      unfold pa
      rw [show (72 : Nat) = 71 + 1 from rfl, List.replicate_succ, List.set_cons_zero, List.take_zero, List.append_nil, List.cons_append, List.replicate_append_replicate, show z + (71 - z - 0) = 71 by omega]
    rw [e] at this
    exact this)
  have L2 : Hid (Below N w w2) := (show Below _ _ _ by rw [hw2]; exact L1.out.trans ((But.setCell _ _ _ _).below (by omega) (by have := S1.out.lt; omega)))
  clear hw2 c0 z0 c73 c73' S1 O1 P1 L1
  go_loopg [21] 9 (fun g x wr => Hid (Below N w wr) ∧ ∃ i : Nat, i ≤ 8 ∧ g + i = 9 ∧ x = .int .i64 i ∧ Hid (Blk wr N 113 C) ∧ Hid (Blk wr (N + 1) 31 (By (List.replicate 32 0))) ∧ Hid (Blk wr (N + 1 + 1) 122 (By (pa c z i))))
  case atStart => exact ⟨L2, 0, by omega, rfl, rfl, S2, O2, P2⟩
  case round =>
    clear S2 O2 P2 L2
    obtain ⟨L2, i, hi, hgk, rfl, S2, O2, P2⟩ := hrel
    by_cases hlt : i < 8
    · have c1 := P2.out.cell (By_get (l := pa c z i) (j := y + i) (by rw [pa_length c z i hz64 hi]; have := HY.out; omega))
      have z1 := P2.out.frozen (y + i)
      have q1 : (i : Int) < 8 := by omega
      have q2 : (y : Int) + (i : Int) < 72 := by omega
      have f1 : Hid ((c : Int) / (2 : Int) ^ (8 * (7 - i)) % 256 = ((UInt8.ofNat (c / 2 ^ (8 * (7 - i)))).toNat : Int)) := u8_shr c _
      have HE : Hid ((pa c z i).set (y + i) (UInt8.ofNat (c / 2 ^ (8 * (7 - i)))) = pa c z (i + 1)) := (show _ = _ by rw [← HY.out]; exact pa_set c z i hz64 hlt)
      generalize UInt8.ofNat (c / 2 ^ (8 * (7 - i))) = x at *
      generalize (pa c z i)[y + i]'_ = old at *
      go_wp2
      go_roundg (gk - 1)
      case measure => omega
      case rel => exact ⟨L2.out.trans ((But.setCell _ _ _ _).below (by omega) (by have := S2.out.lt; omega)), i + 1, by omega, by omega, by go_num, S2.out.set_other (by omega) _ _, O2.out.set_other (by omega) _ _, by
        show Blk _ _ _ _
        rw [f1.out]
        have := P2.out.set (y + i) (.int .u8 (x.toNat : Int))
        rw [By_set, HE.out] at this
        exact this⟩
    · obtain rfl : i = 8 := by omega
      have hs1 : ∀ W, (Instr.sliceAt 122 (.pointer (some ⟨N + 1 + 1, 0, none⟩)) none (some (.int .i64 ((y : Int) + 8))) none).run Tryd.prog W = .ok (.slice (some ⟨N + 1 + 1, 0, none⟩) (y + 8) 72) W := slice122 (N + 1 + 1) (y + 8) (by omega) (by omega)
      have HPA : Hid ((pa c z 8).take (y + 8) = padb m.length) := (show _ = _ by
        have := pa_end m.length
        rw [HZZ.out, HCC.out] at this
        rw [← this, ← HY.out]
        congr 1; omega)
      have HPL : Hid ((padb m.length).length = y + 8) := (show _ = _ by rw [padb_length, HZZ.out, ← HY.out]; omega)
      have R2 : Hid (Rd wr (.slice (some ⟨N + 1 + 1, 0, none⟩) (y + 8) 72) (padb m.length)) := (show Rd _ _ _ by
        rw [← HPA.out]
        exact rd_bytes P2.out (y + 8) 72 (by rw [pa_length c z 8 hz64 hi]; omega) (by omega) (by simp [maxLen]))
      go_wp2_with fail
      refine (take_any (.slice (some ⟨N + 1 + 1, 0, none⟩) (y + 8) 72) (padb m.length) m N mm h k HH.out (by rw [HPL.out]; omega) wr (HT.out.kept (L2.out.mono (by rw [← HN.out]; exact HT.out.size))) (by rw [HC.out]; exact S2.out) R2.out (fun _ _ _ _ e _ => by cases e; omega) (by rw [← HN.out]; exact HT.out.size)).mono ?_
      rintro e w3 ⟨rfl, hu3, h', k', hb3, hh3⟩
      have U3 : Hid (But N wr w3) := hu3
      have S3 : Hid (Blk w3 N 113 (ShC mm h' k' (m ++ padb m.length).length)) := hb3
      have HH3 : Hid (Holds h' k' (m ++ padb m.length)) := hh3
      have hhl' : h'.length = 8 := by rw [hh3.words]; exact blks_length _ blk_length _
      have hkl' : k'.length = 64 := hh3.size
      have O3 : Hid (Blk w3 (N + 1) 31 (By (List.replicate 32 0))) := O2.out.but hu3 (by omega)
      have L3 : Hid (Below N w w3) := L2.out.trans (hu3.below (Nat.le_refl _) (by have := S2.out.lt; omega))
      clear hu3 hb3 hh3
      obtain ⟨M, HM⟩ : ∃ M, Hid (w3.heap.size = M) := ⟨_, rfl⟩
      have HNM : Hid (N + 1 < M) := (show _ by rw [← HM.out]; exact O3.out.lt)
      have R3 : Hid ((w3.alloc (.cells (By (List.replicate 32 0)).toArray 31 (0, 0))).rangeAt N 1 (Ws h')) := (S3.out.alloc _).range 1 (Ws h') (fun j u hj => by
        have hj' : j < h'.length := by have := (List.getElem?_eq_some_iff.1 hj).1; rwa [Ws_length] at this
        rw [SC_word j hj', ← hj, Ws_get hj'])
      go_wp2_with (first
        | (refine wpList_load_mid rfl 110 _ rfl N 1 rfl (Ws h') _ R3.out Tryd.underlying110 rfl (by simpa [Ws_length, hhl'] using Tryd.size110) ?_)
        | fail)
      obtain ⟨w4, hw4⟩ : ∃ x, x = w3.alloc (.cells (By (List.replicate 32 0)).toArray 31 (0, 0)) := ⟨_, rfl⟩
      change Code.wp _ _ _ _ (w3.alloc (.cells (By (List.replicate 32 0)).toArray 31 (0, 0)))
      rw [← hw4, HM.out]
      have O4 : Hid (Blk w4 (N + 1) 31 (By (List.replicate 32 0))) := (show Blk _ _ _ _ by rw [hw4]; exact O3.out.alloc _)
      have D4 : Hid (Blk w4 M 31 (By (dz h' 0))) := (show Blk _ _ _ _ by rw [hw4, ← HM.out]; exact Blk.new w3 31 (By (List.replicate 32 0)))
      have L4 : Hid (Below N w w4) := (show Below _ _ _ by rw [hw4]; exact L3.out.alloc (by have := HNM.out; rw [HM.out]; omega) _)
      have HD : Hid (sha m = dig h') := (show _ = _ by rw [sha, HH3.out.words])
      clear hw4 O3 L3 S3 U3 R3 HH3
      go_loopg [41] 9 (fun g x wr => Hid (Below N w wr) ∧ ∃ i : Nat, i ≤ 8 ∧ g + i = 9 ∧ x = .int .i64 i ∧ Hid (Blk wr (N + 1) 31 (By (List.replicate 32 0))) ∧ Hid (Blk wr M 31 (By (dz h' i))))
      case atStart => exact ⟨L4, 0, by omega, rfl, rfl, O4, D4⟩
      case round =>
        clear S2 O2 P2 L2 R2 O4 D4 L4
        obtain ⟨L4, i, hi, hgk, rfl, O4, D4⟩ := hrel
        have hdl := dz_length h' hhl' i hi
        by_cases hlt : i < 8
        · have q1 : (i : Int) < 8 := by omega
          have hix := index_row Tryd.underlying110 Tryd.underlying98 Tryd.size98 (Ws h') i _ hlt (Ws_get (by omega))
          have c0 := D4.out.cell (By_get (l := dz h' i) (j := 4 * i) (by omega))
          have c1 := D4.out.cell (By_get (l := dz h' i) (j := 4 * i + 1) (by omega))
          have c2 := D4.out.cell (By_get (l := dz h' i) (j := 4 * i + 2) (by omega))
          have c3 := D4.out.cell (By_get (l := dz h' i) (j := 4 * i + 3) (by omega))
          have z0 := D4.out.frozen (4 * i)
          have z1 := D4.out.frozen (4 * i + 1)
          have z2 := D4.out.frozen (4 * i + 2)
          have z3 := D4.out.frozen (4 * i + 3)
          have q4 : (4 : Int) * i + 3 < 32 := by omega
          go_wp2
          have HE : Hid _ := dz_set h' hhl' i hlt
          have g0 := u8_top (gW h' i)
          have g1 := u8_two (gW h' i)
          have g2 := u8_three (gW h' i)
          have g3 := u8_four (gW h' i)
          go_roundg (gk - 1)
          case measure => omega
          case rel =>
            rw [g0, g1, g2, g3]
            have hNM := HNM.out
            have hwr := D4.out.lt
            refine ⟨L4.out.trans (((((But.setCell M _ _ _).trans (But.setCell M _ _ _)).trans (But.setCell M _ _ _)).trans (But.setCell M _ _ _)).below (by omega) (by omega)), i + 1, by omega, by omega, by go_num, (((O4.out.set_other (by omega) _ _).set_other (by omega) _ _).set_other (by omega) _ _).set_other (by omega) _ _, ?_⟩
            show Blk _ _ _ _
            have := (((D4.out.set (4 * i) (.int .u8 ((UInt8.ofNat ((gW h' i).toNat / 2 ^ 24)).toNat : Int))).set (4 * i + 1) (.int .u8 ((UInt8.ofNat ((gW h' i).toNat / 2 ^ 16)).toNat : Int))).set (4 * i + 2) (.int .u8 ((UInt8.ofNat ((gW h' i).toNat / 2 ^ 8)).toNat : Int))).set (4 * i + 3) (.int .u8 ((UInt8.ofNat (gW h' i).toNat).toNat : Int))
            rw [By_set, By_set, By_set, By_set, HE.out] at this
            exact this
        · obtain rfl : i = 8 := by omega
          have HDZ : Hid (dz h' 8 = sha m) := (show _ = _ by rw [HD.out, dz, List.take_of_length_le (by omega)]; simp)
          have hl32 : (sha m).length = 32 := by rw [← HDZ.out]; exact dz_length h' hhl' 8 (by omega)
          have D5 : Hid (Blk wr M 31 (By (sha m))) := (show Blk _ _ _ _ by rw [← HDZ.out]; exact D4.out)
          have r0 := D5.out.range0
          have t0 := O4.out.there 0 32 (by rw [By_length]; simp)
          obtain ⟨L, HL⟩ : ∃ L, Hid (sha m = L) := ⟨_, rfl⟩
          rw [HL.out] at hl32 r0
          go_wp2_with (first
            | (refine wpList_load_mid rfl 31 _ rfl M 0 rfl _ _ r0 Tryd.underlying31 rfl (by rw [By_length, hl32]; exact Tryd.size31) ?_)
            | (refine wpList_store_mid rfl 31 _ _ rfl (N + 1) 0 _ rfl rfl (by simpa [By_length, hl32] using t0) (by simpa [By_length, hl32] using Tryd.size31) (all_one (By_one _)) ?_)
            | fail)
          have hB := Blk.over (By L) O4.out 0 (by rw [By_length, By_length, hl32]; simp)
          rw [over_all _ _ (by rw [By_length, By_length, hl32]; simp)] at hB
          refine bodyPost_ret (results_cell_row rfl _ _ (N + 1) 31 _ (0, 0) _ rfl hB Tryd.underlying31 rfl (by simpa [By_length, hl32] using Tryd.size31)) rfl ⟨by rw [HL.out], ?_⟩
          rw [HN.out]
          exact L4.out.trans ((But.setCells (N + 1) _ 0 wr).below (by omega) (by have := O4.out.lt; omega))
end Go.Proofs.YtmicmbjbclkbjaaDoor

/-
  sha.Sum, sha.New, (*sha.State).isMade: what the calls do.
-/
namespace Go.Proofs.YtmicmbjbclkbjaaDoor
open Go.RowKit

/-- Block b is a State to which the bytes m were written. -/
def Stt (w : World) (b : Nat) (m : List UInt8) : Prop := ∃ h k, Blk w b 113 (ShC true h k m.length) ∧ Holds h k m
theorem Stt.but {w w' : World} {b c : Nat} {m : List UInt8} (h : Stt w b m) (hb : But c w w') (hc : b ≠ c) : Stt w' b m := by
  obtain ⟨x, k, h1, h2⟩ := h
  exact ⟨x, k, h1.but hb hc, h2⟩
theorem Stt.kept {w w' : World} {b : Nat} {m : List UInt8} (h : Stt w b m) (hb : Below w.heap.size w w') : Stt w' b m := by
  obtain ⟨x, k, h1, h2⟩ := h
  exact ⟨x, k, h1.kept hb, h2⟩
theorem Stt.lt {w : World} {b : Nat} {m : List UInt8} (h : Stt w b m) : b < w.heap.size := by
  obtain ⟨x, k, h1, h2⟩ := h
  exact h1.lt
theorem dig_words (h : List W) (hh : h.length = 8) : (dig h).length = 32 := by rw [dig_length, hh]
theorem sha_length (m : List UInt8) : (sha m).length = 32 := dig_words _ (blks_length _ blk_length _)

set_option maxHeartbeats 1000000 in
set_option maxRecDepth 100000 in
theorem sum_any (v : Value) (l : List UInt8) (hn : l.length ≤ 1099511627776) (w : World) (hT : Tabs w) (hr : Rd w v l) :
    Calls Tryd.prog 68 #[v] w fun e w' => e = .returned (.agg (By (sha l)).toArray) ∧ Below w.heap.size w w' := by
  have HT : Hid (Tabs w) := hT
  have HR : Hid (Rd w v l) := hr
  clear hT hr
  obtain ⟨N, HN⟩ : ∃ N, Hid (w.heap.size = N) := ⟨_, rfl⟩
  have HNT : Hid (2 ≤ N) := (show _ by rw [← HN.out]; exact HT.out.size)
  go_enter Tryd.func68, Tryd.ntmps68
  go_wp2_with fail
  rw [HN.out]
  obtain ⟨w0, hw0⟩ : ∃ x, x = w.alloc (.cells (By (List.replicate 32 0)).toArray 31 (0, 0)) := ⟨_, rfl⟩
  change Calls _ _ _ (w.alloc (.cells (By (List.replicate 32 0)).toArray 31 (0, 0))) _
  rw [← hw0]
  have O0 : Hid (Blk w0 N 31 (By (List.replicate 32 0))) := (show Blk _ _ _ _ by rw [hw0, ← HN.out]; exact Blk.new w 31 (By (List.replicate 32 0)))
  have L0 : Hid (Below N w w0) := (show Below _ _ _ by rw [hw0]; exact (Below.refl _ _).alloc (by rw [HN.out]; exact Nat.le_refl _) _)
  have T0 : Hid (Tabs w0) := HT.out.kept (L0.out.mono HNT.out)
  clear hw0
  refine (newState_any w0 T0.out).mono ?_
  rintro e w1 ⟨rfl, hw1⟩
  have O1 : Hid (Blk w1 N 31 (By (List.replicate 32 0))) := O0.out.kept hw1
  have L1 : Hid (Below N w w1) := L0.out.trans (hw1.mono (Nat.le_of_lt O0.out.lt))
  clear hw1 L0 T0
  obtain ⟨M, HM⟩ : ∃ M, Hid (w1.heap.size = M) := ⟨_, rfl⟩
  have HNM : Hid (N < M) := (show _ by rw [← HM.out]; exact O1.out.lt)
  obtain ⟨C, HC⟩ : ∃ C, Hid (S0c = C) := ⟨_, rfl⟩
  rw [HC.out]
  have hcl : C.length = 74 := by rw [← HC.out]; rfl
  have HC1 : Hid (∀ u ∈ C, u.oneCell' = true) := (show ∀ u ∈ C, _ by rw [← HC.out]; exact ShC_one _ _ _ _)
  have hz := zero113
  obtain ⟨Z, HZ⟩ : ∃ Z, Hid (Z113 = Z) := ⟨_, rfl⟩
  rw [HZ.out] at hz
  have hzl : Z.length = 74 := by rw [← HZ.out]; rfl
  go_wp2_with (first
    | (refine wpList_store_new rfl 113 _ _ rfl w1 _ _ _ rfl rfl rfl (by simpa [hcl] using Tryd.size113) (by simp [hzl, hcl]) (all_one HC1.out) ?_)
    | fail)
  rw [HM.out]
  obtain ⟨w2, hw2⟩ : ∃ x, x = w1.alloc (.cells C.toArray 113 (0, 0)) := ⟨_, rfl⟩
  rw [← hw2]
  have S2 : Hid (Blk w2 M 113 (ShC true H0 (List.replicate 64 0) ([] : List UInt8).length)) := (show Blk _ _ _ _ by
    rw [hw2, ← HM.out]
    have := Blk.new w1 113 C
    rw [← HC.out] at this ⊢
    exact this)
  have O2 : Hid (Blk w2 N 31 (By (List.replicate 32 0))) := (show Blk _ _ _ _ by rw [hw2]; exact O1.out.alloc _)
  have L2 : Hid (Below N w w2) := (show Below _ _ _ by rw [hw2]; exact L1.out.alloc (by have := HNM.out; rw [HM.out]; omega) _)
  have hNM := HNM.out
  have R2 : Hid (Rd w2 v l) := HR.out.kept (by rw [HN.out]; exact L2.out)
  clear hw2
  refine (take_any v l [] M true H0 (List.replicate 64 0) holds_nil (by simp; omega) w2 (HT.out.kept (L2.out.mono HNT.out)) S2.out R2.out (rd_off HR.out (by rw [HN.out]; omega)) (by have := HNT.out; omega)).mono ?_
  rintro e w3 ⟨rfl, hu3, h', k', hb3, hh3⟩
  rw [List.nil_append] at hb3 hh3
  have S3 : Hid (Blk w3 M 113 (ShC true h' k' l.length)) := hb3
  have HH3 : Hid (Holds h' k' l) := hh3
  have O3 : Hid (Blk w3 N 31 (By (List.replicate 32 0))) := O2.out.but hu3 (by omega)
  have L3 : Hid (Below N w w3) := L2.out.trans (hu3.below (by omega) (by have := O2.out.lt; omega))
  have hhl' : h'.length = 8 := by rw [hh3.words]; exact blks_length _ blk_length _
  have hkl' : k'.length = 64 := hh3.size
  clear hu3 hb3 hh3 S2 O2 L2 R2
  have r3 := S3.out.range0
  obtain ⟨D, HD⟩ : ∃ D, Hid (ShC true h' k' l.length = D) := ⟨_, rfl⟩
  rw [HD.out] at r3
  have hdl : D.length = 74 := by rw [← HD.out]; exact SC_length hhl' hkl'
  go_wp2_with (first
    | (refine wpList_load_mid rfl 113 _ rfl M 0 rfl D _ r3 Tryd.underlying113 rfl (by rw [hdl]; exact Tryd.size113) ?_)
    | fail)
  rw [← HD.out]
  refine (ended_any l true h' k' HH3.out (by omega) w3 (HT.out.kept (L3.out.mono HNT.out))).mono ?_
  rintro e w4 ⟨rfl, hw4⟩
  have O4 : Hid (Blk w4 N 31 (By (List.replicate 32 0))) := O3.out.kept hw4
  have L4 : Hid (Below N w w4) := L3.out.trans (hw4.mono (by have := O3.out.lt; omega))
  clear hw4
  have hl32 := sha_length l
  have t0 := O4.out.there 0 32 (by rw [By_length]; simp)
  obtain ⟨L, HL⟩ : ∃ L, Hid (sha l = L) := ⟨_, rfl⟩
  rw [HL.out] at hl32 ⊢
  go_wp2_with (first
    | (refine wpList_store_mid rfl 31 _ _ rfl N 0 _ rfl rfl (by simpa [By_length, hl32] using t0) (by simpa [By_length, hl32] using Tryd.size31) (all_one (By_one _)) ?_)
    | fail)
  have hB := Blk.over (By L) O4.out 0 (by rw [By_length, By_length, hl32]; simp)
  rw [over_all _ _ (by rw [By_length, By_length, hl32]; simp)] at hB
  refine bodyPost_ret (results_cell_row rfl _ _ N 31 _ (0, 0) _ rfl hB Tryd.underlying31 rfl (by simpa [By_length, hl32] using Tryd.size31)) rfl ⟨by rw [HL.out], ?_⟩
  rw [HN.out]
  exact L4.out.trans ((But.setCells N _ 0 w4).below (by omega) (by have := O4.out.lt; omega))

end Go.Proofs.YtmicmbjbclkbjaaDoor

/-
  indentureref03.padded: what the call does.
-/
namespace Go.Proofs.YtmicmbjbclkbjaaDoor
open Go.RowKit
theorem be8_take (n k : Nat) (hk : k < 8) : (be8 n).take (k + 1) = (be8 n).take k ++ [UInt8.ofNat (n / 2 ^ (8 * (7 - k)))] := by
  rw [List.take_add_one, be8_get n k hk]
  rfl
set_option maxHeartbeats 1000000 in
set_option maxRecDepth 100000 in
theorem padded_any (v : Value) (l : List UInt8) (hn : l.length ≤ 1099511627776) (w : World) (hr : Rd w v l) :
    Calls Tryd.prog 74 #[v] w fun e w' => ∃ v', e = .returned v' ∧ Own w' w.heap.size v' (l ++ padb l.length) ∧ Below w.heap.size w w' := by
  obtain ⟨i0, hi0, hz0, hz1, hz2⟩ := info_parts Tryd.info5
  have R1 : Hid (Rd (w.alloc (.cells #[] 5 (0, 0))) v l) := hr.kept ((Below.refl _ _).alloc (Nat.le_refl _) _)
  obtain ⟨a, cap, rfl, -, -⟩ := hr
  have H80 : Hid ((128 : Int) = (((0x80 : UInt8).toNat : Nat) : Int)) := rfl
  have H00 : Hid ((0 : Int) = (((0 : UInt8).toNat : Nat) : Int)) := rfl
  obtain ⟨Z, HZ⟩ : ∃ Z, Hid ((119 - l.length % 64) % 64 = Z) := ⟨_, rfl⟩
  have hZ64 : Z < 64 := by have := HZ.out; omega
  obtain ⟨N, HN⟩ : ∃ N, Hid (w.heap.size = N) := ⟨_, rfl⟩
  go_enter Tryd.func74, Tryd.ntmps74
  go_wp2_with (first
    | (at_builtin; refine wpList_append_bytes _ rfl (.tmp 6) (.tmp 7) 28 28 rfl w.heap.size i0 Tryd.underlying28 hi0 hz0 hz1 hz2 _ [] rfl (own_none w _ (Nat.le_refl _)) _ l rfl (R1.out.src 28 Tryd.underlying28) (by simp; omega) (by simp) ?_; intro v1 w1 ho1 hb1; simp only [List.nil_append] at ho1)
    | (at_builtin; refine wpList_append_bytes _ rfl (.tmp 8) (.tmp 9) 28 28 rfl w.heap.size i0 Tryd.underlying28 hi0 hz0 hz1 hz2 v1 l rfl (by exact ho1.kept ((Below.refl _ _).alloc (Nat.le_refl _) _)) _ [0x80] rfl (by exact (own_one' _ _ (Nat.le_refl _) _ _ H80).rd.src 28 Tryd.underlying28) (by simp; omega) (by have := hb1.size; simp at this ⊢; omega) ?_; intro v2 w2 ho2 hb2))
  have L2 : Hid (Below N w w2) := (show Below _ _ _ by rw [← HN.out]; exact ((((Below.refl _ _).alloc (Nat.le_refl _) _).trans hb1).trans ((Below.refl _ _).alloc (by have := hb1.size; simp at this; omega) _)).trans hb2)
  have O2 : Hid (Own w2 N v2 (l ++ 0x80 :: List.replicate 0 0)) := (show Own _ _ _ _ by rw [← HN.out]; exact ho2)
  clear ho1 hb1 ho2 hb2 R1
  go_loopg [3] (Z + 1) (fun g y wr => Hid (Below N w wr) ∧ ∃ k : Nat, k ≤ Z ∧ g + k = Z + 1 ∧ Hid (Own wr N y (l ++ 0x80 :: List.replicate k 0)))
  case atStart => exact ⟨L2, 0, by omega, by omega, O2⟩
  case round =>
    clear L2 O2
    obtain ⟨L2, k, hk, hgk, O2⟩ := hrel
    have HNw : Hid (N ≤ wr.heap.size) := (show _ ≤ _ by rw [← HN.out]; exact L2.out.size)
    obtain ⟨a2, cap2, hy⟩ := O2.out.form
    obtain ⟨X, HX⟩ : ∃ X, Hid (l ++ (0x80 : UInt8) :: List.replicate k (0 : UInt8) = X) := ⟨_, rfl⟩
    rw [HX.out] at hy O2
    subst hy
    have HXL : Hid (X.length = l.length + 1 + k) := (show _ = _ by rw [← HX.out]; simp; omega)
    have hxb : X.length ≤ 1099511627900 := by have := HXL.out; omega
    obtain ⟨p, HP⟩ : ∃ p, Hid (X.length % 64 = p) := ⟨_, rfl⟩
    have e2 : ((X.length : Nat) : Int) % 64 = (p : Int) := by have := HP.out; omega
    have e1 : ((X.length : Nat) : Int).tmod 64 = (p : Int) := by rw [Int.tmod_eq_emod_of_nonneg (by omega)]; have := HP.out; omega
    by_cases hlt : k < Z
    · have q1 : ¬ (p : Int) = 56 := by have := HP.out; have := HZ.out; have := HXL.out; omega
      have HX' : Hid (X ++ [0] = l ++ 0x80 :: List.replicate (k + 1) 0) := (show _ = _ by rw [← HX.out, List.append_assoc, List.replicate_succ']; rfl)
      go_wp2_with (at_builtin; refine wpList_append_bytes _ rfl (.tmp 15) (.tmp 16) 28 28 rfl N i0 Tryd.underlying28 hi0 hz0 hz1 hz2 _ X rfl (by exact O2.out.kept ((Below.refl _ _).alloc (Nat.le_refl _) _)) _ [0] rfl (by exact (own_one' _ _ (Nat.le_refl _) _ _ H00).rd.src 28 Tryd.underlying28) (by simp; omega) (by have := HNw.out; simp; omega) ?_; intro v3 w3 ho3 hb3)
      go_roundg (gk - 1)
      case measure => omega
      case rel => exact ⟨(L2.out.trans ((Below.refl _ _).alloc HNw.out _)).trans hb3, k + 1, by omega, by omega, by rw [← HX'.out]; exact ho3⟩
    · obtain rfl : k = Z := by omega
      have q1 : (p : Int) = 56 := by have := HP.out; have := HZ.out; have := HXL.out; omega
      obtain ⟨c, HC⟩ : ∃ c, Hid (8 * l.length = c) := ⟨_, rfl⟩
      have hc64 : c < 18446744073709551616 := by have := HC.out; omega
      go_wp2
      rw [show ((l.length : Int) * 8) = (c : Int) by have := HC.out; omega]
      go_loopg [3, 5] 9 (fun g y z wr => Hid (Below N w wr) ∧ ∃ (k : Nat) (t : Int), k ≤ 8 ∧ g + k = 9 ∧ z = .int .i64 t ∧ Hid (t = 7 - (k : Int)) ∧ Hid (Own wr N y (X ++ (be8 c).take k)))
      case atStart => exact ⟨L2, 0, 7, by omega, by omega, rfl, rfl, by simpa using O2⟩
      case round =>
        clear L2 O2 HNw
        obtain ⟨L2, j, t, hj, hgj, rfl, HTt, O2⟩ := hrel
        have HNw : Hid (N ≤ wr.heap.size) := (show _ ≤ _ by rw [← HN.out]; exact L2.out.size)
        by_cases hj8 : j < 8
        · obtain ⟨i, hit⟩ : ∃ i : Nat, t = (i : Int) := ⟨7 - j, by have := HTt.out; omega⟩
          subst hit
          have HI7 : Hid (i = 7 - j) := (show _ = _ by have := HTt.out; omega)
          have q2 : (i : Int) ≤ 7 := by have := HI7.out; omega
          have HY : Hid ((c : Int) / (2 : Int) ^ (8 * i) % 256 = ((UInt8.ofNat (c / 2 ^ (8 * i))).toNat : Int)) := u8_shr c _
          have HT8 : Hid ((X ++ (be8 c).take j) ++ [UInt8.ofNat (c / 2 ^ (8 * i))] = X ++ (be8 c).take (j + 1)) := (show _ = _ by rw [be8_take c j hj8, HI7.out, List.append_assoc])
          have hll : (X ++ (be8 c).take j).length ≤ 1099511628000 := by simp [be8_length]; omega
          generalize UInt8.ofNat (c / 2 ^ (8 * i)) = x at *
          go_wp2_with (at_builtin; refine wpList_append_bytes _ rfl (.tmp 26) (.tmp 33) 28 28 rfl N i0 Tryd.underlying28 hi0 hz0 hz1 hz2 _ (X ++ (be8 c).take j) rfl (by exact O2.out.kept ((Below.refl _ _).alloc (Nat.le_refl _) _)) _ [x] rfl (by exact (own_one' _ _ (Nat.le_refl _) _ _ HY).rd.src 28 Tryd.underlying28) (by rw [List.length_singleton]; omega) (by have := HNw.out; simp; omega) ?_; intro v3 w3 ho3 hb3)
          go_roundg (gk - 1)
          case measure => omega
          case rel => exact ⟨(L2.out.trans ((Below.refl _ _).alloc HNw.out _)).trans hb3, j + 1, _, by omega, by omega, rfl, (show _ = _ by have := HTt.out; omega), by rw [← HT8.out]; exact ho3⟩
        · obtain rfl : j = 8 := by omega
          obtain rfl : t = -1 := by have := HTt.out; omega
          go_wp2
          go_ret
          refine ⟨_, rfl, ?_, by rw [HN.out]; exact L2.out⟩
          have := O2.out
          rw [List.take_of_length_le (by rw [be8_length]; omega), ← HX.out, List.append_assoc] at this
          rw [HN.out]
          unfold padb
          rw [HZ.out, HC.out]
          exact this
end Go.Proofs.YtmicmbjbclkbjaaDoor

/-
  indentureref03.keys, indentureref03.block: what the calls do.
-/
namespace Go.Proofs.YtmicmbjbclkbjaaDoor
open Go.RowKit
set_option maxHeartbeats 1000000 in
set_option maxRecDepth 100000 in
theorem keys_any (w : World) : Calls Tryd.prog 88 #[] w fun e w' => e = .returned (.agg (Ws K).toArray) ∧ Below w.heap.size w w' := by
  obtain ⟨N, HN⟩ : ∃ N, Hid (w.heap.size = N) := ⟨_, rfl⟩
  go_enter Tryd.func88, Tryd.ntmps88
  go_upto_region 1 with fail
  obtain ⟨KK, HK⟩ : ∃ KK, Hid (Ws K = KK) := ⟨_, rfl⟩
  have hkl : KK.length = 64 := by rw [← HK.out]; rfl
  have HK1 : Hid (∀ u ∈ KK, u.oneCell' = true) := (show ∀ u ∈ KK, _ by rw [← HK.out]; exact Ws_one _)
  rw [HN.out]
  go_wp2_with (first
    | (refine wpList_buildK rfl 117 _ rfl (.agg (Ws K).toArray) (by kernel_rfl) ?_; rw [HK.out])
    | (refine wpList_store_new rfl 117 _ _ rfl w _ _ _ rfl rfl HN.out.symm (by simpa [hkl] using Tryd.size117) (by simp [hkl]) (all_one HK1.out) ?_)
    | fail)
  refine bodyPost_ret (results_cell_row rfl _ _ N 117 _ (0, 0) _ rfl (by rw [← HN.out]; exact Blk.new w 117 KK) Tryd.underlying117 rfl (by simpa [hkl] using Tryd.size117)) rfl ⟨by rw [HK.out], ?_⟩
  exact (Below.refl _ _).alloc (Nat.le_refl _) _

theorem eight {l : List W} (h : l.length = 8) : ∃ x0 x1 x2 x3 x4 x5 x6 x7 : W, l = [x0, x1, x2, x3, x4, x5, x6, x7] := by
  match l, h with
  | [a, b, c, d, e, f, g, i], _ => exact ⟨a, b, c, d, e, f, g, i, rfl⟩
theorem rnd_facts (x0 x1 x2 x3 x4 x5 x6 x7 kk pp : W) : ∃ u6 u11 u25 u2 u13 u22 g1 g2 g3 g4 n4 g6 g7 g8 g9 one k1 k2 k3 k4 k5 k6 k7 two na ne : W,
    Hid (∀ w : World, Calls Tryd.prog 87 #[shwv x4, .int .u64 6] w fun e w' => e = .returned (shwv u6) ∧ w' = w)
    ∧ Hid (∀ w : World, Calls Tryd.prog 87 #[shwv x4, .int .u64 11] w fun e w' => e = .returned (shwv u11) ∧ w' = w)
    ∧ Hid (∀ w : World, Calls Tryd.prog 87 #[shwv x4, .int .u64 25] w fun e w' => e = .returned (shwv u25) ∧ w' = w)
    ∧ Hid (∀ w : World, Calls Tryd.prog 87 #[shwv x0, .int .u64 2] w fun e w' => e = .returned (shwv u2) ∧ w' = w)
    ∧ Hid (∀ w : World, Calls Tryd.prog 87 #[shwv x0, .int .u64 13] w fun e w' => e = .returned (shwv u13) ∧ w' = w)
    ∧ Hid (∀ w : World, Calls Tryd.prog 87 #[shwv x0, .int .u64 22] w fun e w' => e = .returned (shwv u22) ∧ w' = w)
    ∧ bits .xor .u32 (u6.toNat : Int) (u11.toNat : Int) = (g1.toNat : Int)
    ∧ bits .xor .u32 (g1.toNat : Int) (u25.toNat : Int) = (g2.toNat : Int)
    ∧ IntKind.u32.wrap ((x7.toNat : Int) + (g2.toNat : Int)) = (g3.toNat : Int)
    ∧ bits .and .u32 (x4.toNat : Int) (x5.toNat : Int) = (g4.toNat : Int)
    ∧ bits .xor .u32 (if IntKind.u32.signed = true then -1 else IntKind.u32.max) (x4.toNat : Int) = (n4.toNat : Int)
    ∧ bits .and .u32 (n4.toNat : Int) (x6.toNat : Int) = (g6.toNat : Int)
    ∧ bits .xor .u32 (g4.toNat : Int) (g6.toNat : Int) = (g7.toNat : Int)
    ∧ IntKind.u32.wrap ((g3.toNat : Int) + (g7.toNat : Int)) = (g8.toNat : Int)
    ∧ IntKind.u32.wrap ((g8.toNat : Int) + (kk.toNat : Int)) = (g9.toNat : Int)
    ∧ IntKind.u32.wrap ((g9.toNat : Int) + (pp.toNat : Int)) = (one.toNat : Int)
    ∧ bits .xor .u32 (u2.toNat : Int) (u13.toNat : Int) = (k1.toNat : Int)
    ∧ bits .xor .u32 (k1.toNat : Int) (u22.toNat : Int) = (k2.toNat : Int)
    ∧ bits .and .u32 (x0.toNat : Int) (x1.toNat : Int) = (k3.toNat : Int)
    ∧ bits .and .u32 (x0.toNat : Int) (x2.toNat : Int) = (k4.toNat : Int)
    ∧ bits .and .u32 (x1.toNat : Int) (x2.toNat : Int) = (k5.toNat : Int)
    ∧ bits .xor .u32 (k3.toNat : Int) (k4.toNat : Int) = (k6.toNat : Int)
    ∧ bits .xor .u32 (k6.toNat : Int) (k5.toNat : Int) = (k7.toNat : Int)
    ∧ IntKind.u32.wrap ((k2.toNat : Int) + (k7.toNat : Int)) = (two.toNat : Int)
    ∧ IntKind.u32.wrap ((one.toNat : Int) + (two.toNat : Int)) = (na.toNat : Int)
    ∧ IntKind.u32.wrap ((x3.toNat : Int) + (one.toNat : Int)) = (ne.toNat : Int)
    ∧ ((one.toNat : Int) + (two.toNat : Int)) % (4294967296 : Int) = (na.toNat : Int)
    ∧ ((x3.toNat : Int) + (one.toNat : Int)) % (4294967296 : Int) = (ne.toNat : Int)
    ∧ Hid (rnd [x0, x1, x2, x3, x4, x5, x6, x7] (kk + pp) = [na, x0, x1, x2, ne, x4, x5, x6]) :=
  ⟨_, _, _, _, _, _, _, _, _, _, _, _, _, _, _, _, _, _, _, _, _, _, _, _, _, _, turn_6 x4, turn_11 x4, turn_25 x4, turn_2 x0, turn_13 x0, turn_22 x0, u32_xor_bv _ _, u32_xor_bv _ _, add_wrap _ _, u32_and_bv _ _, u32_not_bv x4, u32_and_bv _ _, u32_xor_bv _ _, add_wrap _ _, add_wrap _ _, add_wrap _ _, u32_xor_bv _ _, u32_xor_bv _ _, u32_and_bv _ _, u32_and_bv _ _, u32_and_bv _ _, u32_xor_bv _ _, u32_xor_bv _ _, add_wrap _ _, add_wrap _ _, add_wrap _ _, add_bv _ _, add_bv _ _, (show rnd _ _ = _ by
    unfold rnd
    simp only [gW, List.getD_cons_zero, List.getD_cons_succ, S1, S0, ch, mj, BitVec.add_assoc])⟩

set_option maxHeartbeats 4000000 in
set_option maxRecDepth 100000 in
theorem block_any (v : Value) (b : List UInt8) (h : List W) (hb : b.length = 64) (hh : h.length = 8) (w : World) (hr : Rd w v b) :
    Calls Tryd.prog 75 #[.agg (Ws h).toArray, v] w fun e w' => e = .returned (.agg (Ws (blk h b)).toArray) ∧ Below w.heap.size w w' := by
  obtain ⟨a, cap, rfl, h1, h2, h3, h4⟩ := hr
  obtain ⟨c, off, rfl, hlt, hc⟩ := h4 (by omega)
  clear h3 h4
  obtain ⟨N, HN⟩ : ∃ N, Hid (w.heap.size = N) := ⟨_, rfl⟩
  have HC : Hid (∀ wr, Below N w wr → ∀ j, j < 64 → wr.cell? ⟨c, off + j, none⟩ = some (.int .u8 ((gB b j).toNat : Int))) := (show ∀ wr, _ → ∀ j, _ → _ from fun wr hwr j hj => by
    rw [hwr.cell (p := ⟨c, off + j, none⟩) (show c < N from HN.out ▸ hlt), hc j _ (By_get (by omega))]
    simp [gB, List.getD, hb, hj])
  clear hc
  rw [hb] at *
  obtain ⟨D, HD⟩ : ∃ D, Hid (Ws h = D) := ⟨_, rfl⟩
  have hdl : D.length = 8 := by rw [← HD.out, Ws_length, hh]
  have HD1 : Hid (∀ u ∈ D, u.oneCell' = true) := (show ∀ u ∈ D, _ by rw [← HD.out]; exact Ws_one _)
  rw [HD.out]
  go_enter Tryd.func75, Tryd.ntmps75
  go_upto_region 2 with fail
  rw [HN.out]
  change Code.wp _ _ _ _ (((w.alloc (.cells D.toArray 99 (0, 0))).alloc (.cells (Ws (List.replicate 8 0#32)).toArray 99 (0, 0))).alloc (.cells (Ws (pz b 0)).toArray 117 (0, 0)))
  obtain ⟨w1, hw1⟩ : ∃ x, x = ((w.alloc (.cells D.toArray 99 (0, 0))).alloc (.cells (Ws (List.replicate 8 0#32)).toArray 99 (0, 0))).alloc (.cells (Ws (pz b 0)).toArray 117 (0, 0)) := ⟨_, rfl⟩
  rw [← hw1]
  have H1 : Hid (Blk w1 N 99 D) := (show Blk _ _ _ _ by rw [hw1, ← HN.out]; exact ((Blk.new w 99 D).alloc _).alloc _)
  have R1 : Hid (Blk w1 (N + 1) 99 (Ws (List.replicate 8 0#32))) := (show Blk _ _ _ _ by
    have := (Blk.new (w.alloc (.cells D.toArray 99 (0, 0))) 99 (Ws (List.replicate 8 0#32))).alloc (.cells (Ws (pz b 0)).toArray 117 (0, 0))
    rw [show (w.alloc (.cells D.toArray 99 (0, 0))).heap.size = N + 1 by simp [HN.out]] at this
    rw [hw1]; exact this)
  have P1 : Hid (Blk w1 (N + 2) 117 (Ws (pz b 0))) := (show Blk _ _ _ _ by
    have := Blk.new ((w.alloc (.cells D.toArray 99 (0, 0))).alloc (.cells (Ws (List.replicate 8 0#32)).toArray 99 (0, 0))) 117 (Ws (pz b 0))
    rw [show ((w.alloc (.cells D.toArray 99 (0, 0))).alloc (.cells (Ws (List.replicate 8 0#32)).toArray 99 (0, 0))).heap.size = N + 2 by simp [HN.out]] at this
    rw [hw1]; exact this)
  have L1 : Hid (Below N w w1) := (show Below _ _ _ by
    rw [hw1]; exact ((Below.refl _ _).alloc (by rw [HN.out]; omega) _).alloc (by simp [HN.out]) _ |>.alloc (by simp [HN.out]; omega) _)
  clear hw1
  go_wp2
  go_loopg [6] 17 (fun k z wr => Hid (Below N w wr) ∧ ∃ i : Nat, i ≤ 16 ∧ k + i = 17 ∧ z = .int .i64 i ∧ Hid (Blk wr N 99 D) ∧ Hid (Blk wr (N + 1) 99 (Ws (List.replicate 8 0#32))) ∧ Hid (Blk wr (N + 1 + 1) 117 (Ws (pz b i))))
  case atStart => exact ⟨L1, 0, by omega, rfl, rfl, H1, R1, P1⟩
  case round =>
    clear H1 R1 P1 L1
    obtain ⟨HBL, i, hi, hk, rfl, H1, R1, HB1⟩ := hrel
    have HBS : Hid (N ≤ wr.heap.size) := (show N ≤ _ from H1.out.lt |> Nat.le_of_lt)
    by_cases hlt : i < 16
    · have q1 : (i : Int) < 16 := by omega
      have q3 : (i : Int) < 64 := by omega
      have HX : Hid (word b i = bw (gB b (4 * i + 0)) <<< 24 ||| bw (gB b (4 * i + 1)) <<< 16 ||| bw (gB b (4 * i + 2)) <<< 8 ||| bw (gB b (4 * i + 3))) := rfl
      obtain ⟨a0, A0⟩ : ∃ a, Hid (4 * i + 0 = a) := ⟨_, rfl⟩
      have b0 : (a0 : Int) < 64 := by have := A0.out; omega
      have c0 := HC.out wr HBL.out a0 (by omega)
      obtain ⟨a1, A1⟩ : ∃ a, Hid (4 * i + 1 = a) := ⟨_, rfl⟩
      have b1 : (a1 : Int) < 64 := by have := A1.out; omega
      have c1 := HC.out wr HBL.out a1 (by omega)
      obtain ⟨a2, A2⟩ : ∃ a, Hid (4 * i + 2 = a) := ⟨_, rfl⟩
      have b2 : (a2 : Int) < 64 := by have := A2.out; omega
      have c2 := HC.out wr HBL.out a2 (by omega)
      obtain ⟨a3, A3⟩ : ∃ a, Hid (4 * i + 3 = a) := ⟨_, rfl⟩
      have b3 : (a3 : Int) < 64 := by have := A3.out; omega
      have c3 := HC.out wr HBL.out a3 (by omega)
      have w0 : IntKind.i64.wrap (4 * (i : Int)) = (a0 : Int) := (IntWalk.i64_in _ (by omega)).trans (by have := A0.out; omega)
      have w1 : IntKind.i64.wrap ((a0 : Int) + 1) = (a1 : Int) := (IntWalk.i64_in _ (by omega)).trans (by have := A0.out; have := A1.out; omega)
      have w2 : IntKind.i64.wrap ((a0 : Int) + 2) = (a2 : Int) := (IntWalk.i64_in _ (by omega)).trans (by have := A0.out; have := A2.out; omega)
      have w3 : IntKind.i64.wrap ((a0 : Int) + 3) = (a3 : Int) := (IntWalk.i64_in _ (by omega)).trans (by have := A0.out; have := A3.out; omega)
      rw [A0.out, A1.out, A2.out, A3.out] at HX
      generalize gB b a0 = x0 at *
      generalize gB b a1 = x1 at *
      generalize gB b a2 = x2 at *
      generalize gB b a3 = x3 at *
      have e0 := wrap_bw x0
      have e1 := wrap_bw x1
      have e2 := wrap_bw x2
      have e3 := wrap_bw x3
      generalize bw x0 = y0 at *
      generalize bw x1 = y1 at *
      generalize bw x2 = y2 at *
      generalize bw x3 = y3 at *
      have f0 : IntKind.u32.wrap ((y0.toNat : Int) * (16777216 : Int)) = ((y0 <<< 24).toNat : Int) := shl_wrap y0 24
      have f1 : IntKind.u32.wrap ((y1.toNat : Int) * (65536 : Int)) = ((y1 <<< 16).toNat : Int) := shl_wrap y1 16
      have f2 : IntKind.u32.wrap ((y2.toNat : Int) * (256 : Int)) = ((y2 <<< 8).toNat : Int) := shl_wrap y2 8
      generalize y0 <<< 24 = z0 at *
      generalize y1 <<< 16 = z1 at *
      generalize y2 <<< 8 = z2 at *
      have g0 := u32_or_bv z0 z1
      generalize z0 ||| z1 = z3 at *
      have g1 := u32_or_bv z3 z2
      generalize z3 ||| z2 = z4 at *
      have g2 := u32_or_bv z4 y3
      generalize z4 ||| y3 = z5 at *
      have k1 := HB1.out.cell (Ws_get (l := pz b i) (j := i) (by rw [pz_length]; omega; omega))
      have k2 := HB1.out.frozen i
      go_wp2_with fail
      go_still_tail 35, Tryd.mixed
      go_wp2
      go_roundg (gk - 1)
      case measure => omega
      case rel => exact ⟨(But.setCell _ _ _ _).below (by omega) HBS.out |> HBL.out.trans |> Below.drew, i + 1, by omega, by omega, by go_num, H1.out.set_other (by omega) _ _, R1.out.set_other (by omega) _ _, by
        show Blk _ _ _ _
        have e := pz_set b i (by omega)
        rw [if_pos hlt, HX.out] at e
        have := HB1.out.set i (shwv z5)
        rw [Ws_set, e] at this
        exact this⟩
    · obtain rfl : i = 16 := by omega
      go_wp2
      go_loopg [7] 49 (fun k z wr => Hid (Below N w wr) ∧ ∃ i : Nat, 16 ≤ i ∧ i ≤ 64 ∧ k + i = 65 ∧ z = .int .i64 i ∧ Hid (Blk wr N 99 D) ∧ Hid (Blk wr (N + 1) 99 (Ws (List.replicate 8 0#32))) ∧ Hid (Blk wr (N + 1 + 1) 117 (Ws (pz b i))))
      case atStart => exact ⟨HBL, 16, by omega, by omega, by omega, rfl, H1, R1, HB1⟩
      case round =>
        clear H1 R1 HB1 HBL HBS
        obtain ⟨HBL, i, hi0, hi, hk, rfl, H1, R1, HB1⟩ := hrel
        have HBS : Hid (N ≤ wr.heap.size) := (show N ≤ _ from H1.out.lt |> Nat.le_of_lt)
        by_cases hlt : i < 64
        · have q1 : (i : Int) < 64 := by omega
          obtain ⟨p15, hp15⟩ : ∃ p, p = i - 15 := ⟨_, rfl⟩
          have w15 : IntKind.i64.wrap ((i : Int) - 15) = (p15 : Int) := (IntWalk.i64_in ((i : Int) - 15) (by omega)).trans (by omega)
          have b15 : (p15 : Int) < 64 := by omega
          have c15 := HB1.out.cell (Ws_get (l := pz b i) (j := p15) (by rw [pz_length]; omega; omega))
          obtain ⟨p2, hp2⟩ : ∃ p, p = i - 2 := ⟨_, rfl⟩
          have w2 : IntKind.i64.wrap ((i : Int) - 2) = (p2 : Int) := (IntWalk.i64_in ((i : Int) - 2) (by omega)).trans (by omega)
          have b2 : (p2 : Int) < 64 := by omega
          have c2 := HB1.out.cell (Ws_get (l := pz b i) (j := p2) (by rw [pz_length]; omega; omega))
          obtain ⟨p16, hp16⟩ : ∃ p, p = i - 16 := ⟨_, rfl⟩
          have w16 : IntKind.i64.wrap ((i : Int) - 16) = (p16 : Int) := (IntWalk.i64_in ((i : Int) - 16) (by omega)).trans (by omega)
          have b16 : (p16 : Int) < 64 := by omega
          have c16 := HB1.out.cell (Ws_get (l := pz b i) (j := p16) (by rw [pz_length]; omega; omega))
          obtain ⟨p7, hp7⟩ : ∃ p, p = i - 7 := ⟨_, rfl⟩
          have w7 : IntKind.i64.wrap ((i : Int) - 7) = (p7 : Int) := (IntWalk.i64_in ((i : Int) - 7) (by omega)).trans (by omega)
          have b7 : (p7 : Int) < 64 := by omega
          have c7 := HB1.out.cell (Ws_get (l := pz b i) (j := p7) (by rw [pz_length]; omega; omega))
          have HX : Hid (shnxt (plan b i) i = gW (pz b i) p16 + s0 (gW (pz b i) p15) + gW (pz b i) p7 + s1 (gW (pz b i) p2)) := (show _ = _ by
            rw [pz_get _ _ _ (by omega), pz_get _ _ _ (by omega), pz_get _ _ _ (by omega), pz_get _ _ _ (by omega), shnxt, hp16, hp15, hp7, hp2])
          clear hp16 hp15 hp7 hp2
          generalize gW (pz b i) p15 = x at *
          generalize gW (pz b i) p2 = y at *
          generalize gW (pz b i) p16 = z at *
          generalize gW (pz b i) p7 = u at *
          have f1 := u32_xor_bv (rr x 7) (rr x 18)
          have f2 : (x.toNat : Int) / (8 : Int) = ((x >>> 3).toNat : Int) := shr_bv x 3
          have f3 := u32_xor_bv (rr x 7 ^^^ rr x 18) (x >>> 3)
          have f4 := u32_xor_bv (rr y 17) (rr y 19)
          have f5 : (y.toNat : Int) / (1024 : Int) = ((y >>> 10).toNat : Int) := shr_bv y 10
          have f6 := u32_xor_bv (rr y 17 ^^^ rr y 19) (y >>> 10)
          have R7 : Hid _ := turn_7 x
          have R18 : Hid _ := turn_18 x
          have R17 : Hid _ := turn_17 y
          have R19 : Hid _ := turn_19 y
          unfold s0 s1 at HX
          generalize rr x 7 = x7 at *
          generalize rr x 18 = x18 at *
          generalize rr y 17 = y17 at *
          generalize rr y 19 = y19 at *
          generalize x >>> 3 = x3 at *
          generalize y >>> 10 = y10 at *
          generalize x7 ^^^ x18 = xa at *
          generalize xa ^^^ x3 = xb at *
          generalize y17 ^^^ y19 = ya at *
          generalize ya ^^^ y10 = yb at *
          have g1 := add_wrap z xb
          generalize z + xb = t1 at *
          have g2 := add_wrap t1 u
          generalize t1 + u = t2 at *
          have g3 := add_wrap t2 yb
          generalize t2 + yb = t3 at *
          go_wp2_with fail
          go_still Tryd.mixed
          generalize hq : ({ wr with drawn := wr.drawn + 1 } : World) = wq
          have e3 : wq.cell? ⟨N + 1 + 1, p16, none⟩ = some (shwv z) := by rw [← hq]; exact c16
          have e4 : wq.cell? ⟨N + 1 + 1, p7, none⟩ = some (shwv u) := by rw [← hq]; exact c7
          have B0 : Hid (Blk wq N 99 D) := by rw [← hq]; exact H1.out
          have B9 : Hid (Blk wq (N + 1) 99 (Ws (List.replicate 8 0#32))) := by rw [← hq]; exact R1.out
          have B1 : Hid (Blk wq (N + 1 + 1) 117 (Ws (pz b i))) := by rw [← hq]; exact HB1.out
          have BL : Hid (Below N w wq) := by rw [← hq]; exact HBL.out.drew
          have BS : Hid (N ≤ wq.heap.size) := by rw [← hq]; exact HBS.out
          clear hq c15 c2 c16 c7 H1 R1 HB1 HBL HBS
          have k1 := B1.out.cell (Ws_get (l := pz b i) (j := i) (by rw [pz_length]; omega; omega))
          have k2 := B1.out.frozen i
          go_wp2_with fail
          refine wp_region_still_tail 29 Tryd.mixed (by kernel_rfl) ?_
          simp only [List.take_succ_cons, List.take_zero, List.drop_succ_cons, List.drop_zero]
          repeat still_step
          still_call (R7.out _)
          repeat still_step
          still_call (R18.out _)
          repeat still_step
          still_call (R17.out _)
          repeat still_step
          still_call (R19.out _)
          repeat still_step
          refine wpStill_nil ?_
          go_wp2
          go_roundg (gk - 1)
          case measure => omega
          case rel => exact ⟨(But.setCell _ _ _ _).below (by omega) BS.out |> BL.out.trans |> Below.drew, i + 1, by omega, by omega, by omega, by go_num, B0.out.set_other (by omega) _ _, B9.out.set_other (by omega) _ _, by
            show Blk _ _ _ _
            have e := pz_set b i (by omega)
            rw [if_neg (by omega), HX.out] at e
            have := B1.out.set i (shwv t3)
            rw [Ws_set, e] at this
            exact this⟩
        · obtain rfl : i = 64 := by omega
          obtain ⟨p, HP⟩ : ∃ p, Hid (plan b 64 = p) := ⟨_, rfl⟩
          have hpl : p.length = 64 := by rw [← HP.out]; exact plan_length b 64
          have P2 : Hid (Blk wr (N + 1 + 1) 117 (Ws p)) := (show Blk _ _ _ _ by
            have := HB1.out
            rw [pz, HP.out, Nat.sub_self, List.replicate_zero, List.append_nil] at this
            exact this)
          clear HB1
          go_wp2_with fail
          refine (keys_any wr).mono ?_
          rintro e w2 ⟨rfl, hw2⟩
          have H2 : Hid (Blk w2 N 99 D) := H1.out.kept hw2
          have R2 : Hid (Blk w2 (N + 1) 99 (Ws (List.replicate 8 0#32))) := R1.out.kept hw2
          have P3 : Hid (Blk w2 (N + 1 + 1) 117 (Ws p)) := P2.out.kept hw2
          have L2 : Hid (Below N w w2) := HBL.out.trans (hw2.mono HBS.out)
          clear hw2 H1 R1 P2 HBL HBS
          obtain ⟨M, HM⟩ : ∃ M, Hid (w2.heap.size = M) := ⟨_, rfl⟩
          have HNM : Hid (N + 1 + 1 < M) := (show _ by rw [← HM.out]; exact P3.out.lt)
          obtain ⟨KK, HK⟩ : ∃ KK, Hid (Ws K = KK) := ⟨_, rfl⟩
          have hkl : KK.length = 64 := by rw [← HK.out]; rfl
          have HK1 : Hid (∀ u ∈ KK, u.oneCell' = true) := (show ∀ u ∈ KK, _ by rw [← HK.out]; exact Ws_one _)
          rw [HK.out]
          have r3 : Hid ((w2.alloc (.cells KK.toArray 117 (0, 0))).rangeAt N 0 D) := (H2.out.alloc _).range0
          go_wp2_with (first
            | (refine wpList_store_new rfl 117 _ _ rfl w2 _ _ _ rfl rfl rfl (by simpa [hkl] using Tryd.size117) (by simp [hkl]) (all_one HK1.out) ?_)
            | (refine wpList_load_mid rfl 99 _ rfl N 0 rfl D _ r3.out Tryd.underlying99 rfl (by rw [hdl]; exact Tryd.size99) ?_)
            | (refine wpList_store_new rfl 99 _ _ rfl (w2.alloc (.cells KK.toArray 117 (0, 0))) _ _ _ rfl rfl (by simp) (by simpa [hdl] using Tryd.size99) (by simp [hdl]) (all_one HD1.out) ?_)
            | fail)
          rw [HM.out]
          obtain ⟨w3, hw3⟩ : ∃ x, x = (w2.alloc (.cells KK.toArray 117 (0, 0))).alloc (.cells D.toArray 99 (0, 0)) := ⟨_, rfl⟩
          rw [← hw3]
          have H3 : Hid (Blk w3 N 99 D) := (show Blk _ _ _ _ by rw [hw3]; exact (H2.out.alloc _).alloc _)
          have R3 : Hid (Blk w3 (N + 1) 99 (Ws (List.replicate 8 0#32))) := (show Blk _ _ _ _ by rw [hw3]; exact (R2.out.alloc _).alloc _)
          have P4 : Hid (Blk w3 (N + 1 + 1) 117 (Ws p)) := (show Blk _ _ _ _ by rw [hw3]; exact (P3.out.alloc _).alloc _)
          have K3 : Hid (Blk w3 M 117 (Ws K)) := (show Blk _ _ _ _ by rw [hw3, ← HM.out, HK.out]; exact (Blk.new w2 117 KK).alloc _)
          have V3 : Hid (Blk w3 (M + 1) 99 (Ws h)) := (show Blk _ _ _ _ by
            have := Blk.new (w2.alloc (.cells KK.toArray 117 (0, 0))) 99 D
            rw [show (w2.alloc (.cells KK.toArray 117 (0, 0))).heap.size = M + 1 by simp [HM.out]] at this
            rw [hw3, HD.out]; exact this)
          have L3 : Hid (Below N w w3) := (show Below _ _ _ by
            have := HNM.out
            rw [hw3]; exact (L2.out.alloc (by rw [HM.out]; omega) _).alloc (by simp [HM.out]; omega) _)
          clear hw3 H2 R2 P3 L2 r3
          go_wp2
          go_loopg [12] 65 (fun k z wr => Hid (Below N w wr) ∧ ∃ i : Nat, i ≤ 64 ∧ k + i = 65 ∧ z = .int .i64 i ∧ Hid (Blk wr N 99 D) ∧ Hid (Blk wr (N + 1) 99 (Ws (List.replicate 8 0#32))) ∧ Hid (Blk wr (N + 1 + 1) 117 (Ws p)) ∧ Hid (Blk wr M 117 (Ws K)) ∧ Hid (Blk wr (M + 1) 99 (Ws (rnds p h i))))
          case atStart => exact ⟨L3, 0, by omega, by omega, rfl, H3, R3, P4, K3, V3⟩
          case round =>
            clear H3 R3 P4 K3 V3 L3
            obtain ⟨L3, i, hi, hk, rfl, H3, R3, P4, K3, V3⟩ := hrel
            have hvl := rnds_length p h hh i
            by_cases hlt : i < 64
            · have q1 : (i : Int) < 64 := by omega
              have CK : Hid (∀ w' : World, w'.heap = wr.heap → w'.cell? ⟨M, i, none⟩ = some (shwv (gW K i))) := (show ∀ w' : World, _ → _ from fun w' e => by
                rw [← K3.out.cell (Ws_get (l := K) (j := i) hlt)]; simp only [World.cell?, e])
              have CP : Hid (∀ w' : World, w'.heap = wr.heap → w'.cell? ⟨N + 1 + 1, i, none⟩ = some (shwv (gW p i))) := (show ∀ w' : World, _ → _ from fun w' e => by
                rw [← P4.out.cell (Ws_get (l := p) (j := i) (by omega))]; simp only [World.cell?, e])
              have HR : Hid (rnds p h (i + 1) = rnd (rnds p h i) (gW K i + gW p i)) := rfl
              obtain ⟨l, HLL⟩ : ∃ l, Hid (rnds p h i = l) := ⟨_, rfl⟩
              rw [HLL.out] at HR V3 hvl
              clear HLL
              obtain ⟨kk, HKK⟩ : ∃ x, Hid (gW K i = x) := ⟨_, rfl⟩
              rw [HKK.out] at HR CK
              clear HKK
              obtain ⟨pp, HPP⟩ : ∃ x, Hid (gW p i = x) := ⟨_, rfl⟩
              rw [HPP.out] at HR CP
              clear HPP
              obtain ⟨x0, x1, x2, x3, x4, x5, x6, x7, rfl⟩ := eight hvl
              clear hvl
              have C0 : Hid (∀ w' : World, w'.heap = wr.heap → w'.cell? ⟨M + 1, 0, none⟩ = some (shwv x0)) := (show ∀ w' : World, _ → _ from fun w' e => (show w'.cell? _ = wr.cell? _ by simp only [World.cell?, e]).trans (V3.out.cell (j := 0) (v := shwv x0) rfl))
              have C1 : Hid (∀ w' : World, w'.heap = wr.heap → w'.cell? ⟨M + 1, 1, none⟩ = some (shwv x1)) := (show ∀ w' : World, _ → _ from fun w' e => (show w'.cell? _ = wr.cell? _ by simp only [World.cell?, e]).trans (V3.out.cell (j := 1) (v := shwv x1) rfl))
              have C2 : Hid (∀ w' : World, w'.heap = wr.heap → w'.cell? ⟨M + 1, 2, none⟩ = some (shwv x2)) := (show ∀ w' : World, _ → _ from fun w' e => (show w'.cell? _ = wr.cell? _ by simp only [World.cell?, e]).trans (V3.out.cell (j := 2) (v := shwv x2) rfl))
              have C3 : Hid (∀ w' : World, w'.heap = wr.heap → w'.cell? ⟨M + 1, 3, none⟩ = some (shwv x3)) := (show ∀ w' : World, _ → _ from fun w' e => (show w'.cell? _ = wr.cell? _ by simp only [World.cell?, e]).trans (V3.out.cell (j := 3) (v := shwv x3) rfl))
              have C4 : Hid (∀ w' : World, w'.heap = wr.heap → w'.cell? ⟨M + 1, 4, none⟩ = some (shwv x4)) := (show ∀ w' : World, _ → _ from fun w' e => (show w'.cell? _ = wr.cell? _ by simp only [World.cell?, e]).trans (V3.out.cell (j := 4) (v := shwv x4) rfl))
              have C5 : Hid (∀ w' : World, w'.heap = wr.heap → w'.cell? ⟨M + 1, 5, none⟩ = some (shwv x5)) := (show ∀ w' : World, _ → _ from fun w' e => (show w'.cell? _ = wr.cell? _ by simp only [World.cell?, e]).trans (V3.out.cell (j := 5) (v := shwv x5) rfl))
              have C6 : Hid (∀ w' : World, w'.heap = wr.heap → w'.cell? ⟨M + 1, 6, none⟩ = some (shwv x6)) := (show ∀ w' : World, _ → _ from fun w' e => (show w'.cell? _ = wr.cell? _ by simp only [World.cell?, e]).trans (V3.out.cell (j := 6) (v := shwv x6) rfl))
              have C7 : Hid (∀ w' : World, w'.heap = wr.heap → w'.cell? ⟨M + 1, 7, none⟩ = some (shwv x7)) := (show ∀ w' : World, _ → _ from fun w' e => (show w'.cell? _ = wr.cell? _ by simp only [World.cell?, e]).trans (V3.out.cell (j := 7) (v := shwv x7) rfl))
              obtain ⟨u6, u11, u25, u2, u13, u22, g1, g2, g3, g4, n4, g6, g7, g8, g9, one, k1, k2, k3, k4, k5, k6, k7, two, na, ne, T6, T11, T25, T2, T13, T22, f1, f2, f3, f4, f5, f6, f7, f8, f9, f10, m1, m2, m3, m4, m5, m6, m7, m8, s1, s2, s1', s2', HX⟩ := rnd_facts x0 x1 x2 x3 x4 x5 x6 x7 kk pp
              rw [HX.out] at HR
              clear HX
              have c0 := C0.out wr rfl
              have c4 := C4.out wr rfl
              have D6 : Hid (∀ w' n, Calls Tryd.prog 87 #[shwv x4, .int .u64 6] (World.drewN w' n) fun e w'' => e = .returned (shwv u6) ∧ ∃ n', w'' = w'.drewN n') := (show ∀ w' n, _ from fun w' n => (T6.out _).mono fun _ _ ⟨h1, h2⟩ => ⟨h1, n, h2⟩)
              have D11 : Hid (∀ w' n, Calls Tryd.prog 87 #[shwv x4, .int .u64 11] (World.drewN w' n) fun e w'' => e = .returned (shwv u11) ∧ ∃ n', w'' = w'.drewN n') := (show ∀ w' n, _ from fun w' n => (T11.out _).mono fun _ _ ⟨h1, h2⟩ => ⟨h1, n, h2⟩)
              have D25 : Hid (∀ w' n, Calls Tryd.prog 87 #[shwv x4, .int .u64 25] (World.drewN w' n) fun e w'' => e = .returned (shwv u25) ∧ ∃ n', w'' = w'.drewN n') := (show ∀ w' n, _ from fun w' n => (T25.out _).mono fun _ _ ⟨h1, h2⟩ => ⟨h1, n, h2⟩)
              have D2 : Hid (∀ w' n, Calls Tryd.prog 87 #[shwv x0, .int .u64 2] (World.drewN w' n) fun e w'' => e = .returned (shwv u2) ∧ ∃ n', w'' = w'.drewN n') := (show ∀ w' n, _ from fun w' n => (T2.out _).mono fun _ _ ⟨h1, h2⟩ => ⟨h1, n, h2⟩)
              have D13 : Hid (∀ w' n, Calls Tryd.prog 87 #[shwv x0, .int .u64 13] (World.drewN w' n) fun e w'' => e = .returned (shwv u13) ∧ ∃ n', w'' = w'.drewN n') := (show ∀ w' n, _ from fun w' n => (T13.out _).mono fun _ _ ⟨h1, h2⟩ => ⟨h1, n, h2⟩)
              have D22 : Hid (∀ w' n, Calls Tryd.prog 87 #[shwv x0, .int .u64 22] (World.drewN w' n) fun e w'' => e = .returned (shwv u22) ∧ ∃ n', w'' = w'.drewN n') := (show ∀ w' n, _ from fun w' n => (T22.out _).mono fun _ _ ⟨h1, h2⟩ => ⟨h1, n, h2⟩)
              clear T6 T11 T25 T2 T13 T22
              go_wp2_with fail
              refine wp_region_quiet_lit (by kernel_rfl) (by kernel_rfl) ?_
              iterate 6 (go_big_quiet_step (fail))
              refine wpQuiet_nil ?_
              intro v1 hw'
              have Ev1 : Hid (v1.heap = wr.heap) := by obtain ⟨nq, rfl⟩ := hw'; exact rfl
              have Lv1 : Hid (Below N w v1) := by obtain ⟨nq, rfl⟩ := hw'; exact L3.out.trans (below_drewN _ N nq)
              clear hw' c0 c4
              have c7 := C7.out v1 Ev1.out
              have c5 := C5.out v1 Ev1.out
              have c6 := C6.out v1 Ev1.out
              have ck := CK.out v1 Ev1.out
              have cp := CP.out v1 Ev1.out
              go_wp2_with fail
              refine wp_region_quiet_lit (by kernel_rfl) (by kernel_rfl) ?_
              iterate 3 (go_big_quiet_step (fail))
              go_big_quiet_step (exact D6.out _ _)
              iterate 1 (go_big_quiet_step (fail))
              go_big_quiet_step (exact D11.out _ _)
              iterate 2 (go_big_quiet_step (fail))
              go_big_quiet_step (exact D25.out _ _)
              iterate 22 (go_big_quiet_step (fail))
              refine wpQuiet_nil ?_
              intro v2 hw'
              have Ev2 : Hid (v2.heap = wr.heap) := by obtain ⟨nq, rfl⟩ := hw'; exact Ev1.out
              have Lv2 : Hid (Below N w v2) := by obtain ⟨nq, rfl⟩ := hw'; exact Lv1.out.trans (below_drewN _ N nq)
              clear hw' c7 c5 c6 ck cp f1 f2 f3 f4 f5 f6 f7 f8 f9 f10 D6 D11 D25
              have c1 := C1.out v2 Ev2.out
              have c2 := C2.out v2 Ev2.out
              go_wp2_with fail
              refine wp_region_quiet_lit (by kernel_rfl) (by kernel_rfl) ?_
              iterate 1 (go_big_quiet_step (fail))
              go_big_quiet_step (exact D2.out _ _)
              iterate 1 (go_big_quiet_step (fail))
              go_big_quiet_step (exact D13.out _ _)
              iterate 2 (go_big_quiet_step (fail))
              go_big_quiet_step (exact D22.out _ _)
              iterate 18 (go_big_quiet_step (fail))
              refine wpQuiet_nil ?_
              intro v3 hw'
              have Ev3 : Hid (v3.heap = wr.heap) := by obtain ⟨nq, rfl⟩ := hw'; exact Ev2.out
              have Lv3 : Hid (Below N w v3) := by obtain ⟨nq, rfl⟩ := hw'; exact Lv2.out.trans (below_drewN _ N nq)
              clear hw' c1 c2 m1 m2 m3 m4 m5 m6 m7 m8 D2 D13 D22
              have c0 := C0.out v3 Ev3.out
              have c1 := C1.out v3 Ev3.out
              have c2 := C2.out v3 Ev3.out
              have c3 := C3.out v3 Ev3.out
              have c4 := C4.out v3 Ev3.out
              have c5 := C5.out v3 Ev3.out
              have c6 := C6.out v3 Ev3.out
              have H4 : Hid (Blk v3 N 99 D) := (show _ = _ by rw [Ev3.out]; exact H3.out)
              have R4 : Hid (Blk v3 (N + 1) 99 (Ws (List.replicate 8 0#32))) := (show _ = _ by rw [Ev3.out]; exact R3.out)
              have P5 : Hid (Blk v3 (N + 1 + 1) 117 (Ws p)) := (show _ = _ by rw [Ev3.out]; exact P4.out)
              have K4 : Hid (Blk v3 M 117 (Ws K)) := (show _ = _ by rw [Ev3.out]; exact K3.out)
              have V4 : Hid (Blk v3 (M + 1) 99 (Ws [x0, x1, x2, x3, x4, x5, x6, x7])) := (show _ = _ by rw [Ev3.out]; exact V3.out)
              clear H3 R3 P4 K3 V3 L3 Ev1 Lv1 Ev2 Lv2 C0 C1 C2 C3 C4 C5 C6 C7 CK CP
              have t0 : Hid (v3.there (M + 1) 0 8) := V4.out.there 0 8 (by rw [Ws_length]; simp)
              obtain ⟨NL, HNL⟩ : ∃ NL, Hid (Ws [na, x0, x1, x2, ne, x4, x5, x6] = NL) := ⟨_, rfl⟩
              have hnl : NL.length = 8 := by rw [← HNL.out]; rfl
              have HNL1 : Hid (∀ u ∈ NL, u.oneCell' = true) := (show ∀ u ∈ NL, _ by rw [← HNL.out]; exact Ws_one _)
              go_wp2_with (first
                | (refine wpList_buildK rfl 99 _ rfl (.agg (Ws [na, x0, x1, x2, ne, x4, x5, x6]).toArray) (by kernel_rfl) ?_; rw [HNL.out])
                | (refine wpList_store_mid rfl 99 _ _ rfl (M + 1) 0 NL.toArray rfl rfl (by simpa [hnl] using t0.out) (by simpa [hnl] using Tryd.size99) (all_one HNL1.out) ?_)
                | fail)
              go_roundg (gk - 1)
              case measure => omega
              case rel =>
                have hNM := HNM.out
                have bt := But.setCells (M + 1) NL 0 v3
                refine ⟨Lv3.out.trans (bt.below (by omega) (Nat.le_of_lt H4.out.lt)), i + 1, by omega, by omega, by go_num, H4.out.but bt (by omega), R4.out.but bt (by omega), P5.out.but bt (by omega), K4.out.but bt (by omega), ?_⟩
                show Blk _ _ _ _
                have := V4.out.over NL 0 (by simp [hnl, Ws_length])
                rw [over_all _ _ (by simp [hnl, Ws_length])] at this
                rw [HR.out, HNL.out]
                exact this
            · obtain rfl : i = 64 := by omega
              obtain ⟨v, HV⟩ : ∃ v, Hid (rnds p h 64 = v) := ⟨_, rfl⟩
              rw [HV.out] at V3 hvl
              clear P4 K3
              rw [← HD.out] at H3
              go_wp2
              go_loopg [182] 9 (fun k z wr => Hid (Below N w wr) ∧ ∃ i : Nat, i ≤ 8 ∧ k + i = 9 ∧ z = .int .i64 i ∧ Hid (Blk wr N 99 (Ws (az h v i))) ∧ Hid (Blk wr (N + 1) 99 (Ws (List.replicate 8 0#32))) ∧ Hid (Blk wr (M + 1) 99 (Ws v)))
              case atStart => exact ⟨L3, 0, by omega, by omega, rfl, by rw [show az h v 0 = h by simp [az]]; exact H3, R3, V3⟩
              case round =>
                clear H3 R3 V3 L3
                obtain ⟨L3, i, hi, hk, rfl, H3, R3, V3⟩ := hrel
                by_cases hlt : i < 8
                · have q1 : (i : Int) < 8 := by omega
                  have c1 := H3.out.cell (Ws_get (l := az h v i) (j := i) (by rw [az_length h v hh hvl i hi]; exact hlt))
                  have z1 := H3.out.frozen i
                  have c2 := V3.out.cell (Ws_get (l := v) (j := i) (by omega))
                  rw [az_get h v hh hvl i hlt] at c1
                  have HE : Hid ((az h v i).set i (gW h i + gW v i) = az h v (i + 1)) := az_set h v hh hvl i hlt
                  generalize gW h i = x at *
                  generalize gW v i = y at *
                  have f1 := add_wrap x y
                  generalize x + y = z at *
                  go_wp2_with fail
                  refine wp_region_still_tail 8 Tryd.mixed (by kernel_rfl) ?_
                  simp only [List.take_succ_cons, List.take_zero, List.drop_succ_cons, List.drop_zero]
                  repeat still_step
                  refine wpStill_nil ?_
                  go_wp2
                  go_roundg (gk - 1)
                  case measure => omega
                  case rel =>
                    have hNM := HNM.out
                    exact ⟨(L3.out.trans ((But.setCell N _ _ _).below (Nat.le_refl _) (Nat.le_of_lt H3.out.lt))).drew, i + 1, by omega, by omega, by go_num, by
                      show Blk _ _ _ _
                      have := H3.out.set i (shwv z)
                      rw [Ws_set, HE.out] at this
                      exact this, R3.out.set_other (by omega) _ _, V3.out.set_other (by omega) _ _⟩
                · obtain rfl : i = 8 := by omega
                  have HF : Hid (az h v 8 = blk h b) := (show _ = _ by
                    unfold az blk
                    rw [HP.out, HV.out, List.drop_of_length_le (by omega), List.append_nil, List.take_of_length_le (by simp; omega)])
                  rw [HF.out] at H3
                  have hbl := blk_length h b hh
                  obtain ⟨F, HFF⟩ : ∃ F, Hid (Ws (blk h b) = F) := ⟨_, rfl⟩
                  have hfl : F.length = 8 := by rw [← HFF.out, Ws_length, hbl]
                  have HF1 : Hid (∀ u ∈ F, u.oneCell' = true) := (show ∀ u ∈ F, _ by rw [← HFF.out]; exact Ws_one _)
                  rw [HFF.out] at H3
                  have r9 : Hid (wr.rangeAt N 0 F) := H3.out.range0
                  have t9 : Hid (wr.there (N + 1) 0 8) := R3.out.there 0 8 (by rw [Ws_length]; simp)
                  have HB9 : Hid (Blk (wr.setCells (N + 1) 0 F) (N + 1) 99 F) := (show Blk _ _ _ _ by
                    have := R3.out.over F 0 (by simp [hfl, Ws_length])
                    rw [over_all _ _ (by simp [hfl, Ws_length])] at this
                    exact this)
                  have HL9 : Hid (Below N w (wr.setCells (N + 1) 0 F)) := L3.out.trans ((But.setCells (N + 1) F 0 wr).below (by omega) (Nat.le_of_lt H3.out.lt))
                  go_wp2_with (first
                    | (refine wpList_load_mid rfl 99 _ rfl N 0 rfl F _ r9.out Tryd.underlying99 rfl (by rw [hfl]; exact Tryd.size99) ?_)
                    | (refine wpList_store_mid rfl 99 _ _ rfl (N + 1) 0 F.toArray rfl rfl (by simpa [hfl] using t9.out) (by simpa [hfl] using Tryd.size99) (all_one HF1.out) ?_)
                    | fail)
                  refine bodyPost_ret (results_cell_row rfl _ _ (N + 1) 99 _ (0, 0) _ rfl HB9.out Tryd.underlying99 rfl (by simpa [hfl] using Tryd.size99)) rfl ⟨by rw [HFF.out], ?_⟩
                  rw [HN.out]
                  exact HL9.out
end Go.Proofs.YtmicmbjbclkbjaaDoor

/-
  indentureref03.Sum: what the call does.
-/
namespace Go.Proofs.YtmicmbjbclkbjaaDoor
open Go.RowKit
theorem Tryd.sizeT30 : (Tryd.prog.info? 30).map (·.size) = some 32 := by kernel_rfl
theorem padded_div (l : List UInt8) : (l ++ padb l.length).length = 64 * ((l ++ padb l.length).length / 64) := by
  rw [List.length_append, padb_length]
  omega
set_option maxHeartbeats 2000000 in
set_option maxRecDepth 100000 in
theorem refSum_any (v : Value) (l : List UInt8) (hn : l.length ≤ 1099511627776) (w : World) (hr : Rd w v l) :
    Calls Tryd.prog 59 #[v] w fun e w' => e = .returned (.agg (By (sha l)).toArray) ∧ Below w.heap.size w w' := by
  have HR : Hid (Rd w v l) := hr
  clear hr
  obtain ⟨N, HN⟩ : ∃ N, Hid (w.heap.size = N) := ⟨_, rfl⟩
  obtain ⟨Z, HZ⟩ : ∃ Z, Hid (By (List.replicate 32 0) = Z) := ⟨_, rfl⟩
  have hzl : Z.length = 32 := by rw [← HZ.out]; rfl
  obtain ⟨D, HD⟩ : ∃ D, Hid (Ws H0 = D) := ⟨_, rfl⟩
  have hdl : D.length = 8 := by rw [← HD.out]; rfl
  have HD1 : Hid (∀ u ∈ D, u.oneCell' = true) := (show ∀ u ∈ D, _ by rw [← HD.out]; exact Ws_one _)
  go_enter Tryd.func59, Tryd.ntmps59
  go_upto_region 1 with fail
  rw [HN.out]
  change Code.wp _ _ _ _ (w.alloc (.cells (By (List.replicate 32 0)).toArray 30 (0, 0)))
  rw [HZ.out]
  obtain ⟨w1, hw1⟩ : ∃ x, x = w.alloc (.cells Z.toArray 30 (0, 0)) := ⟨_, rfl⟩
  rw [← hw1]
  have O1 : Hid (Blk w1 N 30 Z) := (show Blk _ _ _ _ by rw [hw1, ← HN.out]; exact Blk.new w 30 Z)
  have L1 : Hid (Below N w w1) := (show Below _ _ _ by rw [hw1]; exact (Below.refl _ _).alloc (by rw [HN.out]; exact Nat.le_refl _) _)
  have HN1 : Hid (w1.heap.size = N + 1) := (show _ = _ by rw [hw1]; simp [HN.out])
  clear hw1
  go_wp2_with (first
    | (refine wpList_buildK rfl 99 _ rfl (.agg (Ws H0).toArray) (by kernel_rfl) ?_; rw [HD.out])
    | (refine wpList_store_new rfl 99 _ _ rfl w1 _ _ _ rfl rfl rfl (by simpa [hdl] using Tryd.size99) (by simp [hdl]) (all_one HD1.out) ?_)
    | fail)
  rw [HN1.out]
  obtain ⟨w2, hw2⟩ : ∃ x, x = w1.alloc (.cells D.toArray 99 (0, 0)) := ⟨_, rfl⟩
  rw [← hw2]
  have O2 : Hid (Blk w2 N 30 Z) := (show Blk _ _ _ _ by rw [hw2]; exact O1.out.alloc _)
  have H2 : Hid (Blk w2 (N + 1) 99 (Ws (blks (l ++ padb l.length) 0))) := (show Blk _ _ _ _ by rw [hw2, ← HN1.out, blks, HD.out]; exact Blk.new w1 99 D)
  have L2 : Hid (Below N w w2) := (show Below _ _ _ by rw [hw2]; exact L1.out.alloc (by rw [HN1.out]; omega) _)
  clear hw2 O1 L1 HN1
  have HLR : Hid (Below w.heap.size w w2) := (show Below _ _ _ by rw [HN.out]; exact L2.out)
  refine (padded_any _ l hn w2 (HR.out.kept HLR.out)).mono ?_
  rintro e w3 ⟨vp, rfl, hop, hb3⟩
  have hBN : N + 1 < w2.heap.size := H2.out.lt
  have O3 : Hid (Blk w3 N 30 Z) := O2.out.kept hb3
  have H3 : Hid (Blk w3 (N + 1) 99 (Ws (blks (l ++ padb l.length) 0))) := H2.out.kept hb3
  have L3 : Hid (Below N w w3) := L2.out.trans (hb3.mono (by omega))
  have hPL := padb_length l.length
  have hPd := padded_div l
  have hP1 : (l ++ padb l.length).length ≤ 1099511628000 := by rw [List.length_append, hPL]; omega
  have hP0 : 0 < (l ++ padb l.length).length := by rw [List.length_append, hPL]; omega
  have HS : Hid (sha l = dig (blks (l ++ padb l.length) ((l ++ padb l.length).length / 64))) := rfl
  obtain ⟨P, HP⟩ : ∃ P, Hid (l ++ padb l.length = P) := ⟨_, rfl⟩
  rw [HP.out] at hop H3 hPd hP1 hP0 HS
  obtain ⟨n, HNn⟩ : ∃ n, Hid (P.length / 64 = n) := ⟨_, rfl⟩
  rw [HNn.out] at hPd HS
  have HPd : Hid (P.length = 64 * n) := hPd
  obtain ⟨g, cap, rfl, hcap⟩ := hop.some hP0
  have Q3 : Hid (Own w3 w2.heap.size (.slice (some ⟨g, 0, none⟩) P.length cap) P) := hop
  obtain ⟨B, HB⟩ : ∃ B, Hid (w2.heap.size = B) := ⟨_, rfl⟩
  rw [HB.out] at hBN Q3
  clear hop hb3 hPd hPL O2 H2 L2 HLR
  go_wp2_with fail
  go_loopg [5] (n + 1) (fun k z wr => Hid (Below N w wr) ∧ ∃ (i q : Nat), i ≤ n ∧ k + i = n + 1 ∧ z = .int .i64 q ∧ Hid (q = 64 * i) ∧ Hid (Blk wr N 30 Z) ∧ Hid (Blk wr (N + 1) 99 (Ws (blks P i))) ∧ Hid (Own wr B (.slice (some ⟨g, 0, none⟩) P.length cap) P))
  case atStart => exact ⟨L3, 0, 0, by omega, by omega, rfl, rfl, O3, H3, Q3⟩
  case round =>
    clear O3 H3 L3 Q3
    obtain ⟨L3, i, q, hi, hk, rfl, HQ, O3, H3, Q3⟩ := hrel
    have hbl := blks_length P blk_length i
    by_cases hlt : i < n
    · have q1 : (q : Int) < (P.length : Int) := by have := HQ.out; have := HPd.out; omega
      have q2 : q + 64 ≤ P.length := by have := HQ.out; have := HPd.out; omega
      obtain ⟨q', HQ'⟩ : ∃ q', Hid (q' = q + 64) := ⟨_, rfl⟩
      have w1' : IntKind.i64.wrap ((q : Int) + 64) = (q' : Int) := (IntWalk.i64_in _ (by omega)).trans (by have := HQ'.out; omega)
      have hsl := slice_mid g P.length cap q q' (by have := HQ'.out; omega) (by have := HQ'.out; omega) (by omega)
      rw [show q' - q = 64 by have := HQ'.out; omega] at hsl
      obtain ⟨F, HF⟩ : ∃ F, Hid (Ws (blks P i) = F) := ⟨_, rfl⟩
      have hfl : F.length = 8 := by rw [← HF.out, Ws_length, hbl]
      rw [HF.out] at H3
      have hdr : wr.drew.rangeAt (N + 1) 0 F := H3.out.drew.range0
      have Hdr : Hid (({ wr with drawn := wr.drawn + 1 } : World).rangeAt (N + 1) 0 F) := hdr
      clear hdr
      go_wp2_with fail
      refine wp_region_still_tail 6 Tryd.mixed (by kernel_rfl) ?_
      simp only [List.take_succ_cons, List.take_zero, List.drop_succ_cons, List.drop_zero]
      refine wpStill_load_mid rfl 99 _ rfl (N + 1) 0 rfl F _ Hdr.out Tryd.underlying99 rfl (by rw [hfl]; exact Tryd.size99) ?_
      simp only [Act.put, List.setIfInBounds_toArray, List.set_cons_succ, List.set_cons_zero]
      repeat still_step
      refine wpStill_nil ?_
      go_wp2_with fail
      obtain ⟨wq, hwq⟩ : ∃ x, x = wr.drew := ⟨_, rfl⟩
      rw [← hwq]
      have O4 : Hid (Blk wq N 30 Z) := by rw [hwq]; exact O3
      have H4 : Hid (Blk wq (N + 1) 99 F) := by rw [hwq]; exact H3
      have L4 : Hid (Below N w wq) := (show Below _ _ _ by rw [hwq]; exact L3.out.drew)
      have Q4 : Hid (Own wq B (.slice (some ⟨g, 0, none⟩) P.length cap) P) := by rw [hwq]; exact Q3
      clear hwq Hdr O3 H3 L3 Q3
      have R4 : Hid (Rd wq (.slice (some ⟨g, q, none⟩) 64 (cap - q)) ((P.drop q).take 64)) := (show Rd _ _ _ from
        (Q4.out.rd.drop q (by omega) q (.inl (by omega))).take 64 (by omega))
      have hb64 : ((P.drop q).take 64).length = 64 := by simp; omega
      have cB := block_any _ ((P.drop q).take 64) (blks P i) hb64 hbl wq R4.out
      rw [HF.out] at cB
      refine cB.mono ?_
      clear cB
      rintro e w5 ⟨rfl, hb5⟩
      have O5 : Hid (Blk w5 N 30 Z) := O4.out.kept hb5
      have H5 : Hid (Blk w5 (N + 1) 99 F) := H4.out.kept hb5
      have L5 : Hid (Below N w w5) := L4.out.trans (hb5.mono (Nat.le_of_lt O4.out.lt))
      have Q5 : Hid (Own w5 B (.slice (some ⟨g, 0, none⟩) P.length cap) P) := Q4.out.kept hb5
      clear hb5 O4 H4 L4 Q4 R4
      have HG : Hid (blk (blks P i) ((P.drop q).take 64) = blks P (i + 1)) := (show _ = _ by rw [blks, HQ.out])
      rw [HG.out]
      obtain ⟨G, HGG⟩ : ∃ G, Hid (Ws (blks P (i + 1)) = G) := ⟨_, rfl⟩
      have hgl : G.length = 8 := by rw [← HGG.out, Ws_length]; exact blks_length P blk_length _
      have HG1 : Hid (∀ u ∈ G, u.oneCell' = true) := (show ∀ u ∈ G, _ by rw [← HGG.out]; exact Ws_one _)
      rw [HGG.out]
      have t5 : Hid (w5.there (N + 1) 0 8) := H5.out.there 0 8 (by omega)
      go_wp2_with (first
        | (refine wpList_store_mid rfl 99 _ _ rfl (N + 1) 0 G.toArray rfl rfl (by simpa [hgl] using t5.out) (by simpa [hgl] using Tryd.size99) (all_one HG1.out) ?_)
        | fail)
      go_roundg (gk - 1)
      case measure => omega
      case rel =>
        have bt := But.setCells (N + 1) G 0 w5
        refine ⟨L5.out.trans (bt.below (by omega) (Nat.le_of_lt O5.out.lt)), i + 1, q', by omega, by omega, rfl, (show _ = _ by have := HQ.out; have := HQ'.out; omega), O5.out.but bt (by omega), ?_, Q5.out.but bt (.inl hBN)⟩
        show Blk _ _ _ _
        have := H5.out.over G 0 (by omega)
        rw [over_all _ _ (by omega)] at this
        rw [HGG.out]
        exact this
    · obtain rfl : i = n := by omega
      have q1 : ¬ (q : Int) < (P.length : Int) := by have := HQ.out; have := HPd.out; omega
      clear Q3
      obtain ⟨h', HH⟩ : ∃ h', Hid (blks P i = h') := ⟨_, rfl⟩
      rw [HH.out] at H3 hbl HS
      obtain ⟨M, HM⟩ : ∃ M, Hid (wr.heap.size = M) := ⟨_, rfl⟩
      have HNM : Hid (N + 1 < M) := (show _ by rw [← HM.out]; exact H3.out.lt)
      have R3 : Hid ((wr.alloc (.cells Z.toArray 30 (0, 0))).rangeAt (N + 1) 0 (Ws h')) := (H3.out.alloc _).range0
      obtain ⟨w4, hw4⟩ : ∃ x, x = wr.alloc (.cells Z.toArray 30 (0, 0)) := ⟨_, rfl⟩
      have O4 : Hid (Blk w4 N 30 Z) := (show Blk _ _ _ _ by rw [hw4]; exact O3.out.alloc _)
      have D4 : Hid (Blk w4 M 30 (By (dz h' 0))) := (show Blk _ _ _ _ by rw [hw4, ← HM.out, show By (dz h' 0) = Z from HZ.out]; exact Blk.new wr 30 Z)
      have L4 : Hid (Below N w w4) := (show Below _ _ _ by rw [hw4]; exact L3.out.alloc (by have := HNM.out; rw [HM.out]; omega) _)
      go_upto_region 8 with fail
      rw [HM.out]
      change Code.wp _ _ _ _ (wr.alloc (.cells (By (List.replicate 32 0)).toArray 30 (0, 0)))
      rw [HZ.out, ← hw4]
      rw [← hw4] at R3
      clear hw4 O3 H3 L3
      go_wp2_with (first
        | (refine wpList_load_mid rfl 99 _ rfl (N + 1) 0 rfl (Ws h') _ R3.out Tryd.underlying99 rfl (by simpa [Ws_length, hbl] using Tryd.size99) ?_)
        | fail)
      go_loopg [26] 9 (fun g x wr => Hid (Below N w wr) ∧ ∃ i : Nat, i ≤ 8 ∧ g + i = 9 ∧ x = .int .i64 i ∧ Hid (Blk wr N 30 Z) ∧ Hid (Blk wr M 30 (By (dz h' i))))
      case atStart => exact ⟨L4, 0, by omega, by omega, rfl, O4, D4⟩
      case round =>
        clear O4 D4 L4 R3
        obtain ⟨L4, i, hi, hgk, rfl, O4, D4⟩ := hrel
        have hdl' := dz_length h' hbl i hi
        by_cases hlt : i < 8
        · have q1 : (i : Int) < 8 := by omega
          have hix := index_row Tryd.underlying99 Tryd.underlying98 Tryd.size98 (Ws h') i _ hlt (Ws_get (by omega))
          have c0 := D4.out.cell (By_get (l := dz h' i) (j := 4 * i) (by omega))
          have c1 := D4.out.cell (By_get (l := dz h' i) (j := 4 * i + 1) (by omega))
          have c2 := D4.out.cell (By_get (l := dz h' i) (j := 4 * i + 2) (by omega))
          have c3 := D4.out.cell (By_get (l := dz h' i) (j := 4 * i + 3) (by omega))
          have z0 := D4.out.frozen (4 * i)
          have z1 := D4.out.frozen (4 * i + 1)
          have z2 := D4.out.frozen (4 * i + 2)
          have z3 := D4.out.frozen (4 * i + 3)
          have q4 : (4 : Int) * i + 3 < 32 := by omega
          go_wp2
          have HE : Hid _ := dz_set h' hbl i hlt
          have g0 := u8_top (gW h' i)
          have g1 := u8_two (gW h' i)
          have g2 := u8_three (gW h' i)
          have g3 := u8_four (gW h' i)
          go_roundg (gk - 1)
          case measure => omega
          case rel =>
            rw [g0, g1, g2, g3]
            have hNM := HNM.out
            have hwr := D4.out.lt
            refine ⟨L4.out.trans (((((But.setCell M _ _ _).trans (But.setCell M _ _ _)).trans (But.setCell M _ _ _)).trans (But.setCell M _ _ _)).below (by omega) (by omega)), i + 1, by omega, by omega, by go_num, (((O4.out.set_other (by omega) _ _).set_other (by omega) _ _).set_other (by omega) _ _).set_other (by omega) _ _, ?_⟩
            show Blk _ _ _ _
            have := (((D4.out.set (4 * i) (.int .u8 ((UInt8.ofNat ((gW h' i).toNat / 2 ^ 24)).toNat : Int))).set (4 * i + 1) (.int .u8 ((UInt8.ofNat ((gW h' i).toNat / 2 ^ 16)).toNat : Int))).set (4 * i + 2) (.int .u8 ((UInt8.ofNat ((gW h' i).toNat / 2 ^ 8)).toNat : Int))).set (4 * i + 3) (.int .u8 ((UInt8.ofNat (gW h' i).toNat).toNat : Int))
            rw [By_set, By_set, By_set, By_set, HE.out] at this
            exact this
        · obtain rfl : i = 8 := by omega
          have HDZ : Hid (dz h' 8 = sha l) := (show _ = _ by rw [HS.out, dz, List.take_of_length_le (by omega)]; simp)
          have hl32 : (sha l).length = 32 := by rw [← HDZ.out]; exact dz_length h' hbl 8 (by omega)
          obtain ⟨E, HE⟩ : ∃ E, Hid (By (sha l) = E) := ⟨_, rfl⟩
          have hel : E.length = 32 := by rw [← HE.out, By_length, hl32]
          have HE1 : Hid (∀ u ∈ E, u.oneCell' = true) := (show ∀ u ∈ E, _ by rw [← HE.out]; exact By_one _)
          have r0 : Hid (wr.rangeAt M 0 E) := (show World.rangeAt _ _ _ _ by rw [← HE.out, ← HDZ.out]; exact D4.out.range0)
          have t0 : Hid (wr.there N 0 32) := O4.out.there 0 32 (by omega)
          have HB9 : Hid (Blk (wr.setCells N 0 E) N 30 E) := (show Blk _ _ _ _ by
            have := O4.out.over E 0 (by omega)
            rw [over_all _ _ (by omega)] at this
            exact this)
          have HL9 : Hid (Below N w (wr.setCells N 0 E)) := L4.out.trans ((But.setCells N E 0 wr).below (Nat.le_refl _) (Nat.le_of_lt O4.out.lt))
          go_wp2_with (first
            | (refine wpList_load_mid rfl 30 _ rfl M 0 rfl E _ r0.out Tryd.underlying30 rfl (by rw [hel]; exact Tryd.sizeT30) ?_)
            | (refine wpList_store_mid rfl 30 _ _ rfl N 0 E.toArray rfl rfl (by simpa [hel] using t0.out) (by simpa [hel] using Tryd.sizeT30) (all_one HE1.out) ?_)
            | fail)
          refine bodyPost_ret (results_cell_row rfl _ _ N 30 _ (0, 0) _ rfl HB9.out Tryd.underlying30 rfl (by simpa [hel] using Tryd.sizeT30)) rfl ⟨by rw [HE.out], ?_⟩
          rw [HN.out]
          exact HL9.out
end Go.Proofs.YtmicmbjbclkbjaaDoor
