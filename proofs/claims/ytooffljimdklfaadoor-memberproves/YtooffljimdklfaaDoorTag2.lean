/-
  tag.Node, tag.Item, tag.Fork and the reference's, indenturelaw04.lives: what the calls do.
-/
import Derived.Test.YtooffljimdklfaaDoorTag1
namespace Go.Proofs.YtooffljimdklfaaDoor
open Go.RowKit
set_option maxHeartbeats 1000000 in
set_option maxRecDepth 100000 in
theorem item_any (x y : List UInt8) (hx : x.length = 32) (hy : y.length = 32) (w : World) (hT : Tabs w) :
    Calls Tryd.prog 52 #[.agg (By x).toArray, .agg (By y).toArray] w fun e w' => e = .returned (.agg (By (tg 3 [x, y])).toArray) ∧ Below w.heap.size w w' := by
  have HT : Hid (Tabs w) := hT
  clear hT
  obtain ⟨N, HN⟩ : ∃ N, Hid (w.heap.size = N) := ⟨_, rfl⟩
  have HNT : Hid (2 ≤ N) := (show _ by rw [← HN.out]; exact HT.out.size)
  go_enter Tryd.func52, Tryd.ntmps52
  go_upto_region 1 with fail
  obtain ⟨w1, hw1⟩ : ∃ z, z = ((w.alloc (.cells (By x).toArray 24 (0, 0))).alloc (.cells (By y).toArray 24 (0, 0))).alloc (.cells (By (List.replicate 32 0)).toArray 24 (0, 0)) := ⟨_, rfl⟩
  change Code.wp _ _ _ _ (((w.alloc (.cells (By x).toArray 24 (0, 0))).alloc (.cells (By y).toArray 24 (0, 0))).alloc (.cells (By (List.replicate 32 0)).toArray 24 (0, 0)))
  rw [← hw1, HN.out]
  obtain ⟨BX, BY, BZ, LB⟩ := boxes HN hw1
  clear hw1
  have HT1 : Tabs w1 := HT.out.kept (LB.mono HNT.out)
  refine wp_region_tail Tryd.mixed (KS (fun i => match i with | 0 => .rd (x) | 1 => .rd (y) | 2 => .rows ([x, y]) | 3 => .val (.agg (By (tg 3 [x, y])).toArray) | _ => .free)) 9 rfl (by decide +kernel) 4 _ rfl (by decide +kernel) (KS_mono _) ?_ ?_
  · refine AllFrom.cons (fun a' w' hg hk hd => ?_) (AllFrom.cons (fun a' w' hg hk hd => ?_) (AllFrom.cons (fun a' w' hg hk hd => ?_) (AllFrom.cons (fun a' w' hg hk hd => ?_) AllFrom.nil)))
    · -- 0: Op.slice 24 (Operand.tmp 2) none none none
      intro Q
      have e2 : a'.eval (.tmp 2) = .pointer (some ⟨N, 0, none⟩) := hk.at 2 (by decide +kernel)
      exact wp_value _ (by simp only [execOp, e2, slice24, Sem.run_bind, Result.andThen_ok, Option.map_none]; rfl) (KS_mkr rfl (rd_blk (BX.kept hg) hx))
    · -- 1: Op.slice 24 (Operand.tmp 3) none none none
      intro Q
      have e3 : a'.eval (.tmp 3) = .pointer (some ⟨N + 1, 0, none⟩) := hk.at 3 (by decide +kernel)
      exact wp_value _ (by simp only [execOp, e3, slice24, Sem.run_bind, Result.andThen_ok, Option.map_none]; rfl) (KS_mkr rfl (rd_blk (BY.kept hg) hy))
    · -- 2: Op.buildSlice 33 2 #[(0, Operand.tmp 5), (1, Operand.tmp 6)]
      intro Q
      have r5 : Rd w' (a'.eval (.tmp 5)) (x) := KS_rd (hd.val 0 5 (by decide +kernel)) rfl
      have r6 : Rd w' (a'.eval (.tmp 6)) (y) := KS_rd (hd.val 1 6 (by decide +kernel)) rfl
      obtain ⟨a5, c5, f5⟩ := r5.slice
      obtain ⟨a6, c6, f6⟩ := r6.slice
      rw [f5] at r5
      rw [f6] at r6
      exact wp_grow _ _ (by simp only [execOp, List.map_toArray, List.map_cons, List.map_nil, f5, f6]; go_simp) ((Below.refl _ _).alloc (Nat.le_refl _) _) (KS_mkR rfl (rows_list w' [_, _] _ ⟨r5, ⟨r6, True.intro⟩⟩))
    · -- 3: Op.call ( callee := Callee.value (Operand.func 28), args := #[Operand.
      intro Q
      have r7 : RdR w' (a'.eval (.tmp 7)) ([x, y]) := KS_rows (hd.val 2 7 (by decide +kernel)) rfl
      refine wp_call 55 _ (run_enter 55 _ _ rfl (by kernel_rfl)) ?_
      simp only [List.map_toArray, List.map_nil, List.map_cons]
      refine (hashed_any 3 _ [x, y] _ (HT1.gr hg) r7 (by simp [hx, hy]) (by simp)).mono ?_
      rintro e w5 ⟨rfl, hb5⟩
      exact ⟨_, rfl, KS_mkv rfl rfl, hb5⟩
  · intro a' w' hsz hdf hk hall hg
    have ev : a'.eval (.tmp 8) = .agg (By (tg 3 [x, y])).toArray := KS_val (hall 3 _ 8 (by decide) rfl rfl) rfl
    have ep : a'.eval (.tmp 4) = .pointer (some ⟨N + 1 + 1, 0, none⟩) := hk.at 4 (by decide +kernel)
    have hX : (tg 3 [x, y]).length = 32 := sha_length _
    have O1 : Blk w' (N + 1 + 1) 24 (By (List.replicate 32 0)) := BZ.kept hg
    have L1 : Below N w w' := LB.trans (Below.mono hg (Nat.le_of_lt (Nat.lt_of_lt_of_le (by omega) (Nat.le_of_lt BZ.lt))))
    have t0 := O1.there 0 32 (by rw [By_length]; simp)
    obtain ⟨X, HX⟩ : ∃ X, Hid (tg 3 [x, y] = X) := ⟨_, rfl⟩
    rw [HX.out] at hX ev
    refine wp_store_mid 24 _ _ rfl (N + 1 + 1) 0 _ ep ev (by simpa [By_length, hX] using t0) (by simpa [By_length, hX] using Tryd.size24) (all_one (By_one _)) ?_
    have hB := Blk.over (By X) O1 0 (by rw [By_length, By_length, hX]; simp)
    rw [over_all _ _ (by rw [By_length, By_length, hX]; simp)] at hB
    go_wp2
    refine bodyPost_ret (results_cell_row rfl _ _ (N + 1 + 1) 24 _ (0, 0) _ ?_ hB Tryd.underlying24 rfl (by simpa [By_length, hX] using Tryd.size24)) ?_ ⟨by rw [HX.out], ?_⟩
    · exact ep
    · exact hdf
    · rw [HN.out]
      exact L1.trans ((But.setCells (N + 1 + 1) _ 0 w').below (by omega) (by have := O1.lt; omega))

set_option maxHeartbeats 1000000 in
set_option maxRecDepth 100000 in
theorem refItem_any (x y : List UInt8) (hx : x.length = 32) (hy : y.length = 32) (w : World) :
    Calls Tryd.prog 39 #[.agg (By x).toArray, .agg (By y).toArray] w fun e w' => e = .returned (.agg (By (tg 3 [x, y])).toArray) ∧ Below w.heap.size w w' := by
  obtain ⟨N, HN⟩ : ∃ N, Hid (w.heap.size = N) := ⟨_, rfl⟩
  go_enter Tryd.func39, Tryd.ntmps39
  go_upto_region 1 with fail
  obtain ⟨w1, hw1⟩ : ∃ z, z = ((w.alloc (.cells (By x).toArray 24 (0, 0))).alloc (.cells (By y).toArray 24 (0, 0))).alloc (.cells (By (List.replicate 32 0)).toArray 24 (0, 0)) := ⟨_, rfl⟩
  change Code.wp _ _ _ _ (((w.alloc (.cells (By x).toArray 24 (0, 0))).alloc (.cells (By y).toArray 24 (0, 0))).alloc (.cells (By (List.replicate 32 0)).toArray 24 (0, 0)))
  rw [← hw1, HN.out]
  obtain ⟨BX, BY, BZ, LB⟩ := boxes HN hw1
  clear hw1
  refine wp_region_tail Tryd.mixed (KS (fun i => match i with | 0 => .rd (x) | 1 => .rd (y) | 2 => .rows ([x, y]) | 3 => .val (.agg (By (tg 3 [x, y])).toArray) | _ => .free)) 9 rfl (by decide +kernel) 4 _ rfl (by decide +kernel) (KS_mono _) ?_ ?_
  · refine AllFrom.cons (fun a' w' hg hk hd => ?_) (AllFrom.cons (fun a' w' hg hk hd => ?_) (AllFrom.cons (fun a' w' hg hk hd => ?_) (AllFrom.cons (fun a' w' hg hk hd => ?_) AllFrom.nil)))
    · -- 0: Op.slice 24 (Operand.tmp 2) none none none
      intro Q
      have e2 : a'.eval (.tmp 2) = .pointer (some ⟨N, 0, none⟩) := hk.at 2 (by decide +kernel)
      exact wp_value _ (by simp only [execOp, e2, slice24, Sem.run_bind, Result.andThen_ok, Option.map_none]; rfl) (KS_mkr rfl (rd_blk (BX.kept hg) hx))
    · -- 1: Op.slice 24 (Operand.tmp 3) none none none
      intro Q
      have e3 : a'.eval (.tmp 3) = .pointer (some ⟨N + 1, 0, none⟩) := hk.at 3 (by decide +kernel)
      exact wp_value _ (by simp only [execOp, e3, slice24, Sem.run_bind, Result.andThen_ok, Option.map_none]; rfl) (KS_mkr rfl (rd_blk (BY.kept hg) hy))
    · -- 2: Op.buildSlice 33 2 #[(0, Operand.tmp 5), (1, Operand.tmp 6)]
      intro Q
      have r5 : Rd w' (a'.eval (.tmp 5)) (x) := KS_rd (hd.val 0 5 (by decide +kernel)) rfl
      have r6 : Rd w' (a'.eval (.tmp 6)) (y) := KS_rd (hd.val 1 6 (by decide +kernel)) rfl
      obtain ⟨a5, c5, f5⟩ := r5.slice
      obtain ⟨a6, c6, f6⟩ := r6.slice
      rw [f5] at r5
      rw [f6] at r6
      exact wp_grow _ _ (by simp only [execOp, List.map_toArray, List.map_cons, List.map_nil, f5, f6]; go_simp) ((Below.refl _ _).alloc (Nat.le_refl _) _) (KS_mkR rfl (rows_list w' [_, _] _ ⟨r5, ⟨r6, True.intro⟩⟩))
    · -- 3: Op.call ( callee := Callee.value (Operand.func 29), args := #[Operand.
      intro Q
      have r7 : RdR w' (a'.eval (.tmp 7)) ([x, y]) := KS_rows (hd.val 2 7 (by decide +kernel)) rfl
      refine wp_call 46 _ (run_enter 46 _ _ rfl (by kernel_rfl)) ?_
      simp only [List.map_toArray, List.map_nil, List.map_cons]
      refine (refsum_any 3 _ [x, y] _ r7 (by simp [hx, hy]) (by simp)).mono ?_
      rintro e w5 ⟨rfl, hb5⟩
      exact ⟨_, rfl, KS_mkv rfl rfl, hb5⟩
  · intro a' w' hsz hdf hk hall hg
    have ev : a'.eval (.tmp 8) = .agg (By (tg 3 [x, y])).toArray := KS_val (hall 3 _ 8 (by decide) rfl rfl) rfl
    have ep : a'.eval (.tmp 4) = .pointer (some ⟨N + 1 + 1, 0, none⟩) := hk.at 4 (by decide +kernel)
    have hX : (tg 3 [x, y]).length = 32 := sha_length _
    have O1 : Blk w' (N + 1 + 1) 24 (By (List.replicate 32 0)) := BZ.kept hg
    have L1 : Below N w w' := LB.trans (Below.mono hg (Nat.le_of_lt (Nat.lt_of_lt_of_le (by omega) (Nat.le_of_lt BZ.lt))))
    have t0 := O1.there 0 32 (by rw [By_length]; simp)
    obtain ⟨X, HX⟩ : ∃ X, Hid (tg 3 [x, y] = X) := ⟨_, rfl⟩
    rw [HX.out] at hX ev
    refine wp_store_mid 24 _ _ rfl (N + 1 + 1) 0 _ ep ev (by simpa [By_length, hX] using t0) (by simpa [By_length, hX] using Tryd.size24) (all_one (By_one _)) ?_
    have hB := Blk.over (By X) O1 0 (by rw [By_length, By_length, hX]; simp)
    rw [over_all _ _ (by rw [By_length, By_length, hX]; simp)] at hB
    go_wp2
    refine bodyPost_ret (results_cell_row rfl _ _ (N + 1 + 1) 24 _ (0, 0) _ ?_ hB Tryd.underlying24 rfl (by simpa [By_length, hX] using Tryd.size24)) ?_ ⟨by rw [HX.out], ?_⟩
    · exact ep
    · exact hdf
    · rw [HN.out]
      exact L1.trans ((But.setCells (N + 1 + 1) _ 0 w').below (by omega) (by have := O1.lt; omega))

set_option maxHeartbeats 1000000 in
set_option maxRecDepth 100000 in
theorem fork_any (bit : Int) (x y : List UInt8) (hx : x.length = 32) (hy : y.length = 32) (w : World) (hT : Tabs w) :
    Calls Tryd.prog 54 #[.int .i64 bit, .agg (By x).toArray, .agg (By y).toArray] w fun e w' => e = .returned (.agg (By (tg 4 [[UInt8.ofNat (bit % 256).toNat], x, y])).toArray) ∧ Below w.heap.size w w' := by
  have HT : Hid (Tabs w) := hT
  clear hT
  have HBit : Hid (IntKind.u8.wrap bit = ((UInt8.ofNat (bit % 256).toNat).toNat : Int)) := u8_of_int bit
  generalize UInt8.ofNat (bit % 256).toNat = u at *
  obtain ⟨N, HN⟩ : ∃ N, Hid (w.heap.size = N) := ⟨_, rfl⟩
  have HNT : Hid (2 ≤ N) := (show _ by rw [← HN.out]; exact HT.out.size)
  go_enter Tryd.func54, Tryd.ntmps54
  go_upto_region 1 with fail
  obtain ⟨w1, hw1⟩ : ∃ z, z = ((w.alloc (.cells (By x).toArray 24 (0, 0))).alloc (.cells (By y).toArray 24 (0, 0))).alloc (.cells (By (List.replicate 32 0)).toArray 24 (0, 0)) := ⟨_, rfl⟩
  change Code.wp _ _ _ _ (((w.alloc (.cells (By x).toArray 24 (0, 0))).alloc (.cells (By y).toArray 24 (0, 0))).alloc (.cells (By (List.replicate 32 0)).toArray 24 (0, 0)))
  rw [← hw1, HN.out]
  obtain ⟨BX, BY, BZ, LB⟩ := boxes HN hw1
  clear hw1
  have HT1 : Tabs w1 := HT.out.kept (LB.mono HNT.out)
  refine wp_region_tail Tryd.mixed (KS (fun i => match i with | 0 => .val (.int .i64 bit) | 1 => .val (.int .u8 (u.toNat : Int)) | 2 => .rd ([u]) | 3 => .rd (x) | 4 => .rd (y) | 5 => .rows ([[u], x, y]) | 6 => .val (.agg (By (tg 4 [[u], x, y])).toArray) | _ => .free)) 14 rfl (by decide +kernel) 7 _ rfl (by decide +kernel) (KS_mono _) ?_ ?_
  · refine AllFrom.cons (fun a' w' hg hk hd => ?_) (AllFrom.cons (fun a' w' hg hk hd => ?_) (AllFrom.cons (fun a' w' hg hk hd => ?_) (AllFrom.cons (fun a' w' hg hk hd => ?_) (AllFrom.cons (fun a' w' hg hk hd => ?_) (AllFrom.cons (fun a' w' hg hk hd => ?_) (AllFrom.cons (fun a' w' hg hk hd => ?_) AllFrom.nil))))))
    · -- 0: Op.move (Operand.tmp 0)
      intro Q
      have e0 : a'.eval (.tmp 0) = .int .i64 bit := hk.at 0 (by decide +kernel)
      exact wp_value _ (by simp only [execOp, e0]; rfl) (KS_mkv rfl rfl)
    · -- 1: Op.convert 3 5 (Operand.tmp 7)
      intro Q
      have e7 : a'.eval (.tmp 7) = .int .i64 bit := KS_val (hd.val 0 7 (by decide +kernel)) rfl
      clear hd hk
      exact wp_value (.int .u8 (u.toNat : Int)) (by simp only [execOp, e7]; have hb := HBit.out; go_simp) (KS_mkv rfl rfl)
    · -- 2: Op.buildSlice 22 1 #[(0, Operand.tmp 8)]
      intro Q
      have e8 : a'.eval (.tmp 8) = .int .u8 (u.toNat : Int) := KS_val (hd.val 1 8 (by decide +kernel)) rfl
      clear hd hk
      exact wp_grow _ _ (by simp only [execOp, List.map_toArray, List.map_cons, List.map_nil, e8]; go_simp) ((Below.refl _ _).alloc (Nat.le_refl _) _) (KS_mkr rfl (own_one _ _ (Nat.le_refl _) u).rd)
    · -- 3: Op.slice 24 (Operand.tmp 4) none none none
      intro Q
      have e4 : a'.eval (.tmp 4) = .pointer (some ⟨N, 0, none⟩) := hk.at 4 (by decide +kernel)
      exact wp_value _ (by simp only [execOp, e4, slice24, Sem.run_bind, Result.andThen_ok, Option.map_none]; rfl) (KS_mkr rfl (rd_blk (BX.kept hg) hx))
    · -- 4: Op.slice 24 (Operand.tmp 5) none none none
      intro Q
      have e5 : a'.eval (.tmp 5) = .pointer (some ⟨N + 1, 0, none⟩) := hk.at 5 (by decide +kernel)
      exact wp_value _ (by simp only [execOp, e5, slice24, Sem.run_bind, Result.andThen_ok, Option.map_none]; rfl) (KS_mkr rfl (rd_blk (BY.kept hg) hy))
    · -- 5: Op.buildSlice 33 3 #[(0, Operand.tmp 9), (1, Operand.tmp 10), (2, Oper
      intro Q
      have r9 : Rd w' (a'.eval (.tmp 9)) ([u]) := KS_rd (hd.val 2 9 (by decide +kernel)) rfl
      have r10 : Rd w' (a'.eval (.tmp 10)) (x) := KS_rd (hd.val 3 10 (by decide +kernel)) rfl
      have r11 : Rd w' (a'.eval (.tmp 11)) (y) := KS_rd (hd.val 4 11 (by decide +kernel)) rfl
      obtain ⟨a9, c9, f9⟩ := r9.slice
      obtain ⟨a10, c10, f10⟩ := r10.slice
      obtain ⟨a11, c11, f11⟩ := r11.slice
      rw [f9] at r9
      rw [f10] at r10
      rw [f11] at r11
      exact wp_grow _ _ (by simp only [execOp, List.map_toArray, List.map_cons, List.map_nil, f9, f10, f11]; go_simp) ((Below.refl _ _).alloc (Nat.le_refl _) _) (KS_mkR rfl (rows_list w' [_, _, _] _ ⟨r9, ⟨r10, ⟨r11, True.intro⟩⟩⟩))
    · -- 6: Op.call ( callee := Callee.value (Operand.func 28), args := #[Operand.
      intro Q
      have r12 : RdR w' (a'.eval (.tmp 12)) ([[u], x, y]) := KS_rows (hd.val 5 12 (by decide +kernel)) rfl
      refine wp_call 55 _ (run_enter 55 _ _ rfl (by kernel_rfl)) ?_
      simp only [List.map_toArray, List.map_nil, List.map_cons]
      refine (hashed_any 4 _ [[u], x, y] _ (HT1.gr hg) r12 (by simp [hx, hy]) (by simp)).mono ?_
      rintro e w5 ⟨rfl, hb5⟩
      exact ⟨_, rfl, KS_mkv rfl rfl, hb5⟩
  · intro a' w' hsz hdf hk hall hg
    have ev : a'.eval (.tmp 13) = .agg (By (tg 4 [[u], x, y])).toArray := KS_val (hall 6 _ 13 (by decide) rfl rfl) rfl
    have ep : a'.eval (.tmp 6) = .pointer (some ⟨N + 1 + 1, 0, none⟩) := hk.at 6 (by decide +kernel)
    have hX : (tg 4 [[u], x, y]).length = 32 := sha_length _
    have O1 : Blk w' (N + 1 + 1) 24 (By (List.replicate 32 0)) := BZ.kept hg
    have L1 : Below N w w' := LB.trans (Below.mono hg (Nat.le_of_lt (Nat.lt_of_lt_of_le (by omega) (Nat.le_of_lt BZ.lt))))
    have t0 := O1.there 0 32 (by rw [By_length]; simp)
    obtain ⟨X, HX⟩ : ∃ X, Hid (tg 4 [[u], x, y] = X) := ⟨_, rfl⟩
    rw [HX.out] at hX ev
    refine wp_store_mid 24 _ _ rfl (N + 1 + 1) 0 _ ep ev (by simpa [By_length, hX] using t0) (by simpa [By_length, hX] using Tryd.size24) (all_one (By_one _)) ?_
    have hB := Blk.over (By X) O1 0 (by rw [By_length, By_length, hX]; simp)
    rw [over_all _ _ (by rw [By_length, By_length, hX]; simp)] at hB
    go_wp2
    refine bodyPost_ret (results_cell_row rfl _ _ (N + 1 + 1) 24 _ (0, 0) _ ?_ hB Tryd.underlying24 rfl (by simpa [By_length, hX] using Tryd.size24)) ?_ ⟨by rw [HX.out], ?_⟩
    · exact ep
    · exact hdf
    · rw [HN.out]
      exact L1.trans ((But.setCells (N + 1 + 1) _ 0 w').below (by omega) (by have := O1.lt; omega))

set_option maxHeartbeats 1000000 in
set_option maxRecDepth 100000 in
theorem refFork_any (bit : Int) (x y : List UInt8) (hx : x.length = 32) (hy : y.length = 32) (w : World) :
    Calls Tryd.prog 40 #[.int .i64 bit, .agg (By x).toArray, .agg (By y).toArray] w fun e w' => e = .returned (.agg (By (tg 4 [[UInt8.ofNat (bit % 256).toNat], x, y])).toArray) ∧ Below w.heap.size w w' := by
  have HBit : Hid (IntKind.u8.wrap bit = ((UInt8.ofNat (bit % 256).toNat).toNat : Int)) := u8_of_int bit
  generalize UInt8.ofNat (bit % 256).toNat = u at *
  obtain ⟨N, HN⟩ : ∃ N, Hid (w.heap.size = N) := ⟨_, rfl⟩
  go_enter Tryd.func40, Tryd.ntmps40
  go_upto_region 1 with fail
  obtain ⟨w1, hw1⟩ : ∃ z, z = ((w.alloc (.cells (By x).toArray 24 (0, 0))).alloc (.cells (By y).toArray 24 (0, 0))).alloc (.cells (By (List.replicate 32 0)).toArray 24 (0, 0)) := ⟨_, rfl⟩
  change Code.wp _ _ _ _ (((w.alloc (.cells (By x).toArray 24 (0, 0))).alloc (.cells (By y).toArray 24 (0, 0))).alloc (.cells (By (List.replicate 32 0)).toArray 24 (0, 0)))
  rw [← hw1, HN.out]
  obtain ⟨BX, BY, BZ, LB⟩ := boxes HN hw1
  clear hw1
  refine wp_region_tail Tryd.mixed (KS (fun i => match i with | 0 => .val (.int .i64 bit) | 1 => .val (.int .u8 (u.toNat : Int)) | 2 => .rd ([u]) | 3 => .rd (x) | 4 => .rd (y) | 5 => .rows ([[u], x, y]) | 6 => .val (.agg (By (tg 4 [[u], x, y])).toArray) | _ => .free)) 14 rfl (by decide +kernel) 7 _ rfl (by decide +kernel) (KS_mono _) ?_ ?_
  · refine AllFrom.cons (fun a' w' hg hk hd => ?_) (AllFrom.cons (fun a' w' hg hk hd => ?_) (AllFrom.cons (fun a' w' hg hk hd => ?_) (AllFrom.cons (fun a' w' hg hk hd => ?_) (AllFrom.cons (fun a' w' hg hk hd => ?_) (AllFrom.cons (fun a' w' hg hk hd => ?_) (AllFrom.cons (fun a' w' hg hk hd => ?_) AllFrom.nil))))))
    · -- 0: Op.move (Operand.tmp 0)
      intro Q
      have e0 : a'.eval (.tmp 0) = .int .i64 bit := hk.at 0 (by decide +kernel)
      exact wp_value _ (by simp only [execOp, e0]; rfl) (KS_mkv rfl rfl)
    · -- 1: Op.convert 3 5 (Operand.tmp 7)
      intro Q
      have e7 : a'.eval (.tmp 7) = .int .i64 bit := KS_val (hd.val 0 7 (by decide +kernel)) rfl
      clear hd hk
      exact wp_value (.int .u8 (u.toNat : Int)) (by simp only [execOp, e7]; have hb := HBit.out; go_simp) (KS_mkv rfl rfl)
    · -- 2: Op.buildSlice 22 1 #[(0, Operand.tmp 8)]
      intro Q
      have e8 : a'.eval (.tmp 8) = .int .u8 (u.toNat : Int) := KS_val (hd.val 1 8 (by decide +kernel)) rfl
      clear hd hk
      exact wp_grow _ _ (by simp only [execOp, List.map_toArray, List.map_cons, List.map_nil, e8]; go_simp) ((Below.refl _ _).alloc (Nat.le_refl _) _) (KS_mkr rfl (own_one _ _ (Nat.le_refl _) u).rd)
    · -- 3: Op.slice 24 (Operand.tmp 4) none none none
      intro Q
      have e4 : a'.eval (.tmp 4) = .pointer (some ⟨N, 0, none⟩) := hk.at 4 (by decide +kernel)
      exact wp_value _ (by simp only [execOp, e4, slice24, Sem.run_bind, Result.andThen_ok, Option.map_none]; rfl) (KS_mkr rfl (rd_blk (BX.kept hg) hx))
    · -- 4: Op.slice 24 (Operand.tmp 5) none none none
      intro Q
      have e5 : a'.eval (.tmp 5) = .pointer (some ⟨N + 1, 0, none⟩) := hk.at 5 (by decide +kernel)
      exact wp_value _ (by simp only [execOp, e5, slice24, Sem.run_bind, Result.andThen_ok, Option.map_none]; rfl) (KS_mkr rfl (rd_blk (BY.kept hg) hy))
    · -- 5: Op.buildSlice 33 3 #[(0, Operand.tmp 9), (1, Operand.tmp 10), (2, Oper
      intro Q
      have r9 : Rd w' (a'.eval (.tmp 9)) ([u]) := KS_rd (hd.val 2 9 (by decide +kernel)) rfl
      have r10 : Rd w' (a'.eval (.tmp 10)) (x) := KS_rd (hd.val 3 10 (by decide +kernel)) rfl
      have r11 : Rd w' (a'.eval (.tmp 11)) (y) := KS_rd (hd.val 4 11 (by decide +kernel)) rfl
      obtain ⟨a9, c9, f9⟩ := r9.slice
      obtain ⟨a10, c10, f10⟩ := r10.slice
      obtain ⟨a11, c11, f11⟩ := r11.slice
      rw [f9] at r9
      rw [f10] at r10
      rw [f11] at r11
      exact wp_grow _ _ (by simp only [execOp, List.map_toArray, List.map_cons, List.map_nil, f9, f10, f11]; go_simp) ((Below.refl _ _).alloc (Nat.le_refl _) _) (KS_mkR rfl (rows_list w' [_, _, _] _ ⟨r9, ⟨r10, ⟨r11, True.intro⟩⟩⟩))
    · -- 6: Op.call ( callee := Callee.value (Operand.func 29), args := #[Operand.
      intro Q
      have r12 : RdR w' (a'.eval (.tmp 12)) ([[u], x, y]) := KS_rows (hd.val 5 12 (by decide +kernel)) rfl
      refine wp_call 46 _ (run_enter 46 _ _ rfl (by kernel_rfl)) ?_
      simp only [List.map_toArray, List.map_nil, List.map_cons]
      refine (refsum_any 4 _ [[u], x, y] _ r12 (by simp [hx, hy]) (by simp)).mono ?_
      rintro e w5 ⟨rfl, hb5⟩
      exact ⟨_, rfl, KS_mkv rfl rfl, hb5⟩
  · intro a' w' hsz hdf hk hall hg
    have ev : a'.eval (.tmp 13) = .agg (By (tg 4 [[u], x, y])).toArray := KS_val (hall 6 _ 13 (by decide) rfl rfl) rfl
    have ep : a'.eval (.tmp 6) = .pointer (some ⟨N + 1 + 1, 0, none⟩) := hk.at 6 (by decide +kernel)
    have hX : (tg 4 [[u], x, y]).length = 32 := sha_length _
    have O1 : Blk w' (N + 1 + 1) 24 (By (List.replicate 32 0)) := BZ.kept hg
    have L1 : Below N w w' := LB.trans (Below.mono hg (Nat.le_of_lt (Nat.lt_of_lt_of_le (by omega) (Nat.le_of_lt BZ.lt))))
    have t0 := O1.there 0 32 (by rw [By_length]; simp)
    obtain ⟨X, HX⟩ : ∃ X, Hid (tg 4 [[u], x, y] = X) := ⟨_, rfl⟩
    rw [HX.out] at hX ev
    refine wp_store_mid 24 _ _ rfl (N + 1 + 1) 0 _ ep ev (by simpa [By_length, hX] using t0) (by simpa [By_length, hX] using Tryd.size24) (all_one (By_one _)) ?_
    have hB := Blk.over (By X) O1 0 (by rw [By_length, By_length, hX]; simp)
    rw [over_all _ _ (by rw [By_length, By_length, hX]; simp)] at hB
    go_wp2
    refine bodyPost_ret (results_cell_row rfl _ _ (N + 1 + 1) 24 _ (0, 0) _ ?_ hB Tryd.underlying24 rfl (by simpa [By_length, hX] using Tryd.size24)) ?_ ⟨by rw [HX.out], ?_⟩
    · exact ep
    · exact hdf
    · rw [HN.out]
      exact L1.trans ((But.setCells (N + 1 + 1) _ 0 w').below (by omega) (by have := O1.lt; omega))
end Go.Proofs.YtooffljimdklfaaDoor
