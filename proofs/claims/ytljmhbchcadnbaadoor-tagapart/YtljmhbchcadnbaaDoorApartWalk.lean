/-
  indenturelaw04.TagApart: the walk.
-/
import Derived.Test.YtljmhbchcadnbaaDoorTag3
namespace Go.Proofs.YtljmhbchcadnbaaDoor
open Go.RowKit
theorem slice_rows (b i : Nat) (hi : i ≤ 7) (W : World) : (Instr.sliceAt 33 (.slice (some ⟨b, 0, none⟩) 7 7) none (some (.int .i64 (i : Int))) none).run Tryd.prog W = .ok (.slice (some ⟨b, 0, none⟩) i 7) W := by
  have hcn : (i : Int) ≤ 7 := by omega
  have hsz : (Tryd.prog.info? 22).map (·.size) = some 1 := by kernel_rfl
  cases hq : Tryd.prog.info? 22 with
  | none => simp [hq] at hsz
  | some j => simp [Instr.sliceAt, Instr.slice, run_underlying Tryd.underlying33, Instr.sliceBounds, run_sliceBound, hcn, sizeOf, typeInfo, hq, Addr.add_mid]
set_option maxHeartbeats 4000000 in
set_option maxRecDepth 100000 in
theorem tagApart_any (x y : List UInt8) (s t : Value) (a b : List UInt8) (hx : x.length = 32) (hy : y.length = 32) (w : World) (hT : Tabs w) (hs : Rd w s a) (ht : Rd w t b) :
    Calls Tryd.prog 5 #[.agg (By x).toArray, .agg (By y).toArray, .agg #[s, t]] w fun e w' => e = .returned (.bool true) ∧ Below w.heap.size w w' := by
  have HT : Hid (Tabs w) := hT
  have HS : Hid (Rd w s a) := hs
  have HTT : Hid (Rd w t b) := ht
  clear hT
  obtain ⟨aa, ca, rfl, -⟩ := hs
  obtain ⟨ab, cb, rfl, -⟩ := ht
  obtain ⟨N, HN⟩ : ∃ N, Hid (w.heap.size = N) := ⟨_, rfl⟩
  have HNT : Hid (2 ≤ N) := (show _ by rw [← HN.out]; exact HT.out.size)
  obtain ⟨w1, hw1⟩ : ∃ z, z = ((w.alloc (.cells (By x).toArray 24 (0, 0))).alloc (.cells (By y).toArray 24 (0, 0))).alloc (.cells #[.slice aa a.length ca, .slice ab b.length cb] 36 (0, 0)) := ⟨_, rfl⟩
  have hb : Blk w1 N 24 (By x) ∧ Blk w1 (N + 1) 24 (By y) ∧ Blk w1 (N + 1 + 1) 36 [.slice aa a.length ca, .slice ab b.length cb] ∧ Below N w w1 := by
    subst hw1
    have h1 := Blk.new w 24 (By x)
    have h2 := Blk.new (w.alloc (.cells (By x).toArray 24 (0, 0))) 24 (By y)
    have h3 := Blk.new ((w.alloc (.cells (By x).toArray 24 (0, 0))).alloc (.cells (By y).toArray 24 (0, 0))) 36 [.slice aa a.length ca, .slice ab b.length cb]
    rw [show (w.alloc (.cells (By x).toArray 24 (0, 0))).heap.size = N + 1 by simp [HN.out]] at h2
    rw [show ((w.alloc (.cells (By x).toArray 24 (0, 0))).alloc (.cells (By y).toArray 24 (0, 0))).heap.size = N + 1 + 1 by simp [HN.out]] at h3
    rw [HN.out] at h1
    exact ⟨(h1.alloc _).alloc _, h2.alloc _, h3, (((Below.refl _ _).alloc (by rw [HN.out]; exact Nat.le_refl _) _).alloc (by simp [HN.out]) _).alloc (by simp [HN.out]; omega) _⟩
  obtain ⟨BX, BY, BS, L1⟩ := hb
  have HW1 : Hid _ := hw1
  have HBX : Hid (Blk w1 N 24 (By x)) := BX
  have HBY : Hid (Blk w1 (N + 1) 24 (By y)) := BY
  have HL1 : Hid _ := L1
  have c0 := BS.cell (j := 0) rfl
  have c1 := BS.cell (j := 1) rfl
  clear hw1 BX BY BS L1
  have HT1 : Hid (Tabs w1) := HT.out.kept (HL1.out.mono HNT.out)
  by_cases hbig : 1000 < a.length
  · have q1 : (1000 : Int) < (a.length : Int) := by omega
    go_enter Tryd.func5, Tryd.ntmps5
    go_upto_region 1 with fail
    rw [← HW1.out, HN.out]
    go_quiet (fail)
    go_wp2_with fail
    refine (lives_any _ (HT1.out.gr (below_drewN w1 _ nq))).mono ?_
    rintro e w2 ⟨rfl, hb2⟩
    go_wp2
    go_ret
    exact ⟨rfl, by rw [HN.out]; exact (HL1.out.trans (below_drewN w1 _ nq)).trans (hb2.mono (Nat.le_of_lt (Blk.lt HBX.out)))⟩
  have q1 : ¬ (1000 : Int) < (a.length : Int) := by omega
  by_cases hbig2 : 1000 < b.length
  · have q2 : (1000 : Int) < (b.length : Int) := by omega
    go_enter Tryd.func5, Tryd.ntmps5
    go_upto_region 1 with fail
    rw [← HW1.out, HN.out]
    go_quiet (fail)
    go_wp2_with fail
    refine (lives_any _ (HT1.out.gr (below_drewN w1 _ nq))).mono ?_
    rintro e w2 ⟨rfl, hb2⟩
    go_wp2
    go_ret
    exact ⟨rfl, by rw [HN.out]; exact (HL1.out.trans (below_drewN w1 _ nq)).trans (hb2.mono (Nat.le_of_lt (Blk.lt HBX.out)))⟩
  have q2 : ¬ (1000 : Int) < (b.length : Int) := by omega
  obtain ⟨m0, Hm0⟩ : ∃ m, Hid (0 :: [a].flatten = m) := ⟨_, rfl⟩
  obtain ⟨m1, Hm1⟩ : ∃ m, Hid (1 :: [x, y].flatten = m) := ⟨_, rfl⟩
  obtain ⟨m2, Hm2⟩ : ∃ m, Hid (2 :: [a].flatten = m) := ⟨_, rfl⟩
  obtain ⟨m3, Hm3⟩ : ∃ m, Hid (3 :: [x, y].flatten = m) := ⟨_, rfl⟩
  obtain ⟨m4, Hm4⟩ : ∃ m, Hid (4 :: [[7], x, y].flatten = m) := ⟨_, rfl⟩
  obtain ⟨m5, Hm5⟩ : ∃ m, Hid (5 :: ([] : List (List UInt8)).flatten = m) := ⟨_, rfl⟩
  obtain ⟨m6, Hm6⟩ : ∃ m, Hid (6 :: [a].flatten = m) := ⟨_, rfl⟩
  obtain ⟨G0, HG0⟩ : ∃ G, Hid (tg 0 [a] = G) := ⟨_, rfl⟩
  have hG0 : G0.length = 32 := by rw [← HG0.out]; exact sha_length _
  have SG0 : sha m0 = G0 := by rw [← HG0.out, ← Hm0.out]; rfl
  obtain ⟨G1, HG1⟩ : ∃ G, Hid (tg 1 [x, y] = G) := ⟨_, rfl⟩
  have hG1 : G1.length = 32 := by rw [← HG1.out]; exact sha_length _
  have SG1 : sha m1 = G1 := by rw [← HG1.out, ← Hm1.out]; rfl
  obtain ⟨G2, HG2⟩ : ∃ G, Hid (tg 2 [a] = G) := ⟨_, rfl⟩
  have hG2 : G2.length = 32 := by rw [← HG2.out]; exact sha_length _
  have SG2 : sha m2 = G2 := by rw [← HG2.out, ← Hm2.out]; rfl
  obtain ⟨G3, HG3⟩ : ∃ G, Hid (tg 3 [x, y] = G) := ⟨_, rfl⟩
  have hG3 : G3.length = 32 := by rw [← HG3.out]; exact sha_length _
  have SG3 : sha m3 = G3 := by rw [← HG3.out, ← Hm3.out]; rfl
  obtain ⟨G4, HG4⟩ : ∃ G, Hid (tg 4 [[UInt8.ofNat ((7 : Int) % 256).toNat], x, y] = G) := ⟨_, rfl⟩
  have hG4 : G4.length = 32 := by rw [← HG4.out]; exact sha_length _
  have SG4 : sha m4 = G4 := by rw [← HG4.out, ← Hm4.out]; rfl
  obtain ⟨G5, HG5⟩ : ∃ G, Hid (tg 5 [] = G) := ⟨_, rfl⟩
  have hG5 : G5.length = 32 := by rw [← HG5.out]; exact sha_length _
  have SG5 : sha m5 = G5 := by rw [← HG5.out, ← Hm5.out]; rfl
  obtain ⟨G6, HG6⟩ : ∃ G, Hid (tg 6 [a] = G) := ⟨_, rfl⟩
  have hG6 : G6.length = 32 := by rw [← HG6.out]; exact sha_length _
  have SG6 : sha m6 = G6 := by rw [← HG6.out, ← Hm6.out]; rfl
  have HGs : Hid (∀ l ∈ [G0, G1, G2, G3, G4, G5, G6], l.length = 32) := (show ∀ l ∈ _, _ from fun l hl => by
    simp only [List.mem_cons, List.not_mem_nil, or_false] at hl
    rcases hl with rfl | rfl | rfl | rfl | rfl | rfl | rfl <;> assumption)
  go_enter Tryd.func5, Tryd.ntmps5
  go_upto_region 1 with fail
  rw [← HW1.out, HN.out]
  go_quiet (fail)
  go_upto_region 4 with fail
  obtain ⟨w2, hw2⟩ : ∃ z, z = w1.drewN nq := ⟨_, rfl⟩
  rw [← hw2]
  have BX : Blk w2 N 24 (By x) := by rw [hw2]; exact HBX.out
  have BY : Blk w2 (N + 1) 24 (By y) := by rw [hw2]; exact HBY.out
  have L2 : Below N w w2 := by rw [hw2]; exact HL1.out.trans (below_drewN w1 _ nq)
  clear hw2 c0 c1
  have Ra : Rd w2 (.slice aa a.length ca) a := HS.out.kept (by rw [HN.out]; exact L2)
  have Rb : Rd w2 (.slice ab b.length cb) b := HTT.out.kept (by rw [HN.out]; exact L2)
  have RX : ∀ {w'}, Gr w2 w' → w'.rangeAt N 0 (By x) := fun hg => (BX.kept hg).range0
  have RY : ∀ {w'}, Gr w2 w' → w'.rangeAt (N + 1) 0 (By y) := fun hg => (BY.kept hg).range0
  have LX : ∀ {w'}, Gr w2 w' → N < w'.heap.size := fun hg => (BX.kept hg).lt
  have LY : ∀ {w'}, Gr w2 w' → N + 1 < w'.heap.size := fun hg => (BY.kept hg).lt
  refine wp_region_inv Tryd.mixed (KS (fun i_ => match i_ with | 0 | 7 | 20 => .rd (a) | 1 | 8 | 21 => .rows ([a]) | 2 => .rd (m0) | 3 | 10 | 15 => .rd (x) | 4 | 11 | 16 => .rd (y) | 5 | 12 => .rows ([x, y]) | 6 => .rd (m1) | 9 => .rd (m2) | 13 => .rd (m3) | 14 => .rd ([7]) | 17 => .rows ([[7], x, y]) | 18 => .rd (m4) | 19 => .rd (m5) | 22 => .rd (m6) | 23 | 24 => .of (fun w v => RdF w v [m0, m1, m2, m3, m4, m5, m6]) (RdF.kept _) | _ => .free)) 122 rfl (by decide +kernel) (KS_mono _) ?_ ?_
  · refine AllFrom.cons (fun a' w' hg hk hd => ?_) (AllFrom.cons (fun a' w' hg hk hd => ?_) (AllFrom.cons (fun a' w' hg hk hd => ?_) (AllFrom.cons (fun a' w' hg hk hd => ?_) (AllFrom.cons (fun a' w' hg hk hd => ?_) (AllFrom.cons (fun a' w' hg hk hd => ?_) (AllFrom.cons (fun a' w' hg hk hd => ?_) (AllFrom.cons (fun a' w' hg hk hd => ?_) (AllFrom.cons (fun a' w' hg hk hd => ?_) (AllFrom.cons (fun a' w' hg hk hd => ?_) (AllFrom.cons (fun a' w' hg hk hd => ?_) (AllFrom.cons (fun a' w' hg hk hd => ?_) (AllFrom.cons (fun a' w' hg hk hd => ?_) (AllFrom.cons (fun a' w' hg hk hd => ?_) (AllFrom.cons (fun a' w' hg hk hd => ?_) (AllFrom.cons (fun a' w' hg hk hd => ?_) (AllFrom.cons (fun a' w' hg hk hd => ?_) (AllFrom.cons (fun a' w' hg hk hd => ?_) (AllFrom.cons (fun a' w' hg hk hd => ?_) (AllFrom.cons (fun a' w' hg hk hd => ?_) (AllFrom.cons (fun a' w' hg hk hd => ?_) (AllFrom.cons (fun a' w' hg hk hd => ?_) (AllFrom.cons (fun a' w' hg hk hd => ?_) (AllFrom.cons (fun a' w' hg hk hd => ?_) (AllFrom.cons (fun a' w' hg hk hd => ?_) AllFrom.nil))))))))))))))))))))))))
    · -- 0: Op.move (Operand.tmp 7)
      intro Q
      have r7 : Rd w' (a'.eval (.tmp 7)) (a) := by rw [hk.at 7 (by decide +kernel)]; exact Rd.kept (Ra) hg
      exact wp_value (a'.eval (.tmp 7)) (by simp only [execOp]; rfl) (KS_mkr rfl r7)
    · -- 1: Op.buildSlice 33 1 #[(0, Operand.tmp 26)]
      intro Q
      have r26 : Rd w' (a'.eval (.tmp 26)) (a) := KS_rd (hd.val 0 26 (by decide +kernel)) rfl
      obtain ⟨a26, c26, f26⟩ := r26.slice
      rw [f26] at r26
      exact wp_grow _ _ (by simp only [execOp, List.map_toArray, List.map_cons, List.map_nil, f26]; go_simp) ((Below.refl _ _).alloc (Nat.le_refl _) _) (KS_mkR rfl (rows_list w' [_] _ ⟨r26, True.intro⟩))
    · -- 2: Op.call ( callee := Callee.value (Operand.func 25), args := #[Operand.
      intro Q
      have r27 : RdR w' (a'.eval (.tmp 27)) ([a]) := KS_rows (hd.val 1 27 (by decide +kernel)) rfl
      refine wp_call 25 _ (run_enter 25 _ _ rfl (by kernel_rfl)) ?_
      simp only [List.map_toArray, List.map_nil, List.map_cons]
      refine (bytes_any 0 _ [a] _ r27 (by simp; omega) (by simp)).mono ?_
      rw [Hm0.out]
      rintro e w5 ⟨v5, rfl, ho5, hb5⟩
      exact ⟨v5, rfl, KS_mkr rfl ho5.rd, hb5⟩
    · -- 3: Op.slice 24 (Operand.tmp 3) none none none
      intro Q
      have e3 : a'.eval (.tmp 3) = .pointer (some ⟨N, 0, none⟩) := hk.at 3 (by decide +kernel)
      exact wp_value _ (by simp only [execOp, e3, slice24, Sem.run_bind, Result.andThen_ok, Option.map_none]; rfl) (KS_mkr rfl (rd_range (LX hg) (RX hg) hx))
    · -- 4: Op.slice 24 (Operand.tmp 4) none none none
      intro Q
      have e4 : a'.eval (.tmp 4) = .pointer (some ⟨(N + 1), 0, none⟩) := hk.at 4 (by decide +kernel)
      exact wp_value _ (by simp only [execOp, e4, slice24, Sem.run_bind, Result.andThen_ok, Option.map_none]; rfl) (KS_mkr rfl (rd_range (LY hg) (RY hg) hy))
    · -- 5: Op.buildSlice 33 2 #[(0, Operand.tmp 29), (1, Operand.tmp 30)]
      intro Q
      have r29 : Rd w' (a'.eval (.tmp 29)) (x) := KS_rd (hd.val 3 29 (by decide +kernel)) rfl
      have r30 : Rd w' (a'.eval (.tmp 30)) (y) := KS_rd (hd.val 4 30 (by decide +kernel)) rfl
      obtain ⟨a29, c29, f29⟩ := r29.slice
      obtain ⟨a30, c30, f30⟩ := r30.slice
      rw [f29] at r29
      rw [f30] at r30
      exact wp_grow _ _ (by simp only [execOp, List.map_toArray, List.map_cons, List.map_nil, f29, f30]; go_simp) ((Below.refl _ _).alloc (Nat.le_refl _) _) (KS_mkR rfl (rows_list w' [_, _] _ ⟨r29, ⟨r30, True.intro⟩⟩))
    · -- 6: Op.call ( callee := Callee.value (Operand.func 25), args := #[Operand.
      intro Q
      have r31 : RdR w' (a'.eval (.tmp 31)) ([x, y]) := KS_rows (hd.val 5 31 (by decide +kernel)) rfl
      refine wp_call 25 _ (run_enter 25 _ _ rfl (by kernel_rfl)) ?_
      simp only [List.map_toArray, List.map_nil, List.map_cons]
      refine (bytes_any 1 _ [x, y] _ r31 (by simp [hx, hy]) (by simp)).mono ?_
      rw [Hm1.out]
      rintro e w5 ⟨v5, rfl, ho5, hb5⟩
      exact ⟨v5, rfl, KS_mkr rfl ho5.rd, hb5⟩
    · -- 7: Op.move (Operand.tmp 7)
      intro Q
      have r7 : Rd w' (a'.eval (.tmp 7)) (a) := by rw [hk.at 7 (by decide +kernel)]; exact Rd.kept (Ra) hg
      exact wp_value (a'.eval (.tmp 7)) (by simp only [execOp]; rfl) (KS_mkr rfl r7)
    · -- 8: Op.buildSlice 33 1 #[(0, Operand.tmp 33)]
      intro Q
      have r33 : Rd w' (a'.eval (.tmp 33)) (a) := KS_rd (hd.val 7 33 (by decide +kernel)) rfl
      obtain ⟨a33, c33, f33⟩ := r33.slice
      rw [f33] at r33
      exact wp_grow _ _ (by simp only [execOp, List.map_toArray, List.map_cons, List.map_nil, f33]; go_simp) ((Below.refl _ _).alloc (Nat.le_refl _) _) (KS_mkR rfl (rows_list w' [_] _ ⟨r33, True.intro⟩))
    · -- 9: Op.call ( callee := Callee.value (Operand.func 25), args := #[Operand.
      intro Q
      have r34 : RdR w' (a'.eval (.tmp 34)) ([a]) := KS_rows (hd.val 8 34 (by decide +kernel)) rfl
      refine wp_call 25 _ (run_enter 25 _ _ rfl (by kernel_rfl)) ?_
      simp only [List.map_toArray, List.map_nil, List.map_cons]
      refine (bytes_any 2 _ [a] _ r34 (by simp; omega) (by simp)).mono ?_
      rw [Hm2.out]
      rintro e w5 ⟨v5, rfl, ho5, hb5⟩
      exact ⟨v5, rfl, KS_mkr rfl ho5.rd, hb5⟩
    · -- 10: Op.slice 24 (Operand.tmp 3) none none none
      intro Q
      have e3 : a'.eval (.tmp 3) = .pointer (some ⟨N, 0, none⟩) := hk.at 3 (by decide +kernel)
      exact wp_value _ (by simp only [execOp, e3, slice24, Sem.run_bind, Result.andThen_ok, Option.map_none]; rfl) (KS_mkr rfl (rd_range (LX hg) (RX hg) hx))
    · -- 11: Op.slice 24 (Operand.tmp 4) none none none
      intro Q
      have e4 : a'.eval (.tmp 4) = .pointer (some ⟨(N + 1), 0, none⟩) := hk.at 4 (by decide +kernel)
      exact wp_value _ (by simp only [execOp, e4, slice24, Sem.run_bind, Result.andThen_ok, Option.map_none]; rfl) (KS_mkr rfl (rd_range (LY hg) (RY hg) hy))
    · -- 12: Op.buildSlice 33 2 #[(0, Operand.tmp 36), (1, Operand.tmp 37)]
      intro Q
      have r36 : Rd w' (a'.eval (.tmp 36)) (x) := KS_rd (hd.val 10 36 (by decide +kernel)) rfl
      have r37 : Rd w' (a'.eval (.tmp 37)) (y) := KS_rd (hd.val 11 37 (by decide +kernel)) rfl
      obtain ⟨a36, c36, f36⟩ := r36.slice
      obtain ⟨a37, c37, f37⟩ := r37.slice
      rw [f36] at r36
      rw [f37] at r37
      exact wp_grow _ _ (by simp only [execOp, List.map_toArray, List.map_cons, List.map_nil, f36, f37]; go_simp) ((Below.refl _ _).alloc (Nat.le_refl _) _) (KS_mkR rfl (rows_list w' [_, _] _ ⟨r36, ⟨r37, True.intro⟩⟩))
    · -- 13: Op.call ( callee := Callee.value (Operand.func 25), args := #[Operand.
      intro Q
      have r38 : RdR w' (a'.eval (.tmp 38)) ([x, y]) := KS_rows (hd.val 12 38 (by decide +kernel)) rfl
      refine wp_call 25 _ (run_enter 25 _ _ rfl (by kernel_rfl)) ?_
      simp only [List.map_toArray, List.map_nil, List.map_cons]
      refine (bytes_any 3 _ [x, y] _ r38 (by simp [hx, hy]) (by simp)).mono ?_
      rw [Hm3.out]
      rintro e w5 ⟨v5, rfl, ho5, hb5⟩
      exact ⟨v5, rfl, KS_mkr rfl ho5.rd, hb5⟩
    · -- 14: Op.buildSlice 22 1 #[(0, Operand.const (Value.int IntKind.u8 7))]
      intro Q
      clear hd hk
      exact wp_grow _ _ (by simp only [execOp, List.map_toArray, List.map_cons, List.map_nil]; go_simp) ((Below.refl _ _).alloc (Nat.le_refl _) _) (KS_mkr rfl (own_one' _ _ (Nat.le_refl _) (7 : UInt8) _ rfl).rd)
    · -- 15: Op.slice 24 (Operand.tmp 3) none none none
      intro Q
      have e3 : a'.eval (.tmp 3) = .pointer (some ⟨N, 0, none⟩) := hk.at 3 (by decide +kernel)
      exact wp_value _ (by simp only [execOp, e3, slice24, Sem.run_bind, Result.andThen_ok, Option.map_none]; rfl) (KS_mkr rfl (rd_range (LX hg) (RX hg) hx))
    · -- 16: Op.slice 24 (Operand.tmp 4) none none none
      intro Q
      have e4 : a'.eval (.tmp 4) = .pointer (some ⟨(N + 1), 0, none⟩) := hk.at 4 (by decide +kernel)
      exact wp_value _ (by simp only [execOp, e4, slice24, Sem.run_bind, Result.andThen_ok, Option.map_none]; rfl) (KS_mkr rfl (rd_range (LY hg) (RY hg) hy))
    · -- 17: Op.buildSlice 33 3 #[(0, Operand.tmp 40), (1, Operand.tmp 41), (2, Ope
      intro Q
      have r40 : Rd w' (a'.eval (.tmp 40)) ([7]) := KS_rd (hd.val 14 40 (by decide +kernel)) rfl
      have r41 : Rd w' (a'.eval (.tmp 41)) (x) := KS_rd (hd.val 15 41 (by decide +kernel)) rfl
      have r42 : Rd w' (a'.eval (.tmp 42)) (y) := KS_rd (hd.val 16 42 (by decide +kernel)) rfl
      obtain ⟨a40, c40, f40⟩ := r40.slice
      obtain ⟨a41, c41, f41⟩ := r41.slice
      obtain ⟨a42, c42, f42⟩ := r42.slice
      rw [f40] at r40
      rw [f41] at r41
      rw [f42] at r42
      exact wp_grow _ _ (by simp only [execOp, List.map_toArray, List.map_cons, List.map_nil, f40, f41, f42]; go_simp) ((Below.refl _ _).alloc (Nat.le_refl _) _) (KS_mkR rfl (rows_list w' [_, _, _] _ ⟨r40, ⟨r41, ⟨r42, True.intro⟩⟩⟩))
    · -- 18: Op.call ( callee := Callee.value (Operand.func 25), args := #[Operand.
      intro Q
      have r43 : RdR w' (a'.eval (.tmp 43)) ([[7], x, y]) := KS_rows (hd.val 17 43 (by decide +kernel)) rfl
      refine wp_call 25 _ (run_enter 25 _ _ rfl (by kernel_rfl)) ?_
      simp only [List.map_toArray, List.map_nil, List.map_cons]
      refine (bytes_any 4 _ [[7], x, y] _ r43 (by simp [hx, hy]) (by simp)).mono ?_
      rw [Hm4.out]
      rintro e w5 ⟨v5, rfl, ho5, hb5⟩
      exact ⟨v5, rfl, KS_mkr rfl ho5.rd, hb5⟩
    · -- 19: Op.call ( callee := Callee.value (Operand.func 25), args := #[Operand.
      intro Q
      refine wp_call 25 _ (run_enter 25 _ _ rfl (by kernel_rfl)) ?_
      simp only [List.map_toArray, List.map_nil, List.map_cons]
      refine (bytes_any 5 _ [] _ (RdR_nil _) (by simp) (by simp)).mono ?_
      rw [Hm5.out]
      rintro e w5 ⟨v5, rfl, ho5, hb5⟩
      exact ⟨v5, rfl, KS_mkr rfl ho5.rd, hb5⟩
    · -- 20: Op.move (Operand.tmp 7)
      intro Q
      have r7 : Rd w' (a'.eval (.tmp 7)) (a) := by rw [hk.at 7 (by decide +kernel)]; exact Rd.kept (Ra) hg
      exact wp_value (a'.eval (.tmp 7)) (by simp only [execOp]; rfl) (KS_mkr rfl r7)
    · -- 21: Op.buildSlice 33 1 #[(0, Operand.tmp 46)]
      intro Q
      have r46 : Rd w' (a'.eval (.tmp 46)) (a) := KS_rd (hd.val 20 46 (by decide +kernel)) rfl
      obtain ⟨a46, c46, f46⟩ := r46.slice
      rw [f46] at r46
      exact wp_grow _ _ (by simp only [execOp, List.map_toArray, List.map_cons, List.map_nil, f46]; go_simp) ((Below.refl _ _).alloc (Nat.le_refl _) _) (KS_mkR rfl (rows_list w' [_] _ ⟨r46, True.intro⟩))
    · -- 22: Op.call ( callee := Callee.value (Operand.func 25), args := #[Operand.
      intro Q
      have r47 : RdR w' (a'.eval (.tmp 47)) ([a]) := KS_rows (hd.val 21 47 (by decide +kernel)) rfl
      refine wp_call 25 _ (run_enter 25 _ _ rfl (by kernel_rfl)) ?_
      simp only [List.map_toArray, List.map_nil, List.map_cons]
      refine (bytes_any 6 _ [a] _ r47 (by simp; omega) (by simp)).mono ?_
      rw [Hm6.out]
      rintro e w5 ⟨v5, rfl, ho5, hb5⟩
      exact ⟨v5, rfl, KS_mkr rfl ho5.rd, hb5⟩
    · -- 23: Op.buildSlice 33 7 #[(0, Operand.tmp 28), (1, Operand.tmp 32), (2, Ope
      intro Q
      have r28 : Rd w' (a'.eval (.tmp 28)) (m0) := KS_rd (hd.val 2 28 (by decide +kernel)) rfl
      have r32 : Rd w' (a'.eval (.tmp 32)) (m1) := KS_rd (hd.val 6 32 (by decide +kernel)) rfl
      have r35 : Rd w' (a'.eval (.tmp 35)) (m2) := KS_rd (hd.val 9 35 (by decide +kernel)) rfl
      have r39 : Rd w' (a'.eval (.tmp 39)) (m3) := KS_rd (hd.val 13 39 (by decide +kernel)) rfl
      have r44 : Rd w' (a'.eval (.tmp 44)) (m4) := KS_rd (hd.val 18 44 (by decide +kernel)) rfl
      have r45 : Rd w' (a'.eval (.tmp 45)) (m5) := KS_rd (hd.val 19 45 (by decide +kernel)) rfl
      have r48 : Rd w' (a'.eval (.tmp 48)) (m6) := KS_rd (hd.val 22 48 (by decide +kernel)) rfl
      obtain ⟨a28, c28, f28⟩ := r28.slice
      obtain ⟨a32, c32, f32⟩ := r32.slice
      obtain ⟨a35, c35, f35⟩ := r35.slice
      obtain ⟨a39, c39, f39⟩ := r39.slice
      obtain ⟨a44, c44, f44⟩ := r44.slice
      obtain ⟨a45, c45, f45⟩ := r45.slice
      obtain ⟨a48, c48, f48⟩ := r48.slice
      rw [f28] at r28
      rw [f32] at r32
      rw [f35] at r35
      rw [f39] at r39
      rw [f44] at r44
      rw [f45] at r45
      rw [f48] at r48
      exact wp_grow _ _ (by simp only [execOp, List.map_toArray, List.map_cons, List.map_nil, f28, f32, f35, f39, f44, f45, f48]; go_simp) ((Below.refl _ _).alloc (Nat.le_refl _) _) (KS_mko rfl ⟨rows_list w' [_, _, _, _, _, _, _] _ ⟨r28, ⟨r32, ⟨r35, ⟨r39, ⟨r44, ⟨r45, ⟨r48, True.intro⟩⟩⟩⟩⟩⟩⟩, _, rfl⟩)
    · -- 24: Op.assign (Operand.tmp 49)
      intro Q
      have r49 := KS_of (hd.val 23 49 (by decide +kernel)) rfl
      exact wp_value (a'.eval (.tmp 49)) (by simp only [execOp]; rfl) (KS_mko rfl r49)
  · intro a1 w3 hsz1 hdf1 hk1 hall1 hg1
    have R9 : RdF w3 (a1.eval (.tmp 9)) [m0, m1, m2, m3, m4, m5, m6] := KS_of (hall1 24 _ 9 rfl rfl) rfl
    have E3 : a1.eval (.tmp 3) = .pointer (some ⟨N, 0, none⟩) := hk1.at 3 (by decide +kernel)
    have E4 : a1.eval (.tmp 4) = .pointer (some ⟨(N + 1), 0, none⟩) := hk1.at 4 (by decide +kernel)
    have E6 : a1.eval (.tmp 6) = .bool false := hk1.at 6 (by decide +kernel)
    have E7 : a1.eval (.tmp 7) = .slice aa a.length ca := hk1.at 7 (by decide +kernel)
    have E8 : a1.eval (.tmp 8) = .slice ab b.length cb := hk1.at 8 (by decide +kernel)
    have BX := BX.kept hg1
    have BY := BY.kept hg1
    have L3 : Below N w w3 := L2.trans (Below.mono hg1 (by have := L2.size; rwa [HN.out] at this))
    have HT5 : Tabs w3 := HT.out.kept (L3.mono HNT.out)
    have Ra : Rd w3 (a1.eval (.tmp 7)) a := by rw [E7]; exact Ra.kept hg1
    clear hall1 hk1 hg1 RX RY LX LY
    have SX : ∀ {w'}, Gr w3 w' → w'.rangeAt N 0 (By x) := fun hg => (BX.kept hg).range0
    have SY : ∀ {w'}, Gr w3 w' → w'.rangeAt (N + 1) 0 (By y) := fun hg => (BY.kept hg).range0
    have LX : ∀ {w'}, Gr w3 w' → N < w'.heap.size := fun hg => (BX.kept hg).lt
    have LY : ∀ {w'}, Gr w3 w' → N + 1 < w'.heap.size := fun hg => (BY.kept hg).lt
    go_wp2_with fail
    refine wp_region_inv Tryd.mixed (KS (fun i_ => match i_ with | 0 | 5 | 15 => .rd (a) | 1 => .val (.agg (By (G0)).toArray) | 2 | 8 | 11 => .val (.agg (By (x)).toArray) | 3 | 9 | 12 => .val (.agg (By (y)).toArray) | 4 => .val (.agg (By (G1)).toArray) | 6 | 16 => .val (.string ⟨(a).toArray⟩) | 7 => .val (.agg (By (G2)).toArray) | 10 => .val (.agg (By (G3)).toArray) | 13 => .val (.agg (By (G4)).toArray) | 14 => .val (.agg (By (G5)).toArray) | 17 => .val (.agg (By (G6)).toArray) | 18 | 19 => .of (fun w v => RdH w v [G0, G1, G2, G3, G4, G5, G6]) (RdH.kept _) | _ => .free)) 122 hsz1 (by decide +kernel) (KS_mono _) ?_ ?_
    · refine AllFrom.cons (fun a' w' hg hk hd => ?_) (AllFrom.cons (fun a' w' hg hk hd => ?_) (AllFrom.cons (fun a' w' hg hk hd => ?_) (AllFrom.cons (fun a' w' hg hk hd => ?_) (AllFrom.cons (fun a' w' hg hk hd => ?_) (AllFrom.cons (fun a' w' hg hk hd => ?_) (AllFrom.cons (fun a' w' hg hk hd => ?_) (AllFrom.cons (fun a' w' hg hk hd => ?_) (AllFrom.cons (fun a' w' hg hk hd => ?_) (AllFrom.cons (fun a' w' hg hk hd => ?_) (AllFrom.cons (fun a' w' hg hk hd => ?_) (AllFrom.cons (fun a' w' hg hk hd => ?_) (AllFrom.cons (fun a' w' hg hk hd => ?_) (AllFrom.cons (fun a' w' hg hk hd => ?_) (AllFrom.cons (fun a' w' hg hk hd => ?_) (AllFrom.cons (fun a' w' hg hk hd => ?_) (AllFrom.cons (fun a' w' hg hk hd => ?_) (AllFrom.cons (fun a' w' hg hk hd => ?_) (AllFrom.cons (fun a' w' hg hk hd => ?_) (AllFrom.cons (fun a' w' hg hk hd => ?_) AllFrom.nil)))))))))))))))))))
      · -- 0: Op.move (Operand.tmp 7)
        intro Q
        have r7 : Rd w' (a'.eval (.tmp 7)) (a) := by rw [hk.at 7 (by decide +kernel)]; exact Rd.kept (Ra) hg
        exact wp_value (a'.eval (.tmp 7)) (by simp only [execOp]; rfl) (KS_mkr rfl r7)
      · -- 1: Op.call ( callee := Callee.value (Operand.func 9), args := #[Operand.t
        intro Q
        have r50 : Rd w' (a'.eval (.tmp 50)) (a) := KS_rd (hd.val 0 50 (by decide +kernel)) rfl
        refine wp_call 9 _ (run_enter 9 _ _ rfl (by kernel_rfl)) ?_
        simp only [List.map_toArray, List.map_nil, List.map_cons]
        refine (leaf_any _ a _ (HT5.gr hg) r50 (by omega)).mono ?_
        rw [HG0.out]
        rintro e w5 ⟨rfl, hb5⟩
        exact ⟨_, rfl, KS_mkv rfl rfl, hb5⟩
      · -- 2: Op.load 24 (Operand.tmp 3)
        intro Q
        have e3 : a'.eval (.tmp 3) = .pointer (some ⟨N, 0, none⟩) := (hk.at 3 (by decide +kernel)).trans (E3)
        exact wp_load_row 24 _ rfl _ _ e3 (By (x)) _ (SX hg) Tryd.underlying24 rfl (by rw [By_length, hx]; exact Tryd.size24) (KS_mkv rfl rfl)
      · -- 3: Op.load 24 (Operand.tmp 4)
        intro Q
        have e4 : a'.eval (.tmp 4) = .pointer (some ⟨(N + 1), 0, none⟩) := (hk.at 4 (by decide +kernel)).trans (E4)
        exact wp_load_row 24 _ rfl _ _ e4 (By (y)) _ (SY hg) Tryd.underlying24 rfl (by rw [By_length, hy]; exact Tryd.size24) (KS_mkv rfl rfl)
      · -- 4: Op.call ( callee := Callee.value (Operand.func 11), args := #[Operand.
        intro Q
        have e52 : a'.eval (.tmp 52) = .agg (By (x)).toArray := KS_val (hd.val 2 52 (by decide +kernel)) rfl
        have e53 : a'.eval (.tmp 53) = .agg (By (y)).toArray := KS_val (hd.val 3 53 (by decide +kernel)) rfl
        refine wp_call 11 _ (run_enter 11 _ _ rfl (by kernel_rfl)) ?_
        simp only [List.map_toArray, List.map_nil, List.map_cons, e52, e53]
        refine (node_any x y hx hy _ (HT5.gr hg)).mono ?_
        rw [HG1.out]
        rintro e w5 ⟨rfl, hb5⟩
        exact ⟨_, rfl, KS_mkv rfl rfl, hb5⟩
      · -- 5: Op.move (Operand.tmp 7)
        intro Q
        have r7 : Rd w' (a'.eval (.tmp 7)) (a) := by rw [hk.at 7 (by decide +kernel)]; exact Rd.kept (Ra) hg
        exact wp_value (a'.eval (.tmp 7)) (by simp only [execOp]; rfl) (KS_mkr rfl r7)
      · -- 6: Op.convert 22 9 (Operand.tmp 55)
        intro Q
        have r55 : Rd w' (a'.eval (.tmp 55)) (a) := KS_rd (hd.val 5 55 (by decide +kernel)) rfl
        exact wp_value _ (by simp only [execOp, r55.conv (P := Tryd.prog) 22 9 Tryd.underlying22 Tryd.underlying5 Tryd.underlying9, Sem.run_bind, Result.andThen_ok]; rfl) (KS_mkv rfl rfl)
      · -- 7: Op.call ( callee := Callee.value (Operand.func 17), args := #[Operand.
        intro Q
        have e56 : a'.eval (.tmp 56) = .string ⟨(a).toArray⟩ := KS_val (hd.val 6 56 (by decide +kernel)) rfl
        refine wp_call 17 _ (run_enter 17 _ _ rfl (by kernel_rfl)) ?_
        simp only [List.map_toArray, List.map_nil, List.map_cons, e56]
        refine (key_any a _ (HT5.gr hg) (by omega)).mono ?_
        rw [HG2.out]
        rintro e w5 ⟨rfl, hb5⟩
        exact ⟨_, rfl, KS_mkv rfl rfl, hb5⟩
      · -- 8: Op.load 24 (Operand.tmp 3)
        intro Q
        have e3 : a'.eval (.tmp 3) = .pointer (some ⟨N, 0, none⟩) := (hk.at 3 (by decide +kernel)).trans (E3)
        exact wp_load_row 24 _ rfl _ _ e3 (By (x)) _ (SX hg) Tryd.underlying24 rfl (by rw [By_length, hx]; exact Tryd.size24) (KS_mkv rfl rfl)
      · -- 9: Op.load 24 (Operand.tmp 4)
        intro Q
        have e4 : a'.eval (.tmp 4) = .pointer (some ⟨(N + 1), 0, none⟩) := (hk.at 4 (by decide +kernel)).trans (E4)
        exact wp_load_row 24 _ rfl _ _ e4 (By (y)) _ (SY hg) Tryd.underlying24 rfl (by rw [By_length, hy]; exact Tryd.size24) (KS_mkv rfl rfl)
      · -- 10: Op.call ( callee := Callee.value (Operand.func 13), args := #[Operand.
        intro Q
        have e58 : a'.eval (.tmp 58) = .agg (By (x)).toArray := KS_val (hd.val 8 58 (by decide +kernel)) rfl
        have e59 : a'.eval (.tmp 59) = .agg (By (y)).toArray := KS_val (hd.val 9 59 (by decide +kernel)) rfl
        refine wp_call 13 _ (run_enter 13 _ _ rfl (by kernel_rfl)) ?_
        simp only [List.map_toArray, List.map_nil, List.map_cons, e58, e59]
        refine (item_any x y hx hy _ (HT5.gr hg)).mono ?_
        rw [HG3.out]
        rintro e w5 ⟨rfl, hb5⟩
        exact ⟨_, rfl, KS_mkv rfl rfl, hb5⟩
      · -- 11: Op.load 24 (Operand.tmp 3)
        intro Q
        have e3 : a'.eval (.tmp 3) = .pointer (some ⟨N, 0, none⟩) := (hk.at 3 (by decide +kernel)).trans (E3)
        exact wp_load_row 24 _ rfl _ _ e3 (By (x)) _ (SX hg) Tryd.underlying24 rfl (by rw [By_length, hx]; exact Tryd.size24) (KS_mkv rfl rfl)
      · -- 12: Op.load 24 (Operand.tmp 4)
        intro Q
        have e4 : a'.eval (.tmp 4) = .pointer (some ⟨(N + 1), 0, none⟩) := (hk.at 4 (by decide +kernel)).trans (E4)
        exact wp_load_row 24 _ rfl _ _ e4 (By (y)) _ (SY hg) Tryd.underlying24 rfl (by rw [By_length, hy]; exact Tryd.size24) (KS_mkv rfl rfl)
      · -- 13: Op.call ( callee := Callee.value (Operand.func 15), args := #[Operand.
        intro Q
        have e61 : a'.eval (.tmp 61) = .agg (By (x)).toArray := KS_val (hd.val 11 61 (by decide +kernel)) rfl
        have e62 : a'.eval (.tmp 62) = .agg (By (y)).toArray := KS_val (hd.val 12 62 (by decide +kernel)) rfl
        refine wp_call 15 _ (run_enter 15 _ _ rfl (by kernel_rfl)) ?_
        simp only [List.map_toArray, List.map_nil, List.map_cons, e61, e62]
        refine (fork_any 7 x y hx hy _ (HT5.gr hg)).mono ?_
        rw [HG4.out]
        rintro e w5 ⟨rfl, hb5⟩
        exact ⟨_, rfl, KS_mkv rfl rfl, hb5⟩
      · -- 14: Op.call ( callee := Callee.value (Operand.func 23), args := #[], argTy
        intro Q
        refine wp_call 23 _ (run_enter 23 _ _ rfl (by kernel_rfl)) ?_
        simp only [List.map_toArray, List.map_nil]
        refine (nothing_any _ (HT5.gr hg)).mono ?_
        rw [HG5.out]
        rintro e w5 ⟨rfl, hb5⟩
        exact ⟨_, rfl, KS_mkv rfl rfl, hb5⟩
      · -- 15: Op.move (Operand.tmp 7)
        intro Q
        have r7 : Rd w' (a'.eval (.tmp 7)) (a) := by rw [hk.at 7 (by decide +kernel)]; exact Rd.kept (Ra) hg
        exact wp_value (a'.eval (.tmp 7)) (by simp only [execOp]; rfl) (KS_mkr rfl r7)
      · -- 16: Op.convert 22 9 (Operand.tmp 65)
        intro Q
        have r65 : Rd w' (a'.eval (.tmp 65)) (a) := KS_rd (hd.val 15 65 (by decide +kernel)) rfl
        exact wp_value _ (by simp only [execOp, r65.conv (P := Tryd.prog) 22 9 Tryd.underlying22 Tryd.underlying5 Tryd.underlying9, Sem.run_bind, Result.andThen_ok]; rfl) (KS_mkv rfl rfl)
      · -- 17: Op.call ( callee := Callee.value (Operand.func 19), args := #[Operand.
        intro Q
        have e66 : a'.eval (.tmp 66) = .string ⟨(a).toArray⟩ := KS_val (hd.val 16 66 (by decide +kernel)) rfl
        refine wp_call 19 _ (run_enter 19 _ _ rfl (by kernel_rfl)) ?_
        simp only [List.map_toArray, List.map_nil, List.map_cons, e66]
        refine (value_any a _ (HT5.gr hg) (by omega)).mono ?_
        rw [HG6.out]
        rintro e w5 ⟨rfl, hb5⟩
        exact ⟨_, rfl, KS_mkv rfl rfl, hb5⟩
      · -- 18: Op.buildSlice 37 7 #[(0, Operand.tmp 51), (1, Operand.tmp 54), (2, Ope
        intro Q
        have e51 : a'.eval (.tmp 51) = .agg (By (G0)).toArray := KS_val (hd.val 1 51 (by decide +kernel)) rfl
        have e54 : a'.eval (.tmp 54) = .agg (By (G1)).toArray := KS_val (hd.val 4 54 (by decide +kernel)) rfl
        have e57 : a'.eval (.tmp 57) = .agg (By (G2)).toArray := KS_val (hd.val 7 57 (by decide +kernel)) rfl
        have e60 : a'.eval (.tmp 60) = .agg (By (G3)).toArray := KS_val (hd.val 10 60 (by decide +kernel)) rfl
        have e63 : a'.eval (.tmp 63) = .agg (By (G4)).toArray := KS_val (hd.val 13 63 (by decide +kernel)) rfl
        have e64 : a'.eval (.tmp 64) = .agg (By (G5)).toArray := KS_val (hd.val 14 64 (by decide +kernel)) rfl
        have e67 : a'.eval (.tmp 67) = .agg (By (G6)).toArray := KS_val (hd.val 17 67 (by decide +kernel)) rfl
        obtain ⟨w6, hr6, hg6, hR6⟩ := hashes_new w' [G0, G1, G2, G3, G4, G5, G6] HGs.out (by simp) (by simp)
        refine wp_grow _ w6 ?_ hg6 (KS_mko rfl hR6)
        simp only [execOp, List.map_toArray, List.map_cons, List.map_nil, e51, e54, e57, e60, e63, e64, e67, Sem.run_bind]
        rw [show (#[(0, Value.agg (By G0).toArray), (1, Value.agg (By G1).toArray), (2, Value.agg (By G2).toArray), (3, Value.agg (By G3).toArray), (4, Value.agg (By G4).toArray), (5, Value.agg (By G5).toArray), (6, Value.agg (By G6).toArray)] : Array (Nat × Value)) = ((([G0, G1, G2, G3, G4, G5, G6].map fun l => Value.agg (By l).toArray).zipIdx 0).map fun x => (x.2, x.1)).toArray from rfl]
        rw [show (7 : Nat) = [G0, G1, G2, G3, G4, G5, G6].length from rfl, hr6]
        rfl
      · -- 19: Op.assign (Operand.tmp 68)
        intro Q
        have r68 := KS_of (hd.val 18 68 (by decide +kernel)) rfl
        exact wp_value (a'.eval (.tmp 68)) (by simp only [execOp]; rfl) (KS_mko rfl r68)
    · intro a2 w4 hsz2 hdf2 hk2 hall2 hg2
      have R10 : RdH w4 (a2.eval (.tmp 10)) [G0, G1, G2, G3, G4, G5, G6] := KS_of (hall2 19 _ 10 rfl rfl) rfl
      obtain ⟨R9, b9, hv9⟩ := R9
      rw [hv9] at R9
      have R9 := R9.kept hg2
      obtain ⟨b10, cap10, hv10, hb10, hcp10, hc10⟩ := R10
      have E6 : a2.eval (.tmp 6) = .bool false := (hk2.at 6 (by decide +kernel)).trans E6
      have E7 : a2.eval (.tmp 7) = .slice aa a.length ca := (hk2.at 7 (by decide +kernel)).trans E7
      have E8 : a2.eval (.tmp 8) = .slice ab b.length cb := (hk2.at 8 (by decide +kernel)).trans E8
      have E9 : a2.eval (.tmp 9) = .slice (some ⟨b9, 0, none⟩) 7 7 := (hk2.at 9 (by decide +kernel)).trans hv9
      have E10 : a2.eval (.tmp 10) = .slice (some ⟨b10, 0, none⟩) 7 cap10 := hv10
      obtain ⟨f, hf⟩ : ∃ f : Nat → Value, ∀ t, f t = a2.eval (.tmp t) := ⟨_, fun _ => rfl⟩
      have ha : a2 = { tmps := #[f 0, f 1, f 2, f 3, f 4, f 5, f 6, f 7, f 8, f 9, f 10, f 11, f 12, f 13, f 14, f 15, f 16, f 17, f 18, f 19, f 20, f 21, f 22, f 23, f 24, f 25, f 26, f 27, f 28, f 29, f 30, f 31, f 32, f 33, f 34, f 35, f 36, f 37, f 38, f 39, f 40, f 41, f 42, f 43, f 44, f 45, f 46, f 47, f 48, f 49, f 50, f 51, f 52, f 53, f 54, f 55, f 56, f 57, f 58, f 59, f 60, f 61, f 62, f 63, f 64, f 65, f 66, f 67, f 68, f 69, f 70, f 71, f 72, f 73, f 74, f 75, f 76, f 77, f 78, f 79, f 80, f 81, f 82, f 83, f 84, f 85, f 86, f 87, f 88, f 89, f 90, f 91, f 92, f 93, f 94, f 95, f 96, f 97, f 98, f 99, f 100, f 101, f 102, f 103, f 104, f 105, f 106, f 107, f 108, f 109, f 110, f 111, f 112, f 113, f 114, f 115, f 116, f 117, f 118, f 119, f 120, f 121], defers := [] } := (act_lit a2 122 (hsz2.trans hsz1)).trans (by rw [hdf2, hdf1]; simp only [← hf]; rfl)
      simp only [← hf] at E6 E7 E8 E9 E10
      rw [E6, E7, E8, E9, E10] at ha
      have L4 : Below N w w4 := L3.trans (Below.mono hg2 (by have := L3.size; rwa [HN.out] at this))
      obtain ⟨Ms, hMsx⟩ : ∃ Ms, [m0, m1, m2, m3, m4, m5, m6] = Ms := ⟨_, rfl⟩
      obtain ⟨Gs, hGsx⟩ : ∃ Gs, [G0, G1, G2, G3, G4, G5, G6] = Gs := ⟨_, rfl⟩
      have HMs : Hid _ := hMsx
      have HGG : Hid _ := hGsx
      clear hf hk2 hall2 hsz2 hdf2 hv9 hv10 hsz1 hdf1 E3 E4
      subst ha
      have hMl : Ms.length = 7 := by rw [← HMs.out]; rfl
      have hGl : Gs.length = 7 := by rw [← HGG.out]; rfl
      have seven : ∀ i, i < 7 → i = 0 ∨ i = 1 ∨ i = 2 ∨ i = 3 ∨ i = 4 ∨ i = 5 ∨ i = 6 := fun i h => by omega
      have HHd : Hid (∀ i (h : i < Ms.length), Ms[i].head? = some (UInt8.ofNat i)) := (show ∀ i h, _ from fun i h => by
        subst hMsx
        rcases seven i h with rfl | rfl | rfl | rfl | rfl | rfl | rfl
        · exact congrArg List.head? Hm0.out.symm
        · exact congrArg List.head? Hm1.out.symm
        · exact congrArg List.head? Hm2.out.symm
        · exact congrArg List.head? Hm3.out.symm
        · exact congrArg List.head? Hm4.out.symm
        · exact congrArg List.head? Hm5.out.symm
        · exact congrArg List.head? Hm6.out.symm)
      have HSM : Hid (∀ i (h : i < Ms.length) (h' : i < Gs.length), sha Ms[i] = Gs[i]) := (show ∀ i h h', _ from fun i h h' => by
        subst hMsx hGsx
        rcases seven i h with rfl | rfl | rfl | rfl | rfl | rfl | rfl <;> assumption)
      have HLG : Hid (∀ i (h : i < Gs.length), Gs[i].length = 32) := (show ∀ i h, _ from fun i h => HGs.out _ (by rw [HGG.out]; exact List.getElem_mem h))
      have HLM : Hid (∀ i (h : i < Ms.length), Ms[i].length ≤ 2000) := (show ∀ i h, _ from fun i h => by
        subst hMsx
        rcases seven i h with rfl | rfl | rfl | rfl | rfl | rfl | rfl
        · show m0.length ≤ _; rw [← Hm0.out]; simp; omega
        · show m1.length ≤ _; rw [← Hm1.out]; simp [hx, hy]
        · show m2.length ≤ _; rw [← Hm2.out]; simp; omega
        · show m3.length ≤ _; rw [← Hm3.out]; simp [hx, hy]
        · show m4.length ≤ _; rw [← Hm4.out]; simp [hx, hy]
        · show m5.length ≤ _; rw [← Hm5.out]; simp
        · show m6.length ≤ _; rw [← Hm6.out]; simp; omega)
      have HNE : Hid (∀ i k (h : i < Ms.length) (h' : k < Ms.length), i ≠ k → (Ms[i] == Ms[k]) = false) := (show ∀ i k h h', _ from fun i k h h' hne => by
        rw [beq_eq_false_iff_ne]
        intro e
        have h1 := HHd.out i h
        rw [e, HHd.out k h'] at h1
        have h2 := congrArg UInt8.toNat (Option.some.inj h1)
        simp at h2
        omega)
      rw [HMs.out] at R9
      obtain ⟨v9, cap9, hv9, hrow9⟩ := R9
      simp only [Value.slice.injEq, true_and] at hv9
      obtain ⟨rfl, rfl⟩ := hv9
      obtain ⟨bb, oo, hbo, hb9, hc9⟩ := hrow9 (by omega)
      simp only [Option.some.injEq, Addr.mk.injEq, and_true] at hbo
      obtain ⟨rfl, rfl⟩ := hbo
      have HC9 : Hid _ := hc9
      have HB9 : Hid (b9 < w4.heap.size) := hb9
      have HC10 : Hid (∀ j (h : j < Gs.length), w4.rangeAt b10 (32 * j) (By Gs[j])) := (show ∀ j h, _ by subst hGsx; exact hc10)
      have HB10 : Hid (b10 < w4.heap.size) := hb10
      have HL4 : Hid (Below N w w4) := L4
      clear hc9 hb9 hc10 hb10 L4 hrow9 R9 hMsx hGsx
      obtain ⟨M4, HM4⟩ : ∃ M, Hid (w4.heap.size = M) := ⟨_, rfl⟩
      go_wp2_with fail
      go_loopg [71] 8 (fun g z wr => Hid (Gr w4 wr) ∧ ∃ i : Nat, i ≤ 7 ∧ g + i = 8 ∧ z = .int .i64 i)
      case atStart => exact ⟨Gr.refl _, 0, by omega, by omega, rfl⟩
      case round =>
        obtain ⟨G4r, i, hi, hgk, rfl⟩ := hrel
        obtain ⟨gko, hgko⟩ : ∃ g, g = gk := ⟨_, rfl⟩
        by_cases hlt : i < 7
        · have q3 : (i : Int) < 7 := by omega
          have hiM : i < Ms.length := by omega
          have hiG : i < Gs.length := by omega
          obtain ⟨ui, hui, hri⟩ := HC9.out i hiM
          rw [Nat.zero_add] at hui
          have HSi : Hid _ := HSM.out i hiM hiG
          have hGi := HLG.out i hiG
          have hMi := HLM.out i hiM
          have HGi : Hid (∀ w', Gr wr w' → w'.rangeAt b10 (32 * i) (By Gs[i])) := (show ∀ w', Gr wr w' → _ from fun w' hg j u hu => (Below.cell (Gr.trans G4r.out hg) (p := ⟨b10, 32 * i + j, none⟩) HB10.out).trans (HC10.out i hiG j u hu))
          have eGi := eq24 Gs[i] Gs[i] hGi hGi
          simp only [beq_self_eq_true] at eGi
          have HMi : Hid (∀ w', Gr wr w' → w'.cell? ⟨b9, i, none⟩ = some ui) := (show ∀ w', Gr wr w' → _ from fun w' hg => (Below.cell (Gr.trans G4r.out hg) (p := ⟨b9, i, none⟩) HB9.out).trans hui)
          have HRi : Hid (Rd wr ui Ms[i]) := hri.kept G4r.out
          have HNi : Hid (∀ k (h : k < Ms.length), k < i → (Ms[i] == Ms[k]) = false) := (show ∀ k h, _ from fun k h hki => HNE.out i k hiM h (by omega))
          obtain ⟨ri, ci, rfl, -⟩ := hri
          generalize Ms[i] = mi at *
          generalize Gs[i] = Gi at *
          clear hui
          go_upto_region 9 with fail
          refine wp_region_inv Tryd.mixed (KS (fun i_ => match i_ with | 0 => .val (.slice (some ⟨b10, 0, none⟩) 7 cap10) | 1 | 5 => .val (.int .i64 (i : Int)) | 2 => .val (.pointer (some ⟨b10, 32 * i, none⟩)) | 3 | 8 => .val (.agg (By (Gi)).toArray) | 4 => .val (.slice (some ⟨b9, 0, none⟩) 7 7) | 6 => .val (.pointer (some ⟨b9, i, none⟩)) | 7 => .val (.slice ri mi.length ci) | 9 => .val (.bool false) | _ => .free)) 122 rfl (by decide +kernel) (KS_mono _) ?_ ?_
          · refine AllFrom.cons (fun a' w' hg hk hd => ?_) (AllFrom.cons (fun a' w' hg hk hd => ?_) (AllFrom.cons (fun a' w' hg hk hd => ?_) (AllFrom.cons (fun a' w' hg hk hd => ?_) (AllFrom.cons (fun a' w' hg hk hd => ?_) (AllFrom.cons (fun a' w' hg hk hd => ?_) (AllFrom.cons (fun a' w' hg hk hd => ?_) (AllFrom.cons (fun a' w' hg hk hd => ?_) (AllFrom.cons (fun a' w' hg hk hd => ?_) (AllFrom.cons (fun a' w' hg hk hd => ?_) AllFrom.nil)))))))))
            · -- 0: Op.move (Operand.tmp 10)
              intro Q
              have e10 : a'.eval (.tmp 10) = .slice (some ⟨b10, 0, none⟩) 7 cap10 := hk.at 10 (by decide +kernel)
              exact wp_value _ (by simp only [execOp, e10]; rfl) (KS_mkv rfl rfl)
            · -- 1: Op.move (Operand.tmp 11)
              intro Q
              have e11 : a'.eval (.tmp 11) = .int .i64 (i : Int) := hk.at 11 (by decide +kernel)
              exact wp_value _ (by simp only [execOp, e11]; rfl) (KS_mkv rfl rfl)
            · -- 2: Op.indexAddr 37 (Operand.tmp 74) (Operand.tmp 75)
              intro Q
              have e74 : a'.eval (.tmp 74) = .slice (some ⟨b10, 0, none⟩) 7 cap10 := KS_val (hd.val 0 74 (by decide +kernel)) rfl
              have e75 : a'.eval (.tmp 75) = .int .i64 (i : Int) := KS_val (hd.val 1 75 (by decide +kernel)) rfl
              clear hd hk
              exact wp_value (.pointer (some ⟨b10, 32 * i, none⟩)) (by simp only [execOp, e74, e75]; go_simp) (KS_mkv rfl rfl)
            · -- 3: Op.load 24 (Operand.tmp 76)
              intro Q
              have e76 : a'.eval (.tmp 76) = .pointer (some ⟨b10, 32 * i, none⟩) := KS_val (hd.val 2 76 (by decide +kernel)) rfl
              exact wp_load_row 24 _ rfl _ _ e76 (By Gi) _ (HGi.out _ hg) Tryd.underlying24 rfl (by rw [By_length, hGi]; exact Tryd.size24) (KS_mkv rfl rfl)
            · -- 4: Op.move (Operand.tmp 9)
              intro Q
              have e9 : a'.eval (.tmp 9) = .slice (some ⟨b9, 0, none⟩) 7 7 := hk.at 9 (by decide +kernel)
              exact wp_value _ (by simp only [execOp, e9]; rfl) (KS_mkv rfl rfl)
            · -- 5: Op.move (Operand.tmp 11)
              intro Q
              have e11 : a'.eval (.tmp 11) = .int .i64 (i : Int) := hk.at 11 (by decide +kernel)
              exact wp_value _ (by simp only [execOp, e11]; rfl) (KS_mkv rfl rfl)
            · -- 6: Op.indexAddr 33 (Operand.tmp 78) (Operand.tmp 79)
              intro Q
              have e78 : a'.eval (.tmp 78) = .slice (some ⟨b9, 0, none⟩) 7 7 := KS_val (hd.val 4 78 (by decide +kernel)) rfl
              have e79 : a'.eval (.tmp 79) = .int .i64 (i : Int) := KS_val (hd.val 5 79 (by decide +kernel)) rfl
              clear hd hk
              exact wp_value (.pointer (some ⟨b9, i, none⟩)) (by simp only [execOp, e78, e79]; go_simp) (KS_mkv rfl rfl)
            · -- 7: Op.load 22 (Operand.tmp 80)
              intro Q
              have e80 : a'.eval (.tmp 80) = .pointer (some ⟨b9, i, none⟩) := KS_val (hd.val 6 80 (by decide +kernel)) rfl
              have hc := HMi.out _ hg
              clear hd hk
              exact wp_value (.slice ri mi.length ci) (by simp only [execOp, e80]; go_simp) (KS_mkv rfl rfl)
            · -- 8: Op.call ( callee := Callee.value (Operand.func 27), args := #[Operand.
              intro Q
              have e81 : a'.eval (.tmp 81) = .slice ri mi.length ci := KS_val (hd.val 7 81 (by decide +kernel)) rfl
              refine wp_call 27 _ (run_enter 27 _ _ rfl (by kernel_rfl)) ?_
              simp only [List.map_toArray, List.map_nil, List.map_cons, e81]
              refine (refSum_any _ mi (by omega) _ (HRi.out.kept hg)).mono ?_
              rw [HSi.out]
              rintro e w5 ⟨rfl, hb5⟩
              exact ⟨_, rfl, KS_mkv rfl rfl, hb5⟩
            · -- 9: Op.binOp BinOp.neq 24 (Operand.tmp 77) (Operand.tmp 82) 24
              intro Q
              have e77 : a'.eval (.tmp 77) = .agg (By (Gi)).toArray := KS_val (hd.val 3 77 (by decide +kernel)) rfl
              have e82 : a'.eval (.tmp 82) = .agg (By (Gi)).toArray := KS_val (hd.val 8 82 (by decide +kernel)) rfl
              clear hd hk
              exact wp_value (.bool false) (by simp only [execOp, e77, e82]; have he := eGi; go_simp) (KS_mkv rfl rfl)
          · intro a3 w5 hsz3 hdf3 hk3 hall3 hg3
            have G5 : Hid (Gr w4 w5) := G4r.out.trans hg3
            have HMi2 : Hid (∀ w', Gr w5 w' → w'.cell? ⟨b9, i, none⟩ = some (.slice ri mi.length ci)) := (show ∀ w', Gr w5 w' → _ from fun w' hg => HMi.out w' (Gr.trans hg3 hg))
            have HRi2 : Hid (Rd w5 (.slice ri mi.length ci) mi) := HRi.out.kept hg3
            clear HGi HMi HRi eGi HSi hg3
            have e74 : a3.eval (.tmp 74) = .slice (some ⟨b10, 0, none⟩) 7 cap10 := KS_val (hall3 0 _ 74 rfl rfl) rfl
            have e75 : a3.eval (.tmp 75) = .int .i64 (i : Int) := KS_val (hall3 1 _ 75 rfl rfl) rfl
            have e76 : a3.eval (.tmp 76) = .pointer (some ⟨b10, 32 * i, none⟩) := KS_val (hall3 2 _ 76 rfl rfl) rfl
            have e77 : a3.eval (.tmp 77) = .agg (By (Gi)).toArray := KS_val (hall3 3 _ 77 rfl rfl) rfl
            have e78 : a3.eval (.tmp 78) = .slice (some ⟨b9, 0, none⟩) 7 7 := KS_val (hall3 4 _ 78 rfl rfl) rfl
            have e79 : a3.eval (.tmp 79) = .int .i64 (i : Int) := KS_val (hall3 5 _ 79 rfl rfl) rfl
            have e80 : a3.eval (.tmp 80) = .pointer (some ⟨b9, i, none⟩) := KS_val (hall3 6 _ 80 rfl rfl) rfl
            have e81 : a3.eval (.tmp 81) = .slice ri mi.length ci := KS_val (hall3 7 _ 81 rfl rfl) rfl
            have e82 : a3.eval (.tmp 82) = .agg (By (Gi)).toArray := KS_val (hall3 8 _ 82 rfl rfl) rfl
            have e83 : a3.eval (.tmp 83) = .bool false := KS_val (hall3 9 _ 83 rfl rfl) rfl
            have ha := act_puts 122 rfl hsz3 hdf3 hk3 [74, 75, 76, 77, 78, 79, 80, 81, 82, 83] (by decide +kernel)
            simp only [puts, List.foldl_cons, List.foldl_nil, e74, e75, e76, e77, e78, e79, e80, e81, e82, e83] at ha
            simp only [Act.put, List.setIfInBounds_toArray, List.set_cons_succ, List.set_cons_zero] at ha
            clear hall3 hk3 hsz3 hdf3 e74 e75 e76 e77 e78 e79 e80 e81 e82 e83
            subst ha
            have hsl : ∀ W : World, (Instr.sliceAt 33 (.slice (some ⟨b9, 0, none⟩) 7 7) none (some (.int .i64 (i : Int))) none).run Tryd.prog W = .ok (.slice (some ⟨b9, 0, none⟩) i 7) W := fun W => slice_rows b9 i (by omega) W
            go_wp2_with fail
            go_loopg [88] (i + 1) (fun g z wq => Hid (Gr w5 wq) ∧ ∃ k : Nat, k ≤ i ∧ g + k = i + 1 ∧ z = .int .i64 k)
            case atStart => exact ⟨Gr.refl _, 0, by omega, by omega, rfl⟩
            case round =>
              obtain ⟨G6r, k, hk, hgk2, rfl⟩ := hrel
              by_cases hlk : k < i
              · have q4 : (k : Int) < (i : Int) := by omega
                have q5 : (k : Int) < 7 := by omega
                have hkM : k < Ms.length := by omega
                obtain ⟨uk, huk, hrk⟩ := HC9.out k hkM
                rw [Nat.zero_add] at huk
                have Gw : Gr w4 wr := G5.out.trans G6r.out
                have HMi3 := HMi2.out
                have HRi3 := HRi2.out
                have HMi2 : Hid (∀ w', Gr wr w' → w'.cell? ⟨b9, i, none⟩ = some (.slice ri mi.length ci)) := (show ∀ w', Gr wr w' → _ from fun w' hg => HMi3 w' (Gr.trans G6r.out hg))
                have HRi2 : Hid (Rd wr (.slice ri mi.length ci) mi) := HRi3.kept G6r.out
                have HMk : Hid (∀ w', Gr wr w' → w'.cell? ⟨b9, k, none⟩ = some uk) := (show ∀ w', Gr wr w' → _ from fun w' hg => (Below.cell (Gr.trans Gw hg) (p := ⟨b9, k, none⟩) HB9.out).trans huk)
                have HRk : Hid (Rd wr uk Ms[k]) := hrk.kept Gw
                have HNik : Hid _ := HNi.out k hkM hlk
                obtain ⟨rk, ck, rfl, -⟩ := hrk
                generalize Ms[k] = mk at *
                clear huk HMi3 HRi3
                go_upto_region 14 with fail
                refine wp_region_inv Tryd.mixed (KS (fun i_ => match i_ with | 0 | 5 => .val (.slice (some ⟨b9, 0, none⟩) 7 7) | 1 => .val (.int .i64 (i : Int)) | 2 => .val (.pointer (some ⟨b9, i, none⟩)) | 3 => .val (.slice ri mi.length ci) | 4 => .val (.string ⟨mi.toArray⟩) | 6 => .val (.int .i64 (k : Int)) | 7 => .val (.pointer (some ⟨b9, k, none⟩)) | 8 => .val (.slice rk mk.length ck) | 9 => .val (.string ⟨mk.toArray⟩) | 10 => .val (.bool false) | _ => .free)) 122 rfl (by decide +kernel) (KS_mono _) ?_ ?_
                · refine AllFrom.cons (fun a' w' hg hk hd => ?_) (AllFrom.cons (fun a' w' hg hk hd => ?_) (AllFrom.cons (fun a' w' hg hk hd => ?_) (AllFrom.cons (fun a' w' hg hk hd => ?_) (AllFrom.cons (fun a' w' hg hk hd => ?_) (AllFrom.cons (fun a' w' hg hk hd => ?_) (AllFrom.cons (fun a' w' hg hk hd => ?_) (AllFrom.cons (fun a' w' hg hk hd => ?_) (AllFrom.cons (fun a' w' hg hk hd => ?_) (AllFrom.cons (fun a' w' hg hk hd => ?_) (AllFrom.cons (fun a' w' hg hk hd => ?_) AllFrom.nil))))))))))
                  · -- 0: Op.move (Operand.tmp 9)
                    intro Q
                    have e9 : a'.eval (.tmp 9) = .slice (some ⟨b9, 0, none⟩) 7 7 := hk.at 9 (by decide +kernel)
                    exact wp_value _ (by simp only [execOp, e9]; rfl) (KS_mkv rfl rfl)
                  · -- 1: Op.move (Operand.tmp 11)
                    intro Q
                    have e11 : a'.eval (.tmp 11) = .int .i64 (i : Int) := hk.at 11 (by decide +kernel)
                    exact wp_value _ (by simp only [execOp, e11]; rfl) (KS_mkv rfl rfl)
                  · -- 2: Op.indexAddr 33 (Operand.tmp 91) (Operand.tmp 92)
                    intro Q
                    have e91 : a'.eval (.tmp 91) = .slice (some ⟨b9, 0, none⟩) 7 7 := KS_val (hd.val 0 91 (by decide +kernel)) rfl
                    have e92 : a'.eval (.tmp 92) = .int .i64 (i : Int) := KS_val (hd.val 1 92 (by decide +kernel)) rfl
                    clear hd hk
                    exact wp_value (.pointer (some ⟨b9, i, none⟩)) (by simp only [execOp, e91, e92]; go_simp) (KS_mkv rfl rfl)
                  · -- 3: Op.load 22 (Operand.tmp 93)
                    intro Q
                    have e93 : a'.eval (.tmp 93) = .pointer (some ⟨b9, i, none⟩) := KS_val (hd.val 2 93 (by decide +kernel)) rfl
                    have hc := HMi2.out _ hg
                    clear hd hk
                    exact wp_value (.slice ri mi.length ci) (by simp only [execOp, e93]; go_simp) (KS_mkv rfl rfl)
                  · -- 4: Op.convert 22 9 (Operand.tmp 94)
                    intro Q
                    have e94 : a'.eval (.tmp 94) = .slice ri mi.length ci := KS_val (hd.val 3 94 (by decide +kernel)) rfl
                    exact wp_value _ (by simp only [execOp, e94, (HRi2.out.kept hg).conv (P := Tryd.prog) 22 9 Tryd.underlying22 Tryd.underlying5 Tryd.underlying9, Sem.run_bind, Result.andThen_ok]; rfl) (KS_mkv rfl rfl)
                  · -- 5: Op.move (Operand.tmp 9)
                    intro Q
                    have e9 : a'.eval (.tmp 9) = .slice (some ⟨b9, 0, none⟩) 7 7 := hk.at 9 (by decide +kernel)
                    exact wp_value _ (by simp only [execOp, e9]; rfl) (KS_mkv rfl rfl)
                  · -- 6: Op.move (Operand.tmp 12)
                    intro Q
                    have e12 : a'.eval (.tmp 12) = .int .i64 (k : Int) := hk.at 12 (by decide +kernel)
                    exact wp_value _ (by simp only [execOp, e12]; rfl) (KS_mkv rfl rfl)
                  · -- 7: Op.indexAddr 33 (Operand.tmp 96) (Operand.tmp 97)
                    intro Q
                    have e96 : a'.eval (.tmp 96) = .slice (some ⟨b9, 0, none⟩) 7 7 := KS_val (hd.val 5 96 (by decide +kernel)) rfl
                    have e97 : a'.eval (.tmp 97) = .int .i64 (k : Int) := KS_val (hd.val 6 97 (by decide +kernel)) rfl
                    clear hd hk
                    exact wp_value (.pointer (some ⟨b9, k, none⟩)) (by simp only [execOp, e96, e97]; go_simp) (KS_mkv rfl rfl)
                  · -- 8: Op.load 22 (Operand.tmp 98)
                    intro Q
                    have e98 : a'.eval (.tmp 98) = .pointer (some ⟨b9, k, none⟩) := KS_val (hd.val 7 98 (by decide +kernel)) rfl
                    have hc := HMk.out _ hg
                    clear hd hk
                    exact wp_value (.slice rk mk.length ck) (by simp only [execOp, e98]; go_simp) (KS_mkv rfl rfl)
                  · -- 9: Op.convert 22 9 (Operand.tmp 99)
                    intro Q
                    have e99 : a'.eval (.tmp 99) = .slice rk mk.length ck := KS_val (hd.val 8 99 (by decide +kernel)) rfl
                    exact wp_value _ (by simp only [execOp, e99, (HRk.out.kept hg).conv (P := Tryd.prog) 22 9 Tryd.underlying22 Tryd.underlying5 Tryd.underlying9, Sem.run_bind, Result.andThen_ok]; rfl) (KS_mkv rfl rfl)
                  · -- 10: Op.binOp BinOp.eql 9 (Operand.tmp 95) (Operand.tmp 100) 9
                    intro Q
                    have e95 : a'.eval (.tmp 95) = .string ⟨mi.toArray⟩ := KS_val (hd.val 4 95 (by decide +kernel)) rfl
                    have e100 : a'.eval (.tmp 100) = .string ⟨mk.toArray⟩ := KS_val (hd.val 9 100 (by decide +kernel)) rfl
                    clear hd hk
                    exact wp_value (.bool false) (by simp only [execOp, e95, e100]; have he := HNik.out; go_simp) (KS_mkv rfl rfl)
                · intro a4 w6 hsz4 hdf4 hk4 hall4 hg4
                  have G7 : Hid (Gr w5 w6) := G6r.out.trans hg4
                  clear hg4 HMi2 HRi2 HMk HRk HNik
                  have e91 : a4.eval (.tmp 91) = .slice (some ⟨b9, 0, none⟩) 7 7 := KS_val (hall4 0 _ 91 rfl rfl) rfl
                  have e92 : a4.eval (.tmp 92) = .int .i64 (i : Int) := KS_val (hall4 1 _ 92 rfl rfl) rfl
                  have e93 : a4.eval (.tmp 93) = .pointer (some ⟨b9, i, none⟩) := KS_val (hall4 2 _ 93 rfl rfl) rfl
                  have e94 : a4.eval (.tmp 94) = .slice ri mi.length ci := KS_val (hall4 3 _ 94 rfl rfl) rfl
                  have e95 : a4.eval (.tmp 95) = .string ⟨mi.toArray⟩ := KS_val (hall4 4 _ 95 rfl rfl) rfl
                  have e96 : a4.eval (.tmp 96) = .slice (some ⟨b9, 0, none⟩) 7 7 := KS_val (hall4 5 _ 96 rfl rfl) rfl
                  have e97 : a4.eval (.tmp 97) = .int .i64 (k : Int) := KS_val (hall4 6 _ 97 rfl rfl) rfl
                  have e98 : a4.eval (.tmp 98) = .pointer (some ⟨b9, k, none⟩) := KS_val (hall4 7 _ 98 rfl rfl) rfl
                  have e99 : a4.eval (.tmp 99) = .slice rk mk.length ck := KS_val (hall4 8 _ 99 rfl rfl) rfl
                  have e100 : a4.eval (.tmp 100) = .string ⟨mk.toArray⟩ := KS_val (hall4 9 _ 100 rfl rfl) rfl
                  have e101 : a4.eval (.tmp 101) = .bool false := KS_val (hall4 10 _ 101 rfl rfl) rfl
                  have ha := act_puts 122 rfl hsz4 hdf4 hk4 [91, 92, 93, 94, 95, 96, 97, 98, 99, 100, 101] (by decide +kernel)
                  simp only [puts, List.foldl_cons, List.foldl_nil, e91, e92, e93, e94, e95, e96, e97, e98, e99, e100, e101] at ha
                  simp only [Act.put, List.setIfInBounds_toArray, List.set_cons_succ, List.set_cons_zero] at ha
                  clear hall4 hk4 hsz4 hdf4 e91 e92 e93 e94 e95 e96 e97 e98 e99 e100 e101
                  subst ha
                  go_wp2
                  go_roundg (gk - 1)
                  case measure => omega
                  case rel => exact ⟨G7, k + 1, by omega, by omega, by go_num⟩
              · obtain rfl : k = i := by omega
                have q4 : ¬ (k : Int) < (k : Int) := by omega
                have G7 : Hid (Gr w4 wr) := G5.out.trans G6r.out
                go_wp2
                go_roundg (gko - 1)
                case measure => omega
                case rel => exact ⟨G7, k + 1, by omega, by omega, by go_num⟩
        · obtain rfl : i = 7 := by omega
          have G9 : Gr w4 wr := G4r.out
          have L9 : Below N w wr := HL4.out.trans (Below.mono G9 (by have := HL4.out.size; rwa [HN.out] at this))
          have HT9 : Tabs wr := HT.out.kept (L9.mono HNT.out)
          have Ra9 : Rd wr (.slice aa a.length ca) a := HS.out.kept (by rw [HN.out]; exact L9)
          have Rb9 : Rd wr (.slice ab b.length cb) b := HTT.out.kept (by rw [HN.out]; exact L9)
          obtain ⟨n0, Hn0⟩ : ∃ m, Hid (0 :: [b].flatten = m) := ⟨_, rfl⟩
          obtain ⟨E, HE2⟩ : ∃ E, Hid ((a == b) = E) := ⟨_, rfl⟩
          have HE1 : Hid ((m0 == n0) = E) := (show _ = _ by rw [← Hm0.out, ← Hn0.out, ← HE2.out]; simp)
          go_upto_region 18 with fail
          refine wp_region_inv Tryd.mixed (KS (fun i_ => match i_ with | 0 | 9 => .rd (a) | 1 => .rows ([a]) | 2 => .rd (m0) | 3 => .val (.string ⟨(m0).toArray⟩) | 4 | 11 => .rd (b) | 5 => .rows ([b]) | 6 => .rd (n0) | 7 => .val (.string ⟨(n0).toArray⟩) | 8 | 13 => .val (.bool E) | 10 => .val (.string ⟨(a).toArray⟩) | 12 => .val (.string ⟨(b).toArray⟩) | 14 | 15 | 16 | 17 | 18 => .val (.bool true) | _ => .free)) 122 rfl (by decide +kernel) (KS_mono _) ?_ ?_
          · refine AllFrom.cons (fun a' w' hg hk hd => ?_) (AllFrom.cons (fun a' w' hg hk hd => ?_) (AllFrom.cons (fun a' w' hg hk hd => ?_) (AllFrom.cons (fun a' w' hg hk hd => ?_) (AllFrom.cons (fun a' w' hg hk hd => ?_) (AllFrom.cons (fun a' w' hg hk hd => ?_) (AllFrom.cons (fun a' w' hg hk hd => ?_) (AllFrom.cons (fun a' w' hg hk hd => ?_) (AllFrom.cons (fun a' w' hg hk hd => ?_) (AllFrom.cons (fun a' w' hg hk hd => ?_) (AllFrom.cons (fun a' w' hg hk hd => ?_) (AllFrom.cons (fun a' w' hg hk hd => ?_) (AllFrom.cons (fun a' w' hg hk hd => ?_) (AllFrom.cons (fun a' w' hg hk hd => ?_) (AllFrom.cons (fun a' w' hg hk hd => ?_) (AllFrom.cons (fun a' w' hg hk hd => ?_) (AllFrom.cons (fun a' w' hg hk hd => ?_) (AllFrom.cons (fun a' w' hg hk hd => ?_) (AllFrom.cons (fun a' w' hg hk hd => ?_) AllFrom.nil))))))))))))))))))
            · -- 0: Op.move (Operand.tmp 7)
              intro Q
              have r7 : Rd w' (a'.eval (.tmp 7)) (a) := by rw [hk.at 7 (by decide +kernel)]; exact Rd.kept (Ra9) hg
              exact wp_value (a'.eval (.tmp 7)) (by simp only [execOp]; rfl) (KS_mkr rfl r7)
            · -- 1: Op.buildSlice 33 1 #[(0, Operand.tmp 104)]
              intro Q
              have r104 : Rd w' (a'.eval (.tmp 104)) (a) := KS_rd (hd.val 0 104 (by decide +kernel)) rfl
              obtain ⟨a104, c104, f104⟩ := r104.slice
              rw [f104] at r104
              exact wp_grow _ _ (by simp only [execOp, List.map_toArray, List.map_cons, List.map_nil, f104]; go_simp) ((Below.refl _ _).alloc (Nat.le_refl _) _) (KS_mkR rfl (rows_list w' [_] _ ⟨r104, True.intro⟩))
            · -- 2: Op.call ( callee := Callee.value (Operand.func 25), args := #[Operand.
              intro Q
              have r105 : RdR w' (a'.eval (.tmp 105)) ([a]) := KS_rows (hd.val 1 105 (by decide +kernel)) rfl
              refine wp_call 25 _ (run_enter 25 _ _ rfl (by kernel_rfl)) ?_
              simp only [List.map_toArray, List.map_nil, List.map_cons]
              refine (bytes_any 0 _ [a] _ r105 (by simp; omega) (by simp)).mono ?_
              rw [Hm0.out]
              rintro e w5 ⟨v5, rfl, ho5, hb5⟩
              exact ⟨v5, rfl, KS_mkr rfl ho5.rd, hb5⟩
            · -- 3: Op.convert 22 9 (Operand.tmp 106)
              intro Q
              have r106 : Rd w' (a'.eval (.tmp 106)) (m0) := KS_rd (hd.val 2 106 (by decide +kernel)) rfl
              exact wp_value _ (by simp only [execOp, r106.conv (P := Tryd.prog) 22 9 Tryd.underlying22 Tryd.underlying5 Tryd.underlying9, Sem.run_bind, Result.andThen_ok]; rfl) (KS_mkv rfl rfl)
            · -- 4: Op.move (Operand.tmp 8)
              intro Q
              have r8 : Rd w' (a'.eval (.tmp 8)) (b) := by rw [hk.at 8 (by decide +kernel)]; exact Rd.kept (Rb9) hg
              exact wp_value (a'.eval (.tmp 8)) (by simp only [execOp]; rfl) (KS_mkr rfl r8)
            · -- 5: Op.buildSlice 33 1 #[(0, Operand.tmp 108)]
              intro Q
              have r108 : Rd w' (a'.eval (.tmp 108)) (b) := KS_rd (hd.val 4 108 (by decide +kernel)) rfl
              obtain ⟨a108, c108, f108⟩ := r108.slice
              rw [f108] at r108
              exact wp_grow _ _ (by simp only [execOp, List.map_toArray, List.map_cons, List.map_nil, f108]; go_simp) ((Below.refl _ _).alloc (Nat.le_refl _) _) (KS_mkR rfl (rows_list w' [_] _ ⟨r108, True.intro⟩))
            · -- 6: Op.call ( callee := Callee.value (Operand.func 25), args := #[Operand.
              intro Q
              have r109 : RdR w' (a'.eval (.tmp 109)) ([b]) := KS_rows (hd.val 5 109 (by decide +kernel)) rfl
              refine wp_call 25 _ (run_enter 25 _ _ rfl (by kernel_rfl)) ?_
              simp only [List.map_toArray, List.map_nil, List.map_cons]
              refine (bytes_any 0 _ [b] _ r109 (by simp; omega) (by simp)).mono ?_
              rw [Hn0.out]
              rintro e w5 ⟨v5, rfl, ho5, hb5⟩
              exact ⟨v5, rfl, KS_mkr rfl ho5.rd, hb5⟩
            · -- 7: Op.convert 22 9 (Operand.tmp 110)
              intro Q
              have r110 : Rd w' (a'.eval (.tmp 110)) (n0) := KS_rd (hd.val 6 110 (by decide +kernel)) rfl
              exact wp_value _ (by simp only [execOp, r110.conv (P := Tryd.prog) 22 9 Tryd.underlying22 Tryd.underlying5 Tryd.underlying9, Sem.run_bind, Result.andThen_ok]; rfl) (KS_mkv rfl rfl)
            · -- 8: Op.binOp BinOp.eql 9 (Operand.tmp 107) (Operand.tmp 111) 9
              intro Q
              have e107 : a'.eval (.tmp 107) = .string ⟨(m0).toArray⟩ := KS_val (hd.val 3 107 (by decide +kernel)) rfl
              have e111 : a'.eval (.tmp 111) = .string ⟨(n0).toArray⟩ := KS_val (hd.val 7 111 (by decide +kernel)) rfl
              clear hd hk
              exact wp_value (.bool E) (by simp only [execOp, e107, e111]; have h1 := HE1.out; have h2 := HE2.out; go_simp) (KS_mkv rfl rfl)
            · -- 9: Op.move (Operand.tmp 7)
              intro Q
              have r7 : Rd w' (a'.eval (.tmp 7)) (a) := by rw [hk.at 7 (by decide +kernel)]; exact Rd.kept (Ra9) hg
              exact wp_value (a'.eval (.tmp 7)) (by simp only [execOp]; rfl) (KS_mkr rfl r7)
            · -- 10: Op.convert 22 9 (Operand.tmp 113)
              intro Q
              have r113 : Rd w' (a'.eval (.tmp 113)) (a) := KS_rd (hd.val 9 113 (by decide +kernel)) rfl
              exact wp_value _ (by simp only [execOp, r113.conv (P := Tryd.prog) 22 9 Tryd.underlying22 Tryd.underlying5 Tryd.underlying9, Sem.run_bind, Result.andThen_ok]; rfl) (KS_mkv rfl rfl)
            · -- 11: Op.move (Operand.tmp 8)
              intro Q
              have r8 : Rd w' (a'.eval (.tmp 8)) (b) := by rw [hk.at 8 (by decide +kernel)]; exact Rd.kept (Rb9) hg
              exact wp_value (a'.eval (.tmp 8)) (by simp only [execOp]; rfl) (KS_mkr rfl r8)
            · -- 12: Op.convert 22 9 (Operand.tmp 115)
              intro Q
              have r115 : Rd w' (a'.eval (.tmp 115)) (b) := KS_rd (hd.val 11 115 (by decide +kernel)) rfl
              exact wp_value _ (by simp only [execOp, r115.conv (P := Tryd.prog) 22 9 Tryd.underlying22 Tryd.underlying5 Tryd.underlying9, Sem.run_bind, Result.andThen_ok]; rfl) (KS_mkv rfl rfl)
            · -- 13: Op.binOp BinOp.eql 9 (Operand.tmp 114) (Operand.tmp 116) 9
              intro Q
              have e114 : a'.eval (.tmp 114) = .string ⟨(a).toArray⟩ := KS_val (hd.val 10 114 (by decide +kernel)) rfl
              have e116 : a'.eval (.tmp 116) = .string ⟨(b).toArray⟩ := KS_val (hd.val 12 116 (by decide +kernel)) rfl
              clear hd hk
              exact wp_value (.bool E) (by simp only [execOp, e114, e116]; have h1 := HE1.out; have h2 := HE2.out; go_simp) (KS_mkv rfl rfl)
            · -- 14: Op.binOp BinOp.eql 4 (Operand.tmp 112) (Operand.tmp 117) 4
              intro Q
              have e112 : a'.eval (.tmp 112) = .bool E := KS_val (hd.val 8 112 (by decide +kernel)) rfl
              have e117 : a'.eval (.tmp 117) = .bool E := KS_val (hd.val 13 117 (by decide +kernel)) rfl
              clear hd hk
              exact wp_value (.bool true) (by simp only [execOp, e112, e117]; go_simp) (KS_mkv rfl rfl)
            · -- 15: Op.move (Operand.tmp 118)
              intro Q
              have e118 : a'.eval (.tmp 118) = .bool true := KS_val (hd.val 14 118 (by decide +kernel)) rfl
              exact wp_value _ (by simp only [execOp, e118]; rfl) (KS_mkv rfl rfl)
            · -- 16: Op.call ( callee := Callee.value (Operand.func 8), args := #[], argTyp
              have eg : a'.eval (.tmp 119) = .bool true := KS_val (hd.val 15 119 (by decide +kernel)) rfl
              refine ⟨119, true, rfl, eg, fun _ Q => ?_, fun h => absurd rfl h⟩
              refine wp_call 8 _ (run_enter 8 _ _ rfl (by kernel_rfl)) ?_
              simp only [List.map_toArray, List.map_nil]
              refine (lives_any _ (HT9.gr hg)).mono ?_
              rintro e w5 ⟨rfl, hb5⟩
              exact ⟨_, rfl, KS_mkv rfl rfl, hb5⟩
            · -- 17: Op.pick (Operand.tmp 119) (Operand.tmp 120) (Operand.const (Value.bool
              intro Q
              have e119 : a'.eval (.tmp 119) = .bool true := KS_val (hd.val 15 119 (by decide +kernel)) rfl
              have e120 : a'.eval (.tmp 120) = .bool true := KS_val (hd.val 16 120 (by decide +kernel)) rfl
              clear hd hk
              exact wp_value (.bool true) (by simp only [execOp, e119, e120]; go_simp) (KS_mkv rfl rfl)
            · -- 18: Op.assign (Operand.tmp 121)
              intro Q
              have e121 : a'.eval (.tmp 121) = .bool true := KS_val (hd.val 17 121 (by decide +kernel)) rfl
              exact wp_value _ (by simp only [execOp, e121]; rfl) (KS_mkv rfl rfl)
          · intro a' w' hsz hdf hk hall hg
            have ev : a'.eval (.tmp 6) = .bool true := KS_val (hall 18 _ 6 rfl rfl) rfl
            go_wp2
            exact bodyPost_ret (results_tmp Tryd.results5 _ _ _) hdf ⟨congrArg Ending.returned ev, by rw [HN.out]; exact L9.trans (Below.mono hg (by have := L9.size; rwa [HN.out] at this))⟩
end Go.Proofs.YtljmhbchcadnbaaDoor
