/-
  indenturelaw04.TagHashes: the walk.
-/
import Derived.Test.YtljmhbchcadnbaaDoorTag3
namespace Go.Proofs.YtljmhbchcadnbaaDoor
open Go.RowKit
set_option maxHeartbeats 2000000 in
set_option maxRecDepth 100000 in
theorem tagHashes_any (v : Value) (l x y : List UInt8) (bit : Int) (hx : x.length = 32) (hy : y.length = 32) (w : World) (hT : Tabs w) (hv : Rd w v l) :
    Calls Tryd.prog 3 #[v, .agg (By (x ++ y)).toArray, .int .i64 bit] w fun e w' => e = .returned (.bool true) ∧ Below w.heap.size w w' := by
  have HT : Hid (Tabs w) := hT
  have HV : Hid (Rd w v l) := hv
  obtain ⟨a, cap, rfl, -⟩ := hv
  clear hT
  obtain ⟨N, HN⟩ : ∃ N, Hid (w.heap.size = N) := ⟨_, rfl⟩
  have HNT : Hid (2 ≤ N) := (show _ by rw [← HN.out]; exact HT.out.size)
  obtain ⟨w1, hw1⟩ : ∃ z, z = w.alloc (.cells (By (x ++ y)).toArray 25 (0, 0)) := ⟨_, rfl⟩
  have BX : Blk w1 N 25 (By (x ++ y)) := by rw [hw1, ← HN.out]; exact Blk.new w 25 (By (x ++ y))
  have L1 : Below N w w1 := by rw [hw1, ← HN.out]; exact (Below.refl _ _).alloc (Nat.le_refl _) _
  have HT1 : Tabs w1 := HT.out.kept (L1.mono HNT.out)
  have HB : Hid (Blk w1 N 25 (By (x ++ y))) := BX
  have HL : Hid (Below N w w1) := L1
  have HT1' : Hid (Tabs w1) := HT1
  have HW1 : Hid _ := hw1
  clear hw1 BX L1 HT1
  by_cases hbig : 1000 < l.length
  · have q1 : (1000 : Int) < (l.length : Int) := by omega
    go_enter Tryd.func3, Tryd.ntmps3
    go_wp2_with fail
    rw [← HW1.out]
    refine (lives_any w1 HT1'.out).mono ?_
    rintro e w2 ⟨rfl, hb2⟩
    go_wp2
    go_ret
    exact ⟨rfl, by rw [HN.out]; exact HL.out.trans (hb2.mono (Nat.le_of_lt HB.out.lt))⟩
  have q1 : ¬ (1000 : Int) < (l.length : Int) := by omega
  go_enter Tryd.func3, Tryd.ntmps3
  go_upto_region 3 with fail
  rw [← HW1.out, HN.out]
  have BX := HB.out
  have RX : ∀ {w'}, Gr w1 w' → w'.rangeAt N 0 (By x) := fun hg => (By_range (BX.kept hg)).1
  have RY : ∀ {w'}, Gr w1 w' → w'.rangeAt N 32 (By y) := fun hg => by have := (By_range (BX.kept hg)).2; rwa [hx] at this
  refine wp_region_cells Tryd.mixed (KS (fun i_ => match i_ with | 0 => .val (.pointer (some ⟨N, 0, none⟩)) | 1 => .val (.agg (By (x)).toArray) | 2 => .val (.pointer (some ⟨N, 32, none⟩)) | 3 => .val (.agg (By (y)).toArray) | _ => .free)) [⟨4, 7, 6, 24, By (List.replicate 32 0), By x⟩, ⟨5, 8, 7, 24, By (List.replicate 32 0), By y⟩] 82 rfl (by decide +kernel) (KS_mono_val _ (fun i => by split <;> exact fun _ _ _ h => h)) (by intro c hc c' hc' e; simp only [List.mem_cons, List.not_mem_nil, or_false] at hc hc'; rcases hc with rfl | rfl <;> rcases hc' with rfl | rfl <;> first | rfl | (simp at e)) (by intro c hc c' hc' e; simp only [List.mem_cons, List.not_mem_nil, or_false] at hc hc'; rcases hc with rfl | rfl <;> rcases hc' with rfl | rfl <;> first | rfl | (simp at e)) (by intro c hc; simp only [List.mem_cons, List.not_mem_nil, or_false] at hc; rcases hc with rfl | rfl <;> rfl) ?_ ?_
  · refine AllFrom.cons ?_ (AllFrom.cons ?_ (AllFrom.cons ?_ (AllFrom.cons ?_ (AllFrom.cons ?_ (AllFrom.cons ?_ (AllFrom.cons ?_ (AllFrom.cons ?_ AllFrom.nil)))))))
    · -- 0: Op.indexAddr 25 (Operand.tmp 4) (Operand.const (Value.int IntKind.i64 
      refine .val rfl (notI rfl) (notS rfl) (fun a' w' hb hk hd Q => ?_)
      have e4 : a'.eval (.tmp 4) = .pointer (some ⟨N, 0, none⟩) := hk.at 4 (by decide +kernel)
      clear hd hk
      exact wp_value (.pointer (some ⟨N, 0, none⟩)) (by simp only [execOp, e4]; go_simp) (KS_mkv rfl rfl)
    · -- 1: Op.load 24 (Operand.tmp 13)
      refine .val rfl (notI rfl) (notS rfl) (fun a' w' hb hk hd Q => ?_)
      have e13 : a'.eval (.tmp 13) = .pointer (some ⟨N, 0, none⟩) := KS_val (hd 0 13 (by decide +kernel) (notI rfl)) rfl
      exact wp_load_row 24 _ rfl _ _ e13 (By x) _ (RX hb) Tryd.underlying24 rfl (by rw [By_length, hx]; exact Tryd.size24) (KS_mkv rfl rfl)
    · -- 2: Op.indexAddr 25 (Operand.tmp 4) (Operand.const (Value.int IntKind.i64 
      refine .val rfl (notI rfl) (notS rfl) (fun a' w' hb hk hd Q => ?_)
      have e4 : a'.eval (.tmp 4) = .pointer (some ⟨N, 0, none⟩) := hk.at 4 (by decide +kernel)
      clear hd hk
      exact wp_value (.pointer (some ⟨N, 32, none⟩)) (by simp only [execOp, e4]; go_simp) (KS_mkv rfl rfl)
    · -- 3: Op.load 24 (Operand.tmp 15)
      refine .val rfl (notI rfl) (notS rfl) (fun a' w' hb hk hd Q => ?_)
      have e15 : a'.eval (.tmp 15) = .pointer (some ⟨N, 32, none⟩) := KS_val (hd 2 15 (by decide +kernel) (notI rfl)) rfl
      exact wp_load_row 24 _ rfl _ _ e15 (By y) _ (RY hb) Tryd.underlying24 rfl (by rw [By_length, hy]; exact Tryd.size24) (KS_mkv rfl rfl)
    · -- 4: Op.alloc 24
      refine .new rfl _ (List.Mem.head _) rfl (notS rfl) rfl (fun a' w' => ?_)
      simp only [execOp]; go_simp; rfl
    · -- 5: Op.alloc 24
      refine .new rfl _ (List.Mem.tail _ (List.Mem.head _)) rfl (notS rfl) rfl (fun a' w' => ?_)
      simp only [execOp]; go_simp; rfl
    · -- 6: Op.store 24 (Operand.tmp 7) (Operand.tmp 14)
      refine .put rfl _ (List.Mem.head _) (notI rfl) rfl rfl (.tmp 14) rfl (by kernel_rfl) (fun a' w' hb hk hd => ?_) (by rw [By_length, By_length, hx]; rfl) (by rw [By_length, hx]; exact Tryd.size24) (By_one _)
      have e14 : a'.eval (.tmp 14) = .agg (By (x)).toArray := KS_val (hd 1 14 (by decide +kernel) (notI rfl)) rfl
      exact e14
    · -- 7: Op.store 24 (Operand.tmp 8) (Operand.tmp 16)
      refine .put rfl _ (List.Mem.tail _ (List.Mem.head _)) (notI rfl) rfl rfl (.tmp 16) rfl (by kernel_rfl) (fun a' w' hb hk hd => ?_) (by rw [By_length, By_length, hy]; rfl) (by rw [By_length, hy]; exact Tryd.size24) (By_one _)
      have e16 : a'.eval (.tmp 16) = .agg (By (y)).toArray := KS_val (hd 3 16 (by decide +kernel) (notI rfl)) rfl
      exact e16
  · intro a1 w2 hsz1 hdf1 hk1 _ hb2 hB
    obtain ⟨B, hB1, -⟩ := hB
    obtain ⟨E7, -, BX2⟩ := hB1 _ (List.Mem.head _) (show (4 : Nat) < 8 by decide) (show (6 : Nat) < 8 by decide)
    obtain ⟨E8, -, BY2⟩ := hB1 _ (List.Mem.tail _ (List.Mem.head _)) (show (5 : Nat) < 8 by decide) (show (7 : Nat) < 8 by decide)
    simp only at E7 E8 BX2 BY2
    generalize B 4 = b at *
    generalize B 5 = c at *
    have E0 : a1.eval (.tmp 0) = .slice a l.length cap := hk1.at 0 (by decide +kernel)
    have E2 : a1.eval (.tmp 2) = .int .i64 bit := hk1.at 2 (by decide +kernel)
    have L2 : Below N w w2 := HL.out.trans (hb2.mono (Nat.le_of_lt BX.lt))
    have HT2 : Tabs w2 := HT.out.kept (L2.mono HNT.out)
    have R2 : Rd w2 (a1.eval (.tmp 0)) l := by rw [E0]; exact HV.out.kept (by rw [HN.out]; exact L2)
    clear hB1 hk1
    obtain ⟨G0, HG0⟩ : ∃ G, Hid (tg 0 [l] = G) := ⟨_, rfl⟩
    have hG0 : G0.length = 32 := by rw [← HG0.out]; exact sha_length _
    have eG0 := eq24 G0 G0 hG0 hG0
    obtain ⟨G1, HG1⟩ : ∃ G, Hid (tg 1 [x, y] = G) := ⟨_, rfl⟩
    have hG1 : G1.length = 32 := by rw [← HG1.out]; exact sha_length _
    have eG1 := eq24 G1 G1 hG1 hG1
    obtain ⟨G3, HG3⟩ : ∃ G, Hid (tg 3 [x, y] = G) := ⟨_, rfl⟩
    have hG3 : G3.length = 32 := by rw [← HG3.out]; exact sha_length _
    have eG3 := eq24 G3 G3 hG3 hG3
    obtain ⟨G4, HG4⟩ : ∃ G, Hid (tg 4 [[UInt8.ofNat (bit % 256).toNat], x, y] = G) := ⟨_, rfl⟩
    have hG4 : G4.length = 32 := by rw [← HG4.out]; exact sha_length _
    have eG4 := eq24 G4 G4 hG4 hG4
    obtain ⟨G2, HG2⟩ : ∃ G, Hid (tg 2 [l] = G) := ⟨_, rfl⟩
    have hG2 : G2.length = 32 := by rw [← HG2.out]; exact sha_length _
    have eG2 := eq24 G2 G2 hG2 hG2
    obtain ⟨G6, HG6⟩ : ∃ G, Hid (tg 6 [l] = G) := ⟨_, rfl⟩
    have hG6 : G6.length = 32 := by rw [← HG6.out]; exact sha_length _
    have eG6 := eq24 G6 G6 hG6 hG6
    obtain ⟨GE, HGE⟩ : ∃ G, Hid (sha [] = G) := ⟨_, rfl⟩
    have hGE : GE.length = 32 := by rw [← HGE.out]; exact sha_length _
    have eGE := eq24 GE GE hGE hGE
    obtain ⟨G5, HG5⟩ : ∃ G, Hid (tg 5 [] = G) := ⟨_, rfl⟩
    have hG5 : G5.length = 32 := by rw [← HG5.out]; exact sha_length _
    have eG5 := eq24 G5 G5 hG5 hG5
    simp only [beq_self_eq_true] at eG0 eG1 eG3 eG4 eG2 eG6 eGE eG5
    go_wp2_with fail
    refine wp_region_inv Tryd.mixed (KS (fun i_ => match i_ with | 0 | 2 | 35 | 38 | 44 | 47 => .rd (l) | 1 | 3 => .val (.agg (By (G0)).toArray) | 4 | 5 | 12 | 13 | 14 | 21 | 22 | 23 | 32 | 33 | 34 | 41 | 42 | 43 | 50 | 51 | 52 | 55 | 56 | 57 | 60 | 61 | 62 | 63 | 64 | 65 => .val (.bool true) | 6 | 9 | 15 | 18 | 25 | 29 => .val (.agg (By (x)).toArray) | 7 | 10 | 16 | 19 | 26 | 30 => .val (.agg (By (y)).toArray) | 8 | 11 => .val (.agg (By (G1)).toArray) | 17 | 20 => .val (.agg (By (G3)).toArray) | 24 | 28 => .val (.int .i64 bit) | 27 | 31 => .val (.agg (By (G4)).toArray) | 36 | 39 | 45 | 48 => .val (.string ⟨(l).toArray⟩) | 37 | 40 => .val (.agg (By (G2)).toArray) | 46 | 49 => .val (.agg (By (G6)).toArray) | 53 | 54 => .val (.agg (By (GE)).toArray) | 58 | 59 => .val (.agg (By (G5)).toArray) | _ => .free)) 82 hsz1 (by decide +kernel) (KS_mono _) ?_ ?_
    · refine AllFrom.cons (fun a' w' hg hk hd => ?_) (AllFrom.cons (fun a' w' hg hk hd => ?_) (AllFrom.cons (fun a' w' hg hk hd => ?_) (AllFrom.cons (fun a' w' hg hk hd => ?_) (AllFrom.cons (fun a' w' hg hk hd => ?_) (AllFrom.cons (fun a' w' hg hk hd => ?_) (AllFrom.cons (fun a' w' hg hk hd => ?_) (AllFrom.cons (fun a' w' hg hk hd => ?_) (AllFrom.cons (fun a' w' hg hk hd => ?_) (AllFrom.cons (fun a' w' hg hk hd => ?_) (AllFrom.cons (fun a' w' hg hk hd => ?_) (AllFrom.cons (fun a' w' hg hk hd => ?_) (AllFrom.cons (fun a' w' hg hk hd => ?_) (AllFrom.cons (fun a' w' hg hk hd => ?_) (AllFrom.cons (fun a' w' hg hk hd => ?_) (AllFrom.cons (fun a' w' hg hk hd => ?_) (AllFrom.cons (fun a' w' hg hk hd => ?_) (AllFrom.cons (fun a' w' hg hk hd => ?_) (AllFrom.cons (fun a' w' hg hk hd => ?_) (AllFrom.cons (fun a' w' hg hk hd => ?_) (AllFrom.cons (fun a' w' hg hk hd => ?_) (AllFrom.cons (fun a' w' hg hk hd => ?_) (AllFrom.cons (fun a' w' hg hk hd => ?_) (AllFrom.cons (fun a' w' hg hk hd => ?_) (AllFrom.cons (fun a' w' hg hk hd => ?_) (AllFrom.cons (fun a' w' hg hk hd => ?_) (AllFrom.cons (fun a' w' hg hk hd => ?_) (AllFrom.cons (fun a' w' hg hk hd => ?_) (AllFrom.cons (fun a' w' hg hk hd => ?_) (AllFrom.cons (fun a' w' hg hk hd => ?_) (AllFrom.cons (fun a' w' hg hk hd => ?_) (AllFrom.cons (fun a' w' hg hk hd => ?_) (AllFrom.cons (fun a' w' hg hk hd => ?_) (AllFrom.cons (fun a' w' hg hk hd => ?_) (AllFrom.cons (fun a' w' hg hk hd => ?_) (AllFrom.cons (fun a' w' hg hk hd => ?_) (AllFrom.cons (fun a' w' hg hk hd => ?_) (AllFrom.cons (fun a' w' hg hk hd => ?_) (AllFrom.cons (fun a' w' hg hk hd => ?_) (AllFrom.cons (fun a' w' hg hk hd => ?_) (AllFrom.cons (fun a' w' hg hk hd => ?_) (AllFrom.cons (fun a' w' hg hk hd => ?_) (AllFrom.cons (fun a' w' hg hk hd => ?_) (AllFrom.cons (fun a' w' hg hk hd => ?_) (AllFrom.cons (fun a' w' hg hk hd => ?_) (AllFrom.cons (fun a' w' hg hk hd => ?_) (AllFrom.cons (fun a' w' hg hk hd => ?_) (AllFrom.cons (fun a' w' hg hk hd => ?_) (AllFrom.cons (fun a' w' hg hk hd => ?_) (AllFrom.cons (fun a' w' hg hk hd => ?_) (AllFrom.cons (fun a' w' hg hk hd => ?_) (AllFrom.cons (fun a' w' hg hk hd => ?_) (AllFrom.cons (fun a' w' hg hk hd => ?_) (AllFrom.cons (fun a' w' hg hk hd => ?_) (AllFrom.cons (fun a' w' hg hk hd => ?_) (AllFrom.cons (fun a' w' hg hk hd => ?_) (AllFrom.cons (fun a' w' hg hk hd => ?_) (AllFrom.cons (fun a' w' hg hk hd => ?_) (AllFrom.cons (fun a' w' hg hk hd => ?_) (AllFrom.cons (fun a' w' hg hk hd => ?_) (AllFrom.cons (fun a' w' hg hk hd => ?_) (AllFrom.cons (fun a' w' hg hk hd => ?_) (AllFrom.cons (fun a' w' hg hk hd => ?_) (AllFrom.cons (fun a' w' hg hk hd => ?_) (AllFrom.cons (fun a' w' hg hk hd => ?_) (AllFrom.cons (fun a' w' hg hk hd => ?_) AllFrom.nil)))))))))))))))))))))))))))))))))))))))))))))))))))))))))))))))))
      · -- 0: Op.move (Operand.tmp 0)
        intro Q
        have r0 : Rd w' (a'.eval (.tmp 0)) (l) := by rw [hk.at 0 (by decide +kernel)]; exact Rd.kept (R2) hg
        exact wp_value (a'.eval (.tmp 0)) (by simp only [execOp]; rfl) (KS_mkr rfl r0)
      · -- 1: Op.call ( callee := Callee.value (Operand.func 9), args := #[Operand.t
        intro Q
        have r17 : Rd w' (a'.eval (.tmp 17)) (l) := KS_rd (hd.val 0 17 (by decide +kernel)) rfl
        refine wp_call 9 _ (run_enter 9 _ _ rfl (by kernel_rfl)) ?_
        simp only [List.map_toArray, List.map_nil, List.map_cons]
        refine (leaf_any _ l _ (HT2.gr hg) r17 (by omega)).mono ?_
        rw [HG0.out]
        rintro e w5 ⟨rfl, hb5⟩
        exact ⟨_, rfl, KS_mkv rfl rfl, hb5⟩
      · -- 2: Op.move (Operand.tmp 0)
        intro Q
        have r0 : Rd w' (a'.eval (.tmp 0)) (l) := by rw [hk.at 0 (by decide +kernel)]; exact Rd.kept (R2) hg
        exact wp_value (a'.eval (.tmp 0)) (by simp only [execOp]; rfl) (KS_mkr rfl r0)
      · -- 3: Op.call ( callee := Callee.value (Operand.func 10), args := #[Operand.
        intro Q
        have r19 : Rd w' (a'.eval (.tmp 19)) (l) := KS_rd (hd.val 2 19 (by decide +kernel)) rfl
        refine wp_call 10 _ (run_enter 10 _ _ rfl (by kernel_rfl)) ?_
        simp only [List.map_toArray, List.map_nil, List.map_cons]
        refine (refLeaf_any _ l _ r19 (by omega)).mono ?_
        rw [HG0.out]
        rintro e w5 ⟨rfl, hb5⟩
        exact ⟨_, rfl, KS_mkv rfl rfl, hb5⟩
      · -- 4: Op.binOp BinOp.eql 24 (Operand.tmp 18) (Operand.tmp 20) 24
        intro Q
        have e18 : a'.eval (.tmp 18) = .agg (By (G0)).toArray := KS_val (hd.val 1 18 (by decide +kernel)) rfl
        have e20 : a'.eval (.tmp 20) = .agg (By (G0)).toArray := KS_val (hd.val 3 20 (by decide +kernel)) rfl
        clear hd hk
        exact wp_value (.bool true) (by simp only [execOp, e18, e20]; have he := eG0; go_simp) (KS_mkv rfl rfl)
      · -- 5: Op.move (Operand.tmp 21)
        intro Q
        have e21 : a'.eval (.tmp 21) = .bool true := KS_val (hd.val 4 21 (by decide +kernel)) rfl
        exact wp_value _ (by simp only [execOp, e21]; rfl) (KS_mkv rfl rfl)
      · -- 6: Op.load 24 (Operand.tmp 7)
        have eg : a'.eval (.tmp 22) = .bool true := KS_val (hd.val 5 22 (by decide +kernel)) rfl
        refine ⟨22, true, rfl, eg, fun _ Q => ?_, fun h => absurd rfl h⟩
        have e7 : a'.eval (.tmp 7) = .pointer (some ⟨b, 0, none⟩) := (hk.at 7 (by decide +kernel)).trans (E7)
        exact wp_load_row 24 _ rfl _ _ e7 (By x) _ (BX2.kept hg).range0 Tryd.underlying24 rfl (by rw [By_length, hx]; exact Tryd.size24) (KS_mkv rfl rfl)
      · -- 7: Op.load 24 (Operand.tmp 8)
        have eg : a'.eval (.tmp 22) = .bool true := KS_val (hd.val 5 22 (by decide +kernel)) rfl
        refine ⟨22, true, rfl, eg, fun _ Q => ?_, fun h => absurd rfl h⟩
        have e8 : a'.eval (.tmp 8) = .pointer (some ⟨c, 0, none⟩) := (hk.at 8 (by decide +kernel)).trans (E8)
        exact wp_load_row 24 _ rfl _ _ e8 (By y) _ (BY2.kept hg).range0 Tryd.underlying24 rfl (by rw [By_length, hy]; exact Tryd.size24) (KS_mkv rfl rfl)
      · -- 8: Op.call ( callee := Callee.value (Operand.func 11), args := #[Operand.
        have eg : a'.eval (.tmp 22) = .bool true := KS_val (hd.val 5 22 (by decide +kernel)) rfl
        refine ⟨22, true, rfl, eg, fun _ Q => ?_, fun h => absurd rfl h⟩
        have e23 : a'.eval (.tmp 23) = .agg (By (x)).toArray := KS_val (hd.val 6 23 (by decide +kernel)) rfl
        have e24 : a'.eval (.tmp 24) = .agg (By (y)).toArray := KS_val (hd.val 7 24 (by decide +kernel)) rfl
        refine wp_call 11 _ (run_enter 11 _ _ rfl (by kernel_rfl)) ?_
        simp only [List.map_toArray, List.map_nil, List.map_cons, e23, e24]
        refine (node_any x y hx hy _ (HT2.gr hg) ).mono ?_
        rw [HG1.out]
        rintro e w5 ⟨rfl, hb5⟩
        exact ⟨_, rfl, KS_mkv rfl rfl, hb5⟩
      · -- 9: Op.load 24 (Operand.tmp 7)
        have eg : a'.eval (.tmp 22) = .bool true := KS_val (hd.val 5 22 (by decide +kernel)) rfl
        refine ⟨22, true, rfl, eg, fun _ Q => ?_, fun h => absurd rfl h⟩
        have e7 : a'.eval (.tmp 7) = .pointer (some ⟨b, 0, none⟩) := (hk.at 7 (by decide +kernel)).trans (E7)
        exact wp_load_row 24 _ rfl _ _ e7 (By x) _ (BX2.kept hg).range0 Tryd.underlying24 rfl (by rw [By_length, hx]; exact Tryd.size24) (KS_mkv rfl rfl)
      · -- 10: Op.load 24 (Operand.tmp 8)
        have eg : a'.eval (.tmp 22) = .bool true := KS_val (hd.val 5 22 (by decide +kernel)) rfl
        refine ⟨22, true, rfl, eg, fun _ Q => ?_, fun h => absurd rfl h⟩
        have e8 : a'.eval (.tmp 8) = .pointer (some ⟨c, 0, none⟩) := (hk.at 8 (by decide +kernel)).trans (E8)
        exact wp_load_row 24 _ rfl _ _ e8 (By y) _ (BY2.kept hg).range0 Tryd.underlying24 rfl (by rw [By_length, hy]; exact Tryd.size24) (KS_mkv rfl rfl)
      · -- 11: Op.call ( callee := Callee.value (Operand.func 12), args := #[Operand.
        have eg : a'.eval (.tmp 22) = .bool true := KS_val (hd.val 5 22 (by decide +kernel)) rfl
        refine ⟨22, true, rfl, eg, fun _ Q => ?_, fun h => absurd rfl h⟩
        have e26 : a'.eval (.tmp 26) = .agg (By (x)).toArray := KS_val (hd.val 9 26 (by decide +kernel)) rfl
        have e27 : a'.eval (.tmp 27) = .agg (By (y)).toArray := KS_val (hd.val 10 27 (by decide +kernel)) rfl
        refine wp_call 12 _ (run_enter 12 _ _ rfl (by kernel_rfl)) ?_
        simp only [List.map_toArray, List.map_nil, List.map_cons, e26, e27]
        refine (refNode_any x y hx hy _ ).mono ?_
        rw [HG1.out]
        rintro e w5 ⟨rfl, hb5⟩
        exact ⟨_, rfl, KS_mkv rfl rfl, hb5⟩
      · -- 12: Op.binOp BinOp.eql 24 (Operand.tmp 25) (Operand.tmp 28) 24
        have eg : a'.eval (.tmp 22) = .bool true := KS_val (hd.val 5 22 (by decide +kernel)) rfl
        refine ⟨22, true, rfl, eg, fun _ Q => ?_, fun h => absurd rfl h⟩
        have e25 : a'.eval (.tmp 25) = .agg (By (G1)).toArray := KS_val (hd.val 8 25 (by decide +kernel)) rfl
        have e28 : a'.eval (.tmp 28) = .agg (By (G1)).toArray := KS_val (hd.val 11 28 (by decide +kernel)) rfl
        clear hd hk
        exact wp_value (.bool true) (by simp only [execOp, e25, e28]; have he := eG1; go_simp) (KS_mkv rfl rfl)
      · -- 13: Op.pick (Operand.tmp 22) (Operand.tmp 29) (Operand.const (Value.bool f
        intro Q
        have e22 : a'.eval (.tmp 22) = .bool true := KS_val (hd.val 5 22 (by decide +kernel)) rfl
        have e29 : a'.eval (.tmp 29) = .bool true := KS_val (hd.val 12 29 (by decide +kernel)) rfl
        clear hd hk
        exact wp_value (.bool true) (by simp only [execOp, e22, e29]; go_simp) (KS_mkv rfl rfl)
      · -- 14: Op.move (Operand.tmp 30)
        intro Q
        have e30 : a'.eval (.tmp 30) = .bool true := KS_val (hd.val 13 30 (by decide +kernel)) rfl
        exact wp_value _ (by simp only [execOp, e30]; rfl) (KS_mkv rfl rfl)
      · -- 15: Op.load 24 (Operand.tmp 7)
        have eg : a'.eval (.tmp 31) = .bool true := KS_val (hd.val 14 31 (by decide +kernel)) rfl
        refine ⟨31, true, rfl, eg, fun _ Q => ?_, fun h => absurd rfl h⟩
        have e7 : a'.eval (.tmp 7) = .pointer (some ⟨b, 0, none⟩) := (hk.at 7 (by decide +kernel)).trans (E7)
        exact wp_load_row 24 _ rfl _ _ e7 (By x) _ (BX2.kept hg).range0 Tryd.underlying24 rfl (by rw [By_length, hx]; exact Tryd.size24) (KS_mkv rfl rfl)
      · -- 16: Op.load 24 (Operand.tmp 8)
        have eg : a'.eval (.tmp 31) = .bool true := KS_val (hd.val 14 31 (by decide +kernel)) rfl
        refine ⟨31, true, rfl, eg, fun _ Q => ?_, fun h => absurd rfl h⟩
        have e8 : a'.eval (.tmp 8) = .pointer (some ⟨c, 0, none⟩) := (hk.at 8 (by decide +kernel)).trans (E8)
        exact wp_load_row 24 _ rfl _ _ e8 (By y) _ (BY2.kept hg).range0 Tryd.underlying24 rfl (by rw [By_length, hy]; exact Tryd.size24) (KS_mkv rfl rfl)
      · -- 17: Op.call ( callee := Callee.value (Operand.func 13), args := #[Operand.
        have eg : a'.eval (.tmp 31) = .bool true := KS_val (hd.val 14 31 (by decide +kernel)) rfl
        refine ⟨31, true, rfl, eg, fun _ Q => ?_, fun h => absurd rfl h⟩
        have e32 : a'.eval (.tmp 32) = .agg (By (x)).toArray := KS_val (hd.val 15 32 (by decide +kernel)) rfl
        have e33 : a'.eval (.tmp 33) = .agg (By (y)).toArray := KS_val (hd.val 16 33 (by decide +kernel)) rfl
        refine wp_call 13 _ (run_enter 13 _ _ rfl (by kernel_rfl)) ?_
        simp only [List.map_toArray, List.map_nil, List.map_cons, e32, e33]
        refine (item_any x y hx hy _ (HT2.gr hg) ).mono ?_
        rw [HG3.out]
        rintro e w5 ⟨rfl, hb5⟩
        exact ⟨_, rfl, KS_mkv rfl rfl, hb5⟩
      · -- 18: Op.load 24 (Operand.tmp 7)
        have eg : a'.eval (.tmp 31) = .bool true := KS_val (hd.val 14 31 (by decide +kernel)) rfl
        refine ⟨31, true, rfl, eg, fun _ Q => ?_, fun h => absurd rfl h⟩
        have e7 : a'.eval (.tmp 7) = .pointer (some ⟨b, 0, none⟩) := (hk.at 7 (by decide +kernel)).trans (E7)
        exact wp_load_row 24 _ rfl _ _ e7 (By x) _ (BX2.kept hg).range0 Tryd.underlying24 rfl (by rw [By_length, hx]; exact Tryd.size24) (KS_mkv rfl rfl)
      · -- 19: Op.load 24 (Operand.tmp 8)
        have eg : a'.eval (.tmp 31) = .bool true := KS_val (hd.val 14 31 (by decide +kernel)) rfl
        refine ⟨31, true, rfl, eg, fun _ Q => ?_, fun h => absurd rfl h⟩
        have e8 : a'.eval (.tmp 8) = .pointer (some ⟨c, 0, none⟩) := (hk.at 8 (by decide +kernel)).trans (E8)
        exact wp_load_row 24 _ rfl _ _ e8 (By y) _ (BY2.kept hg).range0 Tryd.underlying24 rfl (by rw [By_length, hy]; exact Tryd.size24) (KS_mkv rfl rfl)
      · -- 20: Op.call ( callee := Callee.value (Operand.func 14), args := #[Operand.
        have eg : a'.eval (.tmp 31) = .bool true := KS_val (hd.val 14 31 (by decide +kernel)) rfl
        refine ⟨31, true, rfl, eg, fun _ Q => ?_, fun h => absurd rfl h⟩
        have e35 : a'.eval (.tmp 35) = .agg (By (x)).toArray := KS_val (hd.val 18 35 (by decide +kernel)) rfl
        have e36 : a'.eval (.tmp 36) = .agg (By (y)).toArray := KS_val (hd.val 19 36 (by decide +kernel)) rfl
        refine wp_call 14 _ (run_enter 14 _ _ rfl (by kernel_rfl)) ?_
        simp only [List.map_toArray, List.map_nil, List.map_cons, e35, e36]
        refine (refItem_any x y hx hy _ ).mono ?_
        rw [HG3.out]
        rintro e w5 ⟨rfl, hb5⟩
        exact ⟨_, rfl, KS_mkv rfl rfl, hb5⟩
      · -- 21: Op.binOp BinOp.eql 24 (Operand.tmp 34) (Operand.tmp 37) 24
        have eg : a'.eval (.tmp 31) = .bool true := KS_val (hd.val 14 31 (by decide +kernel)) rfl
        refine ⟨31, true, rfl, eg, fun _ Q => ?_, fun h => absurd rfl h⟩
        have e34 : a'.eval (.tmp 34) = .agg (By (G3)).toArray := KS_val (hd.val 17 34 (by decide +kernel)) rfl
        have e37 : a'.eval (.tmp 37) = .agg (By (G3)).toArray := KS_val (hd.val 20 37 (by decide +kernel)) rfl
        clear hd hk
        exact wp_value (.bool true) (by simp only [execOp, e34, e37]; have he := eG3; go_simp) (KS_mkv rfl rfl)
      · -- 22: Op.pick (Operand.tmp 31) (Operand.tmp 38) (Operand.const (Value.bool f
        intro Q
        have e31 : a'.eval (.tmp 31) = .bool true := KS_val (hd.val 14 31 (by decide +kernel)) rfl
        have e38 : a'.eval (.tmp 38) = .bool true := KS_val (hd.val 21 38 (by decide +kernel)) rfl
        clear hd hk
        exact wp_value (.bool true) (by simp only [execOp, e31, e38]; go_simp) (KS_mkv rfl rfl)
      · -- 23: Op.move (Operand.tmp 39)
        intro Q
        have e39 : a'.eval (.tmp 39) = .bool true := KS_val (hd.val 22 39 (by decide +kernel)) rfl
        exact wp_value _ (by simp only [execOp, e39]; rfl) (KS_mkv rfl rfl)
      · -- 24: Op.move (Operand.tmp 2)
        have eg : a'.eval (.tmp 40) = .bool true := KS_val (hd.val 23 40 (by decide +kernel)) rfl
        refine ⟨40, true, rfl, eg, fun _ Q => ?_, fun h => absurd rfl h⟩
        have e2 : a'.eval (.tmp 2) = .int .i64 bit := (hk.at 2 (by decide +kernel)).trans (E2)
        exact wp_value _ (by simp only [execOp, e2]; rfl) (KS_mkv rfl rfl)
      · -- 25: Op.load 24 (Operand.tmp 7)
        have eg : a'.eval (.tmp 40) = .bool true := KS_val (hd.val 23 40 (by decide +kernel)) rfl
        refine ⟨40, true, rfl, eg, fun _ Q => ?_, fun h => absurd rfl h⟩
        have e7 : a'.eval (.tmp 7) = .pointer (some ⟨b, 0, none⟩) := (hk.at 7 (by decide +kernel)).trans (E7)
        exact wp_load_row 24 _ rfl _ _ e7 (By x) _ (BX2.kept hg).range0 Tryd.underlying24 rfl (by rw [By_length, hx]; exact Tryd.size24) (KS_mkv rfl rfl)
      · -- 26: Op.load 24 (Operand.tmp 8)
        have eg : a'.eval (.tmp 40) = .bool true := KS_val (hd.val 23 40 (by decide +kernel)) rfl
        refine ⟨40, true, rfl, eg, fun _ Q => ?_, fun h => absurd rfl h⟩
        have e8 : a'.eval (.tmp 8) = .pointer (some ⟨c, 0, none⟩) := (hk.at 8 (by decide +kernel)).trans (E8)
        exact wp_load_row 24 _ rfl _ _ e8 (By y) _ (BY2.kept hg).range0 Tryd.underlying24 rfl (by rw [By_length, hy]; exact Tryd.size24) (KS_mkv rfl rfl)
      · -- 27: Op.call ( callee := Callee.value (Operand.func 15), args := #[Operand.
        have eg : a'.eval (.tmp 40) = .bool true := KS_val (hd.val 23 40 (by decide +kernel)) rfl
        refine ⟨40, true, rfl, eg, fun _ Q => ?_, fun h => absurd rfl h⟩
        have e41 : a'.eval (.tmp 41) = .int .i64 bit := KS_val (hd.val 24 41 (by decide +kernel)) rfl
        have e42 : a'.eval (.tmp 42) = .agg (By (x)).toArray := KS_val (hd.val 25 42 (by decide +kernel)) rfl
        have e43 : a'.eval (.tmp 43) = .agg (By (y)).toArray := KS_val (hd.val 26 43 (by decide +kernel)) rfl
        refine wp_call 15 _ (run_enter 15 _ _ rfl (by kernel_rfl)) ?_
        simp only [List.map_toArray, List.map_nil, List.map_cons, e41, e42, e43]
        refine (fork_any bit x y hx hy _ (HT2.gr hg) ).mono ?_
        rw [HG4.out]
        rintro e w5 ⟨rfl, hb5⟩
        exact ⟨_, rfl, KS_mkv rfl rfl, hb5⟩
      · -- 28: Op.move (Operand.tmp 2)
        have eg : a'.eval (.tmp 40) = .bool true := KS_val (hd.val 23 40 (by decide +kernel)) rfl
        refine ⟨40, true, rfl, eg, fun _ Q => ?_, fun h => absurd rfl h⟩
        have e2 : a'.eval (.tmp 2) = .int .i64 bit := (hk.at 2 (by decide +kernel)).trans (E2)
        exact wp_value _ (by simp only [execOp, e2]; rfl) (KS_mkv rfl rfl)
      · -- 29: Op.load 24 (Operand.tmp 7)
        have eg : a'.eval (.tmp 40) = .bool true := KS_val (hd.val 23 40 (by decide +kernel)) rfl
        refine ⟨40, true, rfl, eg, fun _ Q => ?_, fun h => absurd rfl h⟩
        have e7 : a'.eval (.tmp 7) = .pointer (some ⟨b, 0, none⟩) := (hk.at 7 (by decide +kernel)).trans (E7)
        exact wp_load_row 24 _ rfl _ _ e7 (By x) _ (BX2.kept hg).range0 Tryd.underlying24 rfl (by rw [By_length, hx]; exact Tryd.size24) (KS_mkv rfl rfl)
      · -- 30: Op.load 24 (Operand.tmp 8)
        have eg : a'.eval (.tmp 40) = .bool true := KS_val (hd.val 23 40 (by decide +kernel)) rfl
        refine ⟨40, true, rfl, eg, fun _ Q => ?_, fun h => absurd rfl h⟩
        have e8 : a'.eval (.tmp 8) = .pointer (some ⟨c, 0, none⟩) := (hk.at 8 (by decide +kernel)).trans (E8)
        exact wp_load_row 24 _ rfl _ _ e8 (By y) _ (BY2.kept hg).range0 Tryd.underlying24 rfl (by rw [By_length, hy]; exact Tryd.size24) (KS_mkv rfl rfl)
      · -- 31: Op.call ( callee := Callee.value (Operand.func 16), args := #[Operand.
        have eg : a'.eval (.tmp 40) = .bool true := KS_val (hd.val 23 40 (by decide +kernel)) rfl
        refine ⟨40, true, rfl, eg, fun _ Q => ?_, fun h => absurd rfl h⟩
        have e45 : a'.eval (.tmp 45) = .int .i64 bit := KS_val (hd.val 28 45 (by decide +kernel)) rfl
        have e46 : a'.eval (.tmp 46) = .agg (By (x)).toArray := KS_val (hd.val 29 46 (by decide +kernel)) rfl
        have e47 : a'.eval (.tmp 47) = .agg (By (y)).toArray := KS_val (hd.val 30 47 (by decide +kernel)) rfl
        refine wp_call 16 _ (run_enter 16 _ _ rfl (by kernel_rfl)) ?_
        simp only [List.map_toArray, List.map_nil, List.map_cons, e45, e46, e47]
        refine (refFork_any bit x y hx hy _ ).mono ?_
        rw [HG4.out]
        rintro e w5 ⟨rfl, hb5⟩
        exact ⟨_, rfl, KS_mkv rfl rfl, hb5⟩
      · -- 32: Op.binOp BinOp.eql 24 (Operand.tmp 44) (Operand.tmp 48) 24
        have eg : a'.eval (.tmp 40) = .bool true := KS_val (hd.val 23 40 (by decide +kernel)) rfl
        refine ⟨40, true, rfl, eg, fun _ Q => ?_, fun h => absurd rfl h⟩
        have e44 : a'.eval (.tmp 44) = .agg (By (G4)).toArray := KS_val (hd.val 27 44 (by decide +kernel)) rfl
        have e48 : a'.eval (.tmp 48) = .agg (By (G4)).toArray := KS_val (hd.val 31 48 (by decide +kernel)) rfl
        clear hd hk
        exact wp_value (.bool true) (by simp only [execOp, e44, e48]; have he := eG4; go_simp) (KS_mkv rfl rfl)
      · -- 33: Op.pick (Operand.tmp 40) (Operand.tmp 49) (Operand.const (Value.bool f
        intro Q
        have e40 : a'.eval (.tmp 40) = .bool true := KS_val (hd.val 23 40 (by decide +kernel)) rfl
        have e49 : a'.eval (.tmp 49) = .bool true := KS_val (hd.val 32 49 (by decide +kernel)) rfl
        clear hd hk
        exact wp_value (.bool true) (by simp only [execOp, e40, e49]; go_simp) (KS_mkv rfl rfl)
      · -- 34: Op.move (Operand.tmp 50)
        intro Q
        have e50 : a'.eval (.tmp 50) = .bool true := KS_val (hd.val 33 50 (by decide +kernel)) rfl
        exact wp_value _ (by simp only [execOp, e50]; rfl) (KS_mkv rfl rfl)
      · -- 35: Op.move (Operand.tmp 0)
        have eg : a'.eval (.tmp 51) = .bool true := KS_val (hd.val 34 51 (by decide +kernel)) rfl
        refine ⟨51, true, rfl, eg, fun _ Q => ?_, fun h => absurd rfl h⟩
        have r0 : Rd w' (a'.eval (.tmp 0)) (l) := by rw [hk.at 0 (by decide +kernel)]; exact Rd.kept (R2) hg
        exact wp_value (a'.eval (.tmp 0)) (by simp only [execOp]; rfl) (KS_mkr rfl r0)
      · -- 36: Op.convert 22 9 (Operand.tmp 52)
        have eg : a'.eval (.tmp 51) = .bool true := KS_val (hd.val 34 51 (by decide +kernel)) rfl
        refine ⟨51, true, rfl, eg, fun _ Q => ?_, fun h => absurd rfl h⟩
        have r52 : Rd w' (a'.eval (.tmp 52)) (l) := KS_rd (hd.val 35 52 (by decide +kernel)) rfl
        exact wp_value _ (by simp only [execOp, r52.conv (P := Tryd.prog) 22 9 Tryd.underlying22 Tryd.underlying5 Tryd.underlying9, Sem.run_bind, Result.andThen_ok]; rfl) (KS_mkv rfl rfl)
      · -- 37: Op.call ( callee := Callee.value (Operand.func 17), args := #[Operand.
        have eg : a'.eval (.tmp 51) = .bool true := KS_val (hd.val 34 51 (by decide +kernel)) rfl
        refine ⟨51, true, rfl, eg, fun _ Q => ?_, fun h => absurd rfl h⟩
        have e53 : a'.eval (.tmp 53) = .string ⟨(l).toArray⟩ := KS_val (hd.val 36 53 (by decide +kernel)) rfl
        refine wp_call 17 _ (run_enter 17 _ _ rfl (by kernel_rfl)) ?_
        simp only [List.map_toArray, List.map_nil, List.map_cons, e53]
        refine (key_any l _ (HT2.gr hg) (by omega)).mono ?_
        rw [HG2.out]
        rintro e w5 ⟨rfl, hb5⟩
        exact ⟨_, rfl, KS_mkv rfl rfl, hb5⟩
      · -- 38: Op.move (Operand.tmp 0)
        have eg : a'.eval (.tmp 51) = .bool true := KS_val (hd.val 34 51 (by decide +kernel)) rfl
        refine ⟨51, true, rfl, eg, fun _ Q => ?_, fun h => absurd rfl h⟩
        have r0 : Rd w' (a'.eval (.tmp 0)) (l) := by rw [hk.at 0 (by decide +kernel)]; exact Rd.kept (R2) hg
        exact wp_value (a'.eval (.tmp 0)) (by simp only [execOp]; rfl) (KS_mkr rfl r0)
      · -- 39: Op.convert 22 9 (Operand.tmp 55)
        have eg : a'.eval (.tmp 51) = .bool true := KS_val (hd.val 34 51 (by decide +kernel)) rfl
        refine ⟨51, true, rfl, eg, fun _ Q => ?_, fun h => absurd rfl h⟩
        have r55 : Rd w' (a'.eval (.tmp 55)) (l) := KS_rd (hd.val 38 55 (by decide +kernel)) rfl
        exact wp_value _ (by simp only [execOp, r55.conv (P := Tryd.prog) 22 9 Tryd.underlying22 Tryd.underlying5 Tryd.underlying9, Sem.run_bind, Result.andThen_ok]; rfl) (KS_mkv rfl rfl)
      · -- 40: Op.call ( callee := Callee.value (Operand.func 18), args := #[Operand.
        have eg : a'.eval (.tmp 51) = .bool true := KS_val (hd.val 34 51 (by decide +kernel)) rfl
        refine ⟨51, true, rfl, eg, fun _ Q => ?_, fun h => absurd rfl h⟩
        have e56 : a'.eval (.tmp 56) = .string ⟨(l).toArray⟩ := KS_val (hd.val 39 56 (by decide +kernel)) rfl
        refine wp_call 18 _ (run_enter 18 _ _ rfl (by kernel_rfl)) ?_
        simp only [List.map_toArray, List.map_nil, List.map_cons, e56]
        refine (refKey_any l _ (by omega)).mono ?_
        rw [HG2.out]
        rintro e w5 ⟨rfl, hb5⟩
        exact ⟨_, rfl, KS_mkv rfl rfl, hb5⟩
      · -- 41: Op.binOp BinOp.eql 24 (Operand.tmp 54) (Operand.tmp 57) 24
        have eg : a'.eval (.tmp 51) = .bool true := KS_val (hd.val 34 51 (by decide +kernel)) rfl
        refine ⟨51, true, rfl, eg, fun _ Q => ?_, fun h => absurd rfl h⟩
        have e54 : a'.eval (.tmp 54) = .agg (By (G2)).toArray := KS_val (hd.val 37 54 (by decide +kernel)) rfl
        have e57 : a'.eval (.tmp 57) = .agg (By (G2)).toArray := KS_val (hd.val 40 57 (by decide +kernel)) rfl
        clear hd hk
        exact wp_value (.bool true) (by simp only [execOp, e54, e57]; have he := eG2; go_simp) (KS_mkv rfl rfl)
      · -- 42: Op.pick (Operand.tmp 51) (Operand.tmp 58) (Operand.const (Value.bool f
        intro Q
        have e51 : a'.eval (.tmp 51) = .bool true := KS_val (hd.val 34 51 (by decide +kernel)) rfl
        have e58 : a'.eval (.tmp 58) = .bool true := KS_val (hd.val 41 58 (by decide +kernel)) rfl
        clear hd hk
        exact wp_value (.bool true) (by simp only [execOp, e51, e58]; go_simp) (KS_mkv rfl rfl)
      · -- 43: Op.move (Operand.tmp 59)
        intro Q
        have e59 : a'.eval (.tmp 59) = .bool true := KS_val (hd.val 42 59 (by decide +kernel)) rfl
        exact wp_value _ (by simp only [execOp, e59]; rfl) (KS_mkv rfl rfl)
      · -- 44: Op.move (Operand.tmp 0)
        have eg : a'.eval (.tmp 60) = .bool true := KS_val (hd.val 43 60 (by decide +kernel)) rfl
        refine ⟨60, true, rfl, eg, fun _ Q => ?_, fun h => absurd rfl h⟩
        have r0 : Rd w' (a'.eval (.tmp 0)) (l) := by rw [hk.at 0 (by decide +kernel)]; exact Rd.kept (R2) hg
        exact wp_value (a'.eval (.tmp 0)) (by simp only [execOp]; rfl) (KS_mkr rfl r0)
      · -- 45: Op.convert 22 9 (Operand.tmp 61)
        have eg : a'.eval (.tmp 60) = .bool true := KS_val (hd.val 43 60 (by decide +kernel)) rfl
        refine ⟨60, true, rfl, eg, fun _ Q => ?_, fun h => absurd rfl h⟩
        have r61 : Rd w' (a'.eval (.tmp 61)) (l) := KS_rd (hd.val 44 61 (by decide +kernel)) rfl
        exact wp_value _ (by simp only [execOp, r61.conv (P := Tryd.prog) 22 9 Tryd.underlying22 Tryd.underlying5 Tryd.underlying9, Sem.run_bind, Result.andThen_ok]; rfl) (KS_mkv rfl rfl)
      · -- 46: Op.call ( callee := Callee.value (Operand.func 19), args := #[Operand.
        have eg : a'.eval (.tmp 60) = .bool true := KS_val (hd.val 43 60 (by decide +kernel)) rfl
        refine ⟨60, true, rfl, eg, fun _ Q => ?_, fun h => absurd rfl h⟩
        have e62 : a'.eval (.tmp 62) = .string ⟨(l).toArray⟩ := KS_val (hd.val 45 62 (by decide +kernel)) rfl
        refine wp_call 19 _ (run_enter 19 _ _ rfl (by kernel_rfl)) ?_
        simp only [List.map_toArray, List.map_nil, List.map_cons, e62]
        refine (value_any l _ (HT2.gr hg) (by omega)).mono ?_
        rw [HG6.out]
        rintro e w5 ⟨rfl, hb5⟩
        exact ⟨_, rfl, KS_mkv rfl rfl, hb5⟩
      · -- 47: Op.move (Operand.tmp 0)
        have eg : a'.eval (.tmp 60) = .bool true := KS_val (hd.val 43 60 (by decide +kernel)) rfl
        refine ⟨60, true, rfl, eg, fun _ Q => ?_, fun h => absurd rfl h⟩
        have r0 : Rd w' (a'.eval (.tmp 0)) (l) := by rw [hk.at 0 (by decide +kernel)]; exact Rd.kept (R2) hg
        exact wp_value (a'.eval (.tmp 0)) (by simp only [execOp]; rfl) (KS_mkr rfl r0)
      · -- 48: Op.convert 22 9 (Operand.tmp 64)
        have eg : a'.eval (.tmp 60) = .bool true := KS_val (hd.val 43 60 (by decide +kernel)) rfl
        refine ⟨60, true, rfl, eg, fun _ Q => ?_, fun h => absurd rfl h⟩
        have r64 : Rd w' (a'.eval (.tmp 64)) (l) := KS_rd (hd.val 47 64 (by decide +kernel)) rfl
        exact wp_value _ (by simp only [execOp, r64.conv (P := Tryd.prog) 22 9 Tryd.underlying22 Tryd.underlying5 Tryd.underlying9, Sem.run_bind, Result.andThen_ok]; rfl) (KS_mkv rfl rfl)
      · -- 49: Op.call ( callee := Callee.value (Operand.func 20), args := #[Operand.
        have eg : a'.eval (.tmp 60) = .bool true := KS_val (hd.val 43 60 (by decide +kernel)) rfl
        refine ⟨60, true, rfl, eg, fun _ Q => ?_, fun h => absurd rfl h⟩
        have e65 : a'.eval (.tmp 65) = .string ⟨(l).toArray⟩ := KS_val (hd.val 48 65 (by decide +kernel)) rfl
        refine wp_call 20 _ (run_enter 20 _ _ rfl (by kernel_rfl)) ?_
        simp only [List.map_toArray, List.map_nil, List.map_cons, e65]
        refine (refValue_any l _ (by omega)).mono ?_
        rw [HG6.out]
        rintro e w5 ⟨rfl, hb5⟩
        exact ⟨_, rfl, KS_mkv rfl rfl, hb5⟩
      · -- 50: Op.binOp BinOp.eql 24 (Operand.tmp 63) (Operand.tmp 66) 24
        have eg : a'.eval (.tmp 60) = .bool true := KS_val (hd.val 43 60 (by decide +kernel)) rfl
        refine ⟨60, true, rfl, eg, fun _ Q => ?_, fun h => absurd rfl h⟩
        have e63 : a'.eval (.tmp 63) = .agg (By (G6)).toArray := KS_val (hd.val 46 63 (by decide +kernel)) rfl
        have e66 : a'.eval (.tmp 66) = .agg (By (G6)).toArray := KS_val (hd.val 49 66 (by decide +kernel)) rfl
        clear hd hk
        exact wp_value (.bool true) (by simp only [execOp, e63, e66]; have he := eG6; go_simp) (KS_mkv rfl rfl)
      · -- 51: Op.pick (Operand.tmp 60) (Operand.tmp 67) (Operand.const (Value.bool f
        intro Q
        have e60 : a'.eval (.tmp 60) = .bool true := KS_val (hd.val 43 60 (by decide +kernel)) rfl
        have e67 : a'.eval (.tmp 67) = .bool true := KS_val (hd.val 50 67 (by decide +kernel)) rfl
        clear hd hk
        exact wp_value (.bool true) (by simp only [execOp, e60, e67]; go_simp) (KS_mkv rfl rfl)
      · -- 52: Op.move (Operand.tmp 68)
        intro Q
        have e68 : a'.eval (.tmp 68) = .bool true := KS_val (hd.val 51 68 (by decide +kernel)) rfl
        exact wp_value _ (by simp only [execOp, e68]; rfl) (KS_mkv rfl rfl)
      · -- 53: Op.call ( callee := Callee.value (Operand.func 21), args := #[], argTy
        have eg : a'.eval (.tmp 69) = .bool true := KS_val (hd.val 52 69 (by decide +kernel)) rfl
        refine ⟨69, true, rfl, eg, fun _ Q => ?_, fun h => absurd rfl h⟩
        refine wp_call 21 _ (run_enter 21 _ _ rfl (by kernel_rfl)) ?_
        simp only [List.map_toArray, List.map_nil]
        refine (empty_any _ (HT2.gr hg) ).mono ?_
        rw [HGE.out]
        rintro e w5 ⟨rfl, hb5⟩
        exact ⟨_, rfl, KS_mkv rfl rfl, hb5⟩
      · -- 54: Op.call ( callee := Callee.value (Operand.func 22), args := #[], argTy
        have eg : a'.eval (.tmp 69) = .bool true := KS_val (hd.val 52 69 (by decide +kernel)) rfl
        refine ⟨69, true, rfl, eg, fun _ Q => ?_, fun h => absurd rfl h⟩
        refine wp_call 22 _ (run_enter 22 _ _ rfl (by kernel_rfl)) ?_
        simp only [List.map_toArray, List.map_nil]
        refine (refEmpty_any _ ).mono ?_
        rw [HGE.out]
        rintro e w5 ⟨rfl, hb5⟩
        exact ⟨_, rfl, KS_mkv rfl rfl, hb5⟩
      · -- 55: Op.binOp BinOp.eql 24 (Operand.tmp 70) (Operand.tmp 71) 24
        have eg : a'.eval (.tmp 69) = .bool true := KS_val (hd.val 52 69 (by decide +kernel)) rfl
        refine ⟨69, true, rfl, eg, fun _ Q => ?_, fun h => absurd rfl h⟩
        have e70 : a'.eval (.tmp 70) = .agg (By (GE)).toArray := KS_val (hd.val 53 70 (by decide +kernel)) rfl
        have e71 : a'.eval (.tmp 71) = .agg (By (GE)).toArray := KS_val (hd.val 54 71 (by decide +kernel)) rfl
        clear hd hk
        exact wp_value (.bool true) (by simp only [execOp, e70, e71]; have he := eGE; go_simp) (KS_mkv rfl rfl)
      · -- 56: Op.pick (Operand.tmp 69) (Operand.tmp 72) (Operand.const (Value.bool f
        intro Q
        have e69 : a'.eval (.tmp 69) = .bool true := KS_val (hd.val 52 69 (by decide +kernel)) rfl
        have e72 : a'.eval (.tmp 72) = .bool true := KS_val (hd.val 55 72 (by decide +kernel)) rfl
        clear hd hk
        exact wp_value (.bool true) (by simp only [execOp, e69, e72]; go_simp) (KS_mkv rfl rfl)
      · -- 57: Op.move (Operand.tmp 73)
        intro Q
        have e73 : a'.eval (.tmp 73) = .bool true := KS_val (hd.val 56 73 (by decide +kernel)) rfl
        exact wp_value _ (by simp only [execOp, e73]; rfl) (KS_mkv rfl rfl)
      · -- 58: Op.call ( callee := Callee.value (Operand.func 23), args := #[], argTy
        have eg : a'.eval (.tmp 74) = .bool true := KS_val (hd.val 57 74 (by decide +kernel)) rfl
        refine ⟨74, true, rfl, eg, fun _ Q => ?_, fun h => absurd rfl h⟩
        refine wp_call 23 _ (run_enter 23 _ _ rfl (by kernel_rfl)) ?_
        simp only [List.map_toArray, List.map_nil]
        refine (nothing_any _ (HT2.gr hg) ).mono ?_
        rw [HG5.out]
        rintro e w5 ⟨rfl, hb5⟩
        exact ⟨_, rfl, KS_mkv rfl rfl, hb5⟩
      · -- 59: Op.call ( callee := Callee.value (Operand.func 24), args := #[], argTy
        have eg : a'.eval (.tmp 74) = .bool true := KS_val (hd.val 57 74 (by decide +kernel)) rfl
        refine ⟨74, true, rfl, eg, fun _ Q => ?_, fun h => absurd rfl h⟩
        refine wp_call 24 _ (run_enter 24 _ _ rfl (by kernel_rfl)) ?_
        simp only [List.map_toArray, List.map_nil]
        refine (refNothing_any _ ).mono ?_
        rw [HG5.out]
        rintro e w5 ⟨rfl, hb5⟩
        exact ⟨_, rfl, KS_mkv rfl rfl, hb5⟩
      · -- 60: Op.binOp BinOp.eql 24 (Operand.tmp 75) (Operand.tmp 76) 24
        have eg : a'.eval (.tmp 74) = .bool true := KS_val (hd.val 57 74 (by decide +kernel)) rfl
        refine ⟨74, true, rfl, eg, fun _ Q => ?_, fun h => absurd rfl h⟩
        have e75 : a'.eval (.tmp 75) = .agg (By (G5)).toArray := KS_val (hd.val 58 75 (by decide +kernel)) rfl
        have e76 : a'.eval (.tmp 76) = .agg (By (G5)).toArray := KS_val (hd.val 59 76 (by decide +kernel)) rfl
        clear hd hk
        exact wp_value (.bool true) (by simp only [execOp, e75, e76]; have he := eG5; go_simp) (KS_mkv rfl rfl)
      · -- 61: Op.pick (Operand.tmp 74) (Operand.tmp 77) (Operand.const (Value.bool f
        intro Q
        have e74 : a'.eval (.tmp 74) = .bool true := KS_val (hd.val 57 74 (by decide +kernel)) rfl
        have e77 : a'.eval (.tmp 77) = .bool true := KS_val (hd.val 60 77 (by decide +kernel)) rfl
        clear hd hk
        exact wp_value (.bool true) (by simp only [execOp, e74, e77]; go_simp) (KS_mkv rfl rfl)
      · -- 62: Op.move (Operand.tmp 78)
        intro Q
        have e78 : a'.eval (.tmp 78) = .bool true := KS_val (hd.val 61 78 (by decide +kernel)) rfl
        exact wp_value _ (by simp only [execOp, e78]; rfl) (KS_mkv rfl rfl)
      · -- 63: Op.call ( callee := Callee.value (Operand.func 8), args := #[], argTyp
        have eg : a'.eval (.tmp 79) = .bool true := KS_val (hd.val 62 79 (by decide +kernel)) rfl
        refine ⟨79, true, rfl, eg, fun _ Q => ?_, fun h => absurd rfl h⟩
        refine wp_call 8 _ (run_enter 8 _ _ rfl (by kernel_rfl)) ?_
        simp only [List.map_toArray, List.map_nil]
        refine (lives_any _ (HT2.gr hg)).mono ?_
        rintro e w5 ⟨rfl, hb5⟩
        exact ⟨_, rfl, KS_mkv rfl rfl, hb5⟩
      · -- 64: Op.pick (Operand.tmp 79) (Operand.tmp 80) (Operand.const (Value.bool f
        intro Q
        have e79 : a'.eval (.tmp 79) = .bool true := KS_val (hd.val 62 79 (by decide +kernel)) rfl
        have e80 : a'.eval (.tmp 80) = .bool true := KS_val (hd.val 63 80 (by decide +kernel)) rfl
        clear hd hk
        exact wp_value (.bool true) (by simp only [execOp, e79, e80]; go_simp) (KS_mkv rfl rfl)
      · -- 65: Op.assign (Operand.tmp 81)
        intro Q
        have e81 : a'.eval (.tmp 81) = .bool true := KS_val (hd.val 64 81 (by decide +kernel)) rfl
        exact wp_value _ (by simp only [execOp, e81]; rfl) (KS_mkv rfl rfl)
    · intro a' w' hsz hdf hk hall hg
      have ev : a'.eval (.tmp 6) = .bool true := KS_val (hall 65 _ 6 rfl rfl) rfl
      go_wp2
      exact bodyPost_ret (results_tmp Tryd.results3 _ _ _) (hdf.trans hdf1) ⟨congrArg Ending.returned ev, by rw [HN.out]; exact L2.trans (Below.mono hg (by have := L2.size; rwa [HN.out] at this))⟩
end Go.Proofs.YtljmhbchcadnbaaDoor
