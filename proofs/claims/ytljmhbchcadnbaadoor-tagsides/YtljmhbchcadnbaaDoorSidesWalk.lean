/-
  indenturelaw04.TagSides: the walk.
-/
import Derived.Test.YtljmhbchcadnbaaDoorTag3
namespace Go.Proofs.YtljmhbchcadnbaaDoor
open Go.RowKit
set_option maxHeartbeats 4000000 in
set_option maxRecDepth 100000 in
theorem tagSides_any (x y p q : List UInt8) (bit : Int) (hx : x.length = 32) (hy : y.length = 32) (hp : p.length = 32) (hq : q.length = 32) (w : World) (hT : Tabs w) :
    Calls Tryd.prog 6 #[.agg (By (x ++ y)).toArray, .agg (By (p ++ q)).toArray, .int .i64 bit] w fun e w' => e = .returned (.bool true) ∧ Below w.heap.size w w' := by
  have HT : Hid (Tabs w) := hT
  clear hT
  obtain ⟨N, HN⟩ : ∃ N, Hid (w.heap.size = N) := ⟨_, rfl⟩
  have HNT : Hid (2 ≤ N) := (show _ by rw [← HN.out]; exact HT.out.size)
  have HBit : Hid (IntKind.u8.wrap bit = ((UInt8.ofNat (bit % 256).toNat).toNat : Int)) := u8_of_int bit
  obtain ⟨u, HU⟩ : ∃ u, Hid (UInt8.ofNat (bit % 256).toNat = u) := ⟨_, rfl⟩
  rw [HU.out] at HBit
  obtain ⟨E, HE⟩ : ∃ E, Hid ((x ++ y == p ++ q) = E) := ⟨_, rfl⟩
  have eA := eq25 x y p q hx hy hp hq
  rw [HE.out] at eA
  have f1 : [x, y].flatten = x ++ y := by simp
  have f2 : [p, q].flatten = p ++ q := by simp
  have f3 : [[u], x, y].flatten = u :: (x ++ y) := by simp
  have f4 : [[u], p, q].flatten = u :: (p ++ q) := by simp
  obtain ⟨m1, Hm1⟩ : ∃ m, Hid (1 :: [x, y].flatten = m) := ⟨_, rfl⟩
  obtain ⟨m2, Hm2⟩ : ∃ m, Hid (1 :: [p, q].flatten = m) := ⟨_, rfl⟩
  obtain ⟨m3, Hm3⟩ : ∃ m, Hid (4 :: [[u], x, y].flatten = m) := ⟨_, rfl⟩
  obtain ⟨m4, Hm4⟩ : ∃ m, Hid (4 :: [[u], p, q].flatten = m) := ⟨_, rfl⟩
  have s12 : (m1 == m2) = E := by rw [← Hm1.out, ← Hm2.out, ← HE.out, f1, f2]; simp
  have s34 : (m3 == m4) = E := by rw [← Hm3.out, ← Hm4.out, ← HE.out, f3, f4]; simp
  have l1 : m1.length ≤ 100 := by rw [← Hm1.out, f1]; simp [hx, hy]
  have l2 : m2.length ≤ 100 := by rw [← Hm2.out, f2]; simp [hp, hq]
  have l3 : m3.length ≤ 100 := by rw [← Hm3.out, f3]; simp [hx, hy]
  have l4 : m4.length ≤ 100 := by rw [← Hm4.out, f4]; simp [hp, hq]
  obtain ⟨G1, HG1⟩ : ∃ G, Hid (tg 1 [x, y] = G) := ⟨_, rfl⟩
  have SG1 : Hid (sha m1 = G1) := (show _ = _ by rw [← HG1.out, ← Hm1.out]; rfl)
  have hG1 : G1.length = 32 := by rw [← HG1.out]; exact sha_length _
  obtain ⟨G2, HG2⟩ : ∃ G, Hid (tg 1 [p, q] = G) := ⟨_, rfl⟩
  have SG2 : Hid (sha m2 = G2) := (show _ = _ by rw [← HG2.out, ← Hm2.out]; rfl)
  have hG2 : G2.length = 32 := by rw [← HG2.out]; exact sha_length _
  obtain ⟨G3, HG3⟩ : ∃ G, Hid (tg 4 [[u], x, y] = G) := ⟨_, rfl⟩
  have SG3 : Hid (sha m3 = G3) := (show _ = _ by rw [← HG3.out, ← Hm3.out]; rfl)
  have hG3 : G3.length = 32 := by rw [← HG3.out]; exact sha_length _
  obtain ⟨G4, HG4⟩ : ∃ G, Hid (tg 4 [[u], p, q] = G) := ⟨_, rfl⟩
  have SG4 : Hid (sha m4 = G4) := (show _ = _ by rw [← HG4.out, ← Hm4.out]; rfl)
  have hG4 : G4.length = 32 := by rw [← HG4.out]; exact sha_length _
  obtain ⟨F1, HF1⟩ : ∃ F, Hid ((G1 == G2) = F) := ⟨_, rfl⟩
  obtain ⟨F2, HF2⟩ : ∃ F, Hid ((G3 == G4) = F) := ⟨_, rfl⟩
  have q24F1 := eq24 G1 G2 hG1 hG2
  have q23F1 := eq23 G1 G2 hG1 hG2
  have q24F2 := eq24 G3 G4 hG3 hG4
  have q23F2 := eq23 G3 G4 hG3 hG4
  rw [HF1.out] at q24F1 q23F1
  rw [HF2.out] at q24F2 q23F2
  go_enter Tryd.func6, Tryd.ntmps6
  go_upto_region 1 with fail
  rw [HN.out]
  obtain ⟨w1, hw1⟩ : ∃ z, z = (w.alloc (.cells (By (x ++ y)).toArray 25 (0, 0))).alloc (.cells (By (p ++ q)).toArray 25 (0, 0)) := ⟨_, rfl⟩
  rw [← hw1]
  have AX0 : Blk w1 N 25 (By (x ++ y)) := by rw [hw1, ← HN.out]; exact (Blk.new w 25 (By (x ++ y))).alloc _
  have AP0 : Blk w1 (N + 1) 25 (By (p ++ q)) := by
    have := Blk.new (w.alloc (.cells (By (x ++ y)).toArray 25 (0, 0))) 25 (By (p ++ q))
    rw [show (w.alloc (.cells (By (x ++ y)).toArray 25 (0, 0))).heap.size = N + 1 by simp [HN.out]] at this
    rw [hw1]; exact this
  have L1 : Below N w w1 := by rw [hw1]; exact ((Below.refl _ _).alloc (by rw [HN.out]; exact Nat.le_refl _) _).alloc (by simp [HN.out]) _
  clear hw1 f1 f2 f3 f4
  have AX : ∀ {w'}, Gr w1 w' → w'.rangeAt N 0 (By x) := fun hg => (By_range (AX0.kept hg)).1
  have AY : ∀ {w'}, Gr w1 w' → w'.rangeAt N 32 (By y) := fun hg => by have := (By_range (AX0.kept hg)).2; rwa [hx] at this
  have AP : ∀ {w'}, Gr w1 w' → w'.rangeAt (N + 1) 0 (By p) := fun hg => (By_range (AP0.kept hg)).1
  have AQ : ∀ {w'}, Gr w1 w' → w'.rangeAt (N + 1) 32 (By q) := fun hg => by have := (By_range (AP0.kept hg)).2; rwa [hp] at this
  have ALT : ∀ {w'}, Gr w1 w' → N < w'.heap.size := fun hg => (AX0.kept hg).lt
  have ALT2 : ∀ {w'}, Gr w1 w' → N + 1 < w'.heap.size := fun hg => (AP0.kept hg).lt
  refine wp_region_inv Tryd.mixed (KS (fun i => match i with | 0 => .val (.pointer (some ⟨N, 0, none⟩)) | 1 => .rd (x) | 2 => .val (.pointer (some ⟨N, 32, none⟩)) | 3 => .rd (y) | 4 => .rows ([x, y]) | 5 | 12 => .rd (m1) | 6 => .val (.pointer (some ⟨(N + 1), 0, none⟩)) | 7 => .rd (p) | 8 => .val (.pointer (some ⟨(N + 1), 32, none⟩)) | 9 => .rd (q) | 10 => .rows ([p, q]) | 11 | 13 => .rd (m2) | _ => .free)) 102 rfl (by decide +kernel) (KS_mono _) ?_ ?_
  · refine AllFrom.cons (fun a' w' hg hk hd => ?_) (AllFrom.cons (fun a' w' hg hk hd => ?_) (AllFrom.cons (fun a' w' hg hk hd => ?_) (AllFrom.cons (fun a' w' hg hk hd => ?_) (AllFrom.cons (fun a' w' hg hk hd => ?_) (AllFrom.cons (fun a' w' hg hk hd => ?_) (AllFrom.cons (fun a' w' hg hk hd => ?_) (AllFrom.cons (fun a' w' hg hk hd => ?_) (AllFrom.cons (fun a' w' hg hk hd => ?_) (AllFrom.cons (fun a' w' hg hk hd => ?_) (AllFrom.cons (fun a' w' hg hk hd => ?_) (AllFrom.cons (fun a' w' hg hk hd => ?_) (AllFrom.cons (fun a' w' hg hk hd => ?_) (AllFrom.cons (fun a' w' hg hk hd => ?_) AllFrom.nil)))))))))))))
    · -- 0: Op.indexAddr 25 (Operand.tmp 3) (Operand.const (Value.int IntKind.i64 
      intro Q
      have e3 : a'.eval (.tmp 3) = .pointer (some ⟨N, 0, none⟩) := hk.at 3 (by decide +kernel)
      clear hd hk
      exact wp_value (.pointer (some ⟨N, 0, none⟩)) (by simp only [execOp, e3]; go_simp) (KS_mkv rfl rfl)
    · -- 1: Op.slice 24 (Operand.tmp 11) none none none
      intro Q
      have e11 : a'.eval (.tmp 11) = .pointer (some ⟨N, 0, none⟩) := KS_val (hd.val 0 11 (by decide +kernel)) rfl
      exact wp_value _ (by simp only [execOp, e11, slice24, Sem.run_bind, Result.andThen_ok, Option.map_none]; rfl) (KS_mkr rfl (rd_range (ALT hg) (AX hg) hx))
    · -- 2: Op.indexAddr 25 (Operand.tmp 3) (Operand.const (Value.int IntKind.i64 
      intro Q
      have e3 : a'.eval (.tmp 3) = .pointer (some ⟨N, 0, none⟩) := hk.at 3 (by decide +kernel)
      clear hd hk
      exact wp_value (.pointer (some ⟨N, 32, none⟩)) (by simp only [execOp, e3]; go_simp) (KS_mkv rfl rfl)
    · -- 3: Op.slice 24 (Operand.tmp 13) none none none
      intro Q
      have e13 : a'.eval (.tmp 13) = .pointer (some ⟨N, 32, none⟩) := KS_val (hd.val 2 13 (by decide +kernel)) rfl
      exact wp_value _ (by simp only [execOp, e13, slice24, Sem.run_bind, Result.andThen_ok, Option.map_none]; rfl) (KS_mkr rfl (rd_range (ALT hg) (AY hg) hy))
    · -- 4: Op.buildSlice 33 2 #[(0, Operand.tmp 12), (1, Operand.tmp 14)]
      intro Q
      have r12 : Rd w' (a'.eval (.tmp 12)) (x) := KS_rd (hd.val 1 12 (by decide +kernel)) rfl
      have r14 : Rd w' (a'.eval (.tmp 14)) (y) := KS_rd (hd.val 3 14 (by decide +kernel)) rfl
      obtain ⟨a12, c12, f12⟩ := r12.slice
      obtain ⟨a14, c14, f14⟩ := r14.slice
      rw [f12] at r12
      rw [f14] at r14
      exact wp_grow _ _ (by simp only [execOp, List.map_toArray, List.map_cons, List.map_nil, f12, f14]; go_simp) ((Below.refl _ _).alloc (Nat.le_refl _) _) (KS_mkR rfl (rows_list w' [_, _] _ ⟨r12, ⟨r14, True.intro⟩⟩))
    · -- 5: Op.call ( callee := Callee.value (Operand.func 25), args := #[Operand.
      intro Q
      have r15 : RdR w' (a'.eval (.tmp 15)) ([x, y]) := KS_rows (hd.val 4 15 (by decide +kernel)) rfl
      refine wp_call 25 _ (run_enter 25 _ _ rfl (by kernel_rfl)) ?_
      simp only [List.map_toArray, List.map_nil, List.map_cons]
      refine (bytes_any 1 _ [x, y] _ r15 (by simp [hx, hy]) (by simp)).mono ?_
      rw [Hm1.out]
      rintro e w5 ⟨v5, rfl, ho5, hb5⟩
      exact ⟨v5, rfl, KS_mkr rfl ho5.rd, hb5⟩
    · -- 6: Op.indexAddr 25 (Operand.tmp 4) (Operand.const (Value.int IntKind.i64 
      intro Q
      have e4 : a'.eval (.tmp 4) = .pointer (some ⟨(N + 1), 0, none⟩) := hk.at 4 (by decide +kernel)
      clear hd hk
      exact wp_value (.pointer (some ⟨(N + 1), 0, none⟩)) (by simp only [execOp, e4]; go_simp) (KS_mkv rfl rfl)
    · -- 7: Op.slice 24 (Operand.tmp 17) none none none
      intro Q
      have e17 : a'.eval (.tmp 17) = .pointer (some ⟨(N + 1), 0, none⟩) := KS_val (hd.val 6 17 (by decide +kernel)) rfl
      exact wp_value _ (by simp only [execOp, e17, slice24, Sem.run_bind, Result.andThen_ok, Option.map_none]; rfl) (KS_mkr rfl (rd_range (ALT2 hg) (AP hg) hp))
    · -- 8: Op.indexAddr 25 (Operand.tmp 4) (Operand.const (Value.int IntKind.i64 
      intro Q
      have e4 : a'.eval (.tmp 4) = .pointer (some ⟨(N + 1), 0, none⟩) := hk.at 4 (by decide +kernel)
      clear hd hk
      exact wp_value (.pointer (some ⟨(N + 1), 32, none⟩)) (by simp only [execOp, e4]; go_simp) (KS_mkv rfl rfl)
    · -- 9: Op.slice 24 (Operand.tmp 19) none none none
      intro Q
      have e19 : a'.eval (.tmp 19) = .pointer (some ⟨(N + 1), 32, none⟩) := KS_val (hd.val 8 19 (by decide +kernel)) rfl
      exact wp_value _ (by simp only [execOp, e19, slice24, Sem.run_bind, Result.andThen_ok, Option.map_none]; rfl) (KS_mkr rfl (rd_range (ALT2 hg) (AQ hg) hq))
    · -- 10: Op.buildSlice 33 2 #[(0, Operand.tmp 18), (1, Operand.tmp 20)]
      intro Q
      have r18 : Rd w' (a'.eval (.tmp 18)) (p) := KS_rd (hd.val 7 18 (by decide +kernel)) rfl
      have r20 : Rd w' (a'.eval (.tmp 20)) (q) := KS_rd (hd.val 9 20 (by decide +kernel)) rfl
      obtain ⟨a18, c18, f18⟩ := r18.slice
      obtain ⟨a20, c20, f20⟩ := r20.slice
      rw [f18] at r18
      rw [f20] at r20
      exact wp_grow _ _ (by simp only [execOp, List.map_toArray, List.map_cons, List.map_nil, f18, f20]; go_simp) ((Below.refl _ _).alloc (Nat.le_refl _) _) (KS_mkR rfl (rows_list w' [_, _] _ ⟨r18, ⟨r20, True.intro⟩⟩))
    · -- 11: Op.call ( callee := Callee.value (Operand.func 25), args := #[Operand.
      intro Q
      have r21 : RdR w' (a'.eval (.tmp 21)) ([p, q]) := KS_rows (hd.val 10 21 (by decide +kernel)) rfl
      refine wp_call 25 _ (run_enter 25 _ _ rfl (by kernel_rfl)) ?_
      simp only [List.map_toArray, List.map_nil, List.map_cons]
      refine (bytes_any 1 _ [p, q] _ r21 (by simp [hp, hq]) (by simp)).mono ?_
      rw [Hm2.out]
      rintro e w5 ⟨v5, rfl, ho5, hb5⟩
      exact ⟨v5, rfl, KS_mkr rfl ho5.rd, hb5⟩
    · -- 12: Op.assign (Operand.tmp 16)
      intro Q
      have r16 : Rd w' (a'.eval (.tmp 16)) (m1) := KS_rd (hd.val 5 16 (by decide +kernel)) rfl
      exact wp_value (a'.eval (.tmp 16)) (by simp only [execOp]; rfl) (KS_mkr rfl r16)
    · -- 13: Op.assign (Operand.tmp 22)
      intro Q
      have r22 : Rd w' (a'.eval (.tmp 22)) (m2) := KS_rd (hd.val 11 22 (by decide +kernel)) rfl
      exact wp_value (a'.eval (.tmp 22)) (by simp only [execOp]; rfl) (KS_mkr rfl r22)
  · intro a1 w2 hsz1 hdf1 hk1 hall1 hg1
    have R7 : Rd w2 (a1.eval (.tmp 7)) m1 := KS_rd (hall1 12 _ 7 rfl rfl) rfl
    have R8 : Rd w2 (a1.eval (.tmp 8)) m2 := KS_rd (hall1 13 _ 8 rfl rfl) rfl
    have E2 : a1.eval (.tmp 2) = .int .i64 bit := hk1.at 2 (by decide +kernel)
    have E3 : a1.eval (.tmp 3) = .pointer (some ⟨N, 0, none⟩) := hk1.at 3 (by decide +kernel)
    have E4 : a1.eval (.tmp 4) = .pointer (some ⟨(N + 1), 0, none⟩) := hk1.at 4 (by decide +kernel)
    have BX0 := AX0.kept hg1
    have BP0 := AP0.kept hg1
    have L2 : Below N w w2 := L1.trans (Below.mono hg1 (Nat.le_of_lt AX0.lt))
    clear hall1 hk1 hg1
    have BX : ∀ {w'}, Gr w2 w' → w'.rangeAt N 0 (By x) := fun hg => (By_range (BX0.kept hg)).1
    have BY : ∀ {w'}, Gr w2 w' → w'.rangeAt N 32 (By y) := fun hg => by have := (By_range (BX0.kept hg)).2; rwa [hx] at this
    have BP : ∀ {w'}, Gr w2 w' → w'.rangeAt (N + 1) 0 (By p) := fun hg => (By_range (BP0.kept hg)).1
    have BQ : ∀ {w'}, Gr w2 w' → w'.rangeAt (N + 1) 32 (By q) := fun hg => by have := (By_range (BP0.kept hg)).2; rwa [hp] at this
    have BLT : ∀ {w'}, Gr w2 w' → N < w'.heap.size := fun hg => (BX0.kept hg).lt
    have BLT2 : ∀ {w'}, Gr w2 w' → N + 1 < w'.heap.size := fun hg => (BP0.kept hg).lt
    go_wp2_with fail
    refine wp_region_inv Tryd.mixed (KS (fun i => match i with | 0 | 9 => .val (.int .i64 bit) | 1 | 10 => .val (.int .u8 (u.toNat : Int)) | 2 | 11 => .rd ([u]) | 3 => .val (.pointer (some ⟨N, 0, none⟩)) | 4 => .rd (x) | 5 => .val (.pointer (some ⟨N, 32, none⟩)) | 6 => .rd (y) | 7 => .rows ([[u], x, y]) | 8 | 18 => .rd (m3) | 12 => .val (.pointer (some ⟨(N + 1), 0, none⟩)) | 13 => .rd (p) | 14 => .val (.pointer (some ⟨(N + 1), 32, none⟩)) | 15 => .rd (q) | 16 => .rows ([[u], p, q]) | 17 | 19 => .rd (m4) | _ => .free)) 102 hsz1 (by decide +kernel) (KS_mono _) ?_ ?_
    · refine AllFrom.cons (fun a' w' hg hk hd => ?_) (AllFrom.cons (fun a' w' hg hk hd => ?_) (AllFrom.cons (fun a' w' hg hk hd => ?_) (AllFrom.cons (fun a' w' hg hk hd => ?_) (AllFrom.cons (fun a' w' hg hk hd => ?_) (AllFrom.cons (fun a' w' hg hk hd => ?_) (AllFrom.cons (fun a' w' hg hk hd => ?_) (AllFrom.cons (fun a' w' hg hk hd => ?_) (AllFrom.cons (fun a' w' hg hk hd => ?_) (AllFrom.cons (fun a' w' hg hk hd => ?_) (AllFrom.cons (fun a' w' hg hk hd => ?_) (AllFrom.cons (fun a' w' hg hk hd => ?_) (AllFrom.cons (fun a' w' hg hk hd => ?_) (AllFrom.cons (fun a' w' hg hk hd => ?_) (AllFrom.cons (fun a' w' hg hk hd => ?_) (AllFrom.cons (fun a' w' hg hk hd => ?_) (AllFrom.cons (fun a' w' hg hk hd => ?_) (AllFrom.cons (fun a' w' hg hk hd => ?_) (AllFrom.cons (fun a' w' hg hk hd => ?_) (AllFrom.cons (fun a' w' hg hk hd => ?_) AllFrom.nil)))))))))))))))))))
      · -- 0: Op.move (Operand.tmp 2)
        intro Q
        have e2 : a'.eval (.tmp 2) = .int .i64 bit := (hk.at 2 (by decide +kernel)).trans (E2)
        exact wp_value _ (by simp only [execOp, e2]; rfl) (KS_mkv rfl rfl)
      · -- 1: Op.convert 3 5 (Operand.tmp 23)
        intro Q
        have e23 : a'.eval (.tmp 23) = .int .i64 bit := KS_val (hd.val 0 23 (by decide +kernel)) rfl
        clear hd hk
        exact wp_value (.int .u8 (u.toNat : Int)) (by simp only [execOp, e23]; have hb := HBit.out; go_simp) (KS_mkv rfl rfl)
      · -- 2: Op.buildSlice 22 1 #[(0, Operand.tmp 24)]
        intro Q
        have e24 : a'.eval (.tmp 24) = .int .u8 (u.toNat : Int) := KS_val (hd.val 1 24 (by decide +kernel)) rfl
        clear hd hk
        exact wp_grow _ _ (by simp only [execOp, List.map_toArray, List.map_cons, List.map_nil, e24]; go_simp) ((Below.refl _ _).alloc (Nat.le_refl _) _) (KS_mkr rfl (own_one _ _ (Nat.le_refl _) u).rd)
      · -- 3: Op.indexAddr 25 (Operand.tmp 3) (Operand.const (Value.int IntKind.i64 
        intro Q
        have e3 : a'.eval (.tmp 3) = .pointer (some ⟨N, 0, none⟩) := (hk.at 3 (by decide +kernel)).trans (E3)
        clear hd hk
        exact wp_value (.pointer (some ⟨N, 0, none⟩)) (by simp only [execOp, e3]; go_simp) (KS_mkv rfl rfl)
      · -- 4: Op.slice 24 (Operand.tmp 26) none none none
        intro Q
        have e26 : a'.eval (.tmp 26) = .pointer (some ⟨N, 0, none⟩) := KS_val (hd.val 3 26 (by decide +kernel)) rfl
        exact wp_value _ (by simp only [execOp, e26, slice24, Sem.run_bind, Result.andThen_ok, Option.map_none]; rfl) (KS_mkr rfl (rd_range (BLT hg) (BX hg) hx))
      · -- 5: Op.indexAddr 25 (Operand.tmp 3) (Operand.const (Value.int IntKind.i64 
        intro Q
        have e3 : a'.eval (.tmp 3) = .pointer (some ⟨N, 0, none⟩) := (hk.at 3 (by decide +kernel)).trans (E3)
        clear hd hk
        exact wp_value (.pointer (some ⟨N, 32, none⟩)) (by simp only [execOp, e3]; go_simp) (KS_mkv rfl rfl)
      · -- 6: Op.slice 24 (Operand.tmp 28) none none none
        intro Q
        have e28 : a'.eval (.tmp 28) = .pointer (some ⟨N, 32, none⟩) := KS_val (hd.val 5 28 (by decide +kernel)) rfl
        exact wp_value _ (by simp only [execOp, e28, slice24, Sem.run_bind, Result.andThen_ok, Option.map_none]; rfl) (KS_mkr rfl (rd_range (BLT hg) (BY hg) hy))
      · -- 7: Op.buildSlice 33 3 #[(0, Operand.tmp 25), (1, Operand.tmp 27), (2, Ope
        intro Q
        have r25 : Rd w' (a'.eval (.tmp 25)) ([u]) := KS_rd (hd.val 2 25 (by decide +kernel)) rfl
        have r27 : Rd w' (a'.eval (.tmp 27)) (x) := KS_rd (hd.val 4 27 (by decide +kernel)) rfl
        have r29 : Rd w' (a'.eval (.tmp 29)) (y) := KS_rd (hd.val 6 29 (by decide +kernel)) rfl
        obtain ⟨a25, c25, f25⟩ := r25.slice
        obtain ⟨a27, c27, f27⟩ := r27.slice
        obtain ⟨a29, c29, f29⟩ := r29.slice
        rw [f25] at r25
        rw [f27] at r27
        rw [f29] at r29
        exact wp_grow _ _ (by simp only [execOp, List.map_toArray, List.map_cons, List.map_nil, f25, f27, f29]; go_simp) ((Below.refl _ _).alloc (Nat.le_refl _) _) (KS_mkR rfl (rows_list w' [_, _, _] _ ⟨r25, ⟨r27, ⟨r29, True.intro⟩⟩⟩))
      · -- 8: Op.call ( callee := Callee.value (Operand.func 25), args := #[Operand.
        intro Q
        have r30 : RdR w' (a'.eval (.tmp 30)) ([[u], x, y]) := KS_rows (hd.val 7 30 (by decide +kernel)) rfl
        refine wp_call 25 _ (run_enter 25 _ _ rfl (by kernel_rfl)) ?_
        simp only [List.map_toArray, List.map_nil, List.map_cons]
        refine (bytes_any 4 _ [[u], x, y] _ r30 (by simp [hx, hy]) (by simp)).mono ?_
        rw [Hm3.out]
        rintro e w5 ⟨v5, rfl, ho5, hb5⟩
        exact ⟨v5, rfl, KS_mkr rfl ho5.rd, hb5⟩
      · -- 9: Op.move (Operand.tmp 2)
        intro Q
        have e2 : a'.eval (.tmp 2) = .int .i64 bit := (hk.at 2 (by decide +kernel)).trans (E2)
        exact wp_value _ (by simp only [execOp, e2]; rfl) (KS_mkv rfl rfl)
      · -- 10: Op.convert 3 5 (Operand.tmp 32)
        intro Q
        have e32 : a'.eval (.tmp 32) = .int .i64 bit := KS_val (hd.val 9 32 (by decide +kernel)) rfl
        clear hd hk
        exact wp_value (.int .u8 (u.toNat : Int)) (by simp only [execOp, e32]; have hb := HBit.out; go_simp) (KS_mkv rfl rfl)
      · -- 11: Op.buildSlice 22 1 #[(0, Operand.tmp 33)]
        intro Q
        have e33 : a'.eval (.tmp 33) = .int .u8 (u.toNat : Int) := KS_val (hd.val 10 33 (by decide +kernel)) rfl
        clear hd hk
        exact wp_grow _ _ (by simp only [execOp, List.map_toArray, List.map_cons, List.map_nil, e33]; go_simp) ((Below.refl _ _).alloc (Nat.le_refl _) _) (KS_mkr rfl (own_one _ _ (Nat.le_refl _) u).rd)
      · -- 12: Op.indexAddr 25 (Operand.tmp 4) (Operand.const (Value.int IntKind.i64 
        intro Q
        have e4 : a'.eval (.tmp 4) = .pointer (some ⟨(N + 1), 0, none⟩) := (hk.at 4 (by decide +kernel)).trans (E4)
        clear hd hk
        exact wp_value (.pointer (some ⟨(N + 1), 0, none⟩)) (by simp only [execOp, e4]; go_simp) (KS_mkv rfl rfl)
      · -- 13: Op.slice 24 (Operand.tmp 35) none none none
        intro Q
        have e35 : a'.eval (.tmp 35) = .pointer (some ⟨(N + 1), 0, none⟩) := KS_val (hd.val 12 35 (by decide +kernel)) rfl
        exact wp_value _ (by simp only [execOp, e35, slice24, Sem.run_bind, Result.andThen_ok, Option.map_none]; rfl) (KS_mkr rfl (rd_range (BLT2 hg) (BP hg) hp))
      · -- 14: Op.indexAddr 25 (Operand.tmp 4) (Operand.const (Value.int IntKind.i64 
        intro Q
        have e4 : a'.eval (.tmp 4) = .pointer (some ⟨(N + 1), 0, none⟩) := (hk.at 4 (by decide +kernel)).trans (E4)
        clear hd hk
        exact wp_value (.pointer (some ⟨(N + 1), 32, none⟩)) (by simp only [execOp, e4]; go_simp) (KS_mkv rfl rfl)
      · -- 15: Op.slice 24 (Operand.tmp 37) none none none
        intro Q
        have e37 : a'.eval (.tmp 37) = .pointer (some ⟨(N + 1), 32, none⟩) := KS_val (hd.val 14 37 (by decide +kernel)) rfl
        exact wp_value _ (by simp only [execOp, e37, slice24, Sem.run_bind, Result.andThen_ok, Option.map_none]; rfl) (KS_mkr rfl (rd_range (BLT2 hg) (BQ hg) hq))
      · -- 16: Op.buildSlice 33 3 #[(0, Operand.tmp 34), (1, Operand.tmp 36), (2, Ope
        intro Q
        have r34 : Rd w' (a'.eval (.tmp 34)) ([u]) := KS_rd (hd.val 11 34 (by decide +kernel)) rfl
        have r36 : Rd w' (a'.eval (.tmp 36)) (p) := KS_rd (hd.val 13 36 (by decide +kernel)) rfl
        have r38 : Rd w' (a'.eval (.tmp 38)) (q) := KS_rd (hd.val 15 38 (by decide +kernel)) rfl
        obtain ⟨a34, c34, f34⟩ := r34.slice
        obtain ⟨a36, c36, f36⟩ := r36.slice
        obtain ⟨a38, c38, f38⟩ := r38.slice
        rw [f34] at r34
        rw [f36] at r36
        rw [f38] at r38
        exact wp_grow _ _ (by simp only [execOp, List.map_toArray, List.map_cons, List.map_nil, f34, f36, f38]; go_simp) ((Below.refl _ _).alloc (Nat.le_refl _) _) (KS_mkR rfl (rows_list w' [_, _, _] _ ⟨r34, ⟨r36, ⟨r38, True.intro⟩⟩⟩))
      · -- 17: Op.call ( callee := Callee.value (Operand.func 25), args := #[Operand.
        intro Q
        have r39 : RdR w' (a'.eval (.tmp 39)) ([[u], p, q]) := KS_rows (hd.val 16 39 (by decide +kernel)) rfl
        refine wp_call 25 _ (run_enter 25 _ _ rfl (by kernel_rfl)) ?_
        simp only [List.map_toArray, List.map_nil, List.map_cons]
        refine (bytes_any 4 _ [[u], p, q] _ r39 (by simp [hp, hq]) (by simp)).mono ?_
        rw [Hm4.out]
        rintro e w5 ⟨v5, rfl, ho5, hb5⟩
        exact ⟨v5, rfl, KS_mkr rfl ho5.rd, hb5⟩
      · -- 18: Op.assign (Operand.tmp 31)
        intro Q
        have r31 : Rd w' (a'.eval (.tmp 31)) (m3) := KS_rd (hd.val 8 31 (by decide +kernel)) rfl
        exact wp_value (a'.eval (.tmp 31)) (by simp only [execOp]; rfl) (KS_mkr rfl r31)
      · -- 19: Op.assign (Operand.tmp 40)
        intro Q
        have r40 : Rd w' (a'.eval (.tmp 40)) (m4) := KS_rd (hd.val 17 40 (by decide +kernel)) rfl
        exact wp_value (a'.eval (.tmp 40)) (by simp only [execOp]; rfl) (KS_mkr rfl r40)
    · intro a2 w3 hsz2 hdf2 hk2 hall2 hg2
      have R9 : Rd w3 (a2.eval (.tmp 9)) m3 := KS_rd (hall2 18 _ 9 rfl rfl) rfl
      have R10 : Rd w3 (a2.eval (.tmp 10)) m4 := KS_rd (hall2 19 _ 10 rfl rfl) rfl
      have R7 : Rd w3 (a2.eval (.tmp 7)) m1 := by rw [hk2.at 7 (by decide +kernel)]; exact R7.kept hg2
      have R8 : Rd w3 (a2.eval (.tmp 8)) m2 := by rw [hk2.at 8 (by decide +kernel)]; exact R8.kept hg2
      have E2 : a2.eval (.tmp 2) = .int .i64 bit := (hk2.at 2 (by decide +kernel)).trans E2
      have E3 : a2.eval (.tmp 3) = .pointer (some ⟨N, 0, none⟩) := (hk2.at 3 (by decide +kernel)).trans E3
      have E4 : a2.eval (.tmp 4) = .pointer (some ⟨(N + 1), 0, none⟩) := (hk2.at 4 (by decide +kernel)).trans E4
      have CX := BX0.kept hg2
      have CP := BP0.kept hg2
      have L3 : Below N w w3 := L2.trans (Below.mono hg2 (Nat.le_of_lt BX0.lt))
      clear hall2 hk2 hg2
      go_wp2_with fail
      refine wp_region_inv Tryd.mixed (KS (fun i => match i with | 0 => .rd (m1) | 1 => .val (.string ⟨(m1).toArray⟩) | 2 => .rd (m2) | 3 => .val (.string ⟨(m2).toArray⟩) | 4 | 7 | 14 | 17 => .val (.bool E) | 5 | 15 => .val (.agg (By (x ++ y)).toArray) | 6 | 16 => .val (.agg (By (p ++ q)).toArray) | 8 | 9 | 18 | 19 => .val (.bool false) | 10 => .rd (m3) | 11 => .val (.string ⟨(m3).toArray⟩) | 12 => .rd (m4) | 13 => .val (.string ⟨(m4).toArray⟩) | _ => .free)) 102 (hsz2.trans hsz1) (by decide +kernel) (KS_mono _) ?_ ?_
      · refine AllFrom.cons (fun a' w' hg hk hd => ?_) (AllFrom.cons (fun a' w' hg hk hd => ?_) (AllFrom.cons (fun a' w' hg hk hd => ?_) (AllFrom.cons (fun a' w' hg hk hd => ?_) (AllFrom.cons (fun a' w' hg hk hd => ?_) (AllFrom.cons (fun a' w' hg hk hd => ?_) (AllFrom.cons (fun a' w' hg hk hd => ?_) (AllFrom.cons (fun a' w' hg hk hd => ?_) (AllFrom.cons (fun a' w' hg hk hd => ?_) (AllFrom.cons (fun a' w' hg hk hd => ?_) (AllFrom.cons (fun a' w' hg hk hd => ?_) (AllFrom.cons (fun a' w' hg hk hd => ?_) (AllFrom.cons (fun a' w' hg hk hd => ?_) (AllFrom.cons (fun a' w' hg hk hd => ?_) (AllFrom.cons (fun a' w' hg hk hd => ?_) (AllFrom.cons (fun a' w' hg hk hd => ?_) (AllFrom.cons (fun a' w' hg hk hd => ?_) (AllFrom.cons (fun a' w' hg hk hd => ?_) (AllFrom.cons (fun a' w' hg hk hd => ?_) (AllFrom.cons (fun a' w' hg hk hd => ?_) AllFrom.nil)))))))))))))))))))
        · -- 0: Op.move (Operand.tmp 7)
          intro Q
          have r7 : Rd w' (a'.eval (.tmp 7)) (m1) := by rw [hk.at 7 (by decide +kernel)]; exact Rd.kept (R7) hg
          exact wp_value (a'.eval (.tmp 7)) (by simp only [execOp]; rfl) (KS_mkr rfl r7)
        · -- 1: Op.convert 22 9 (Operand.tmp 41)
          intro Q
          have r41 : Rd w' (a'.eval (.tmp 41)) (m1) := KS_rd (hd.val 0 41 (by decide +kernel)) rfl
          exact wp_value _ (by simp only [execOp, r41.conv (P := Tryd.prog) 22 9 Tryd.underlying22 Tryd.underlying5 Tryd.underlying9, Sem.run_bind, Result.andThen_ok]; rfl) (KS_mkv rfl rfl)
        · -- 2: Op.move (Operand.tmp 8)
          intro Q
          have r8 : Rd w' (a'.eval (.tmp 8)) (m2) := by rw [hk.at 8 (by decide +kernel)]; exact Rd.kept (R8) hg
          exact wp_value (a'.eval (.tmp 8)) (by simp only [execOp]; rfl) (KS_mkr rfl r8)
        · -- 3: Op.convert 22 9 (Operand.tmp 43)
          intro Q
          have r43 : Rd w' (a'.eval (.tmp 43)) (m2) := KS_rd (hd.val 2 43 (by decide +kernel)) rfl
          exact wp_value _ (by simp only [execOp, r43.conv (P := Tryd.prog) 22 9 Tryd.underlying22 Tryd.underlying5 Tryd.underlying9, Sem.run_bind, Result.andThen_ok]; rfl) (KS_mkv rfl rfl)
        · -- 4: Op.binOp BinOp.eql 9 (Operand.tmp 42) (Operand.tmp 44) 9
          intro Q
          have e42 : a'.eval (.tmp 42) = .string ⟨(m1).toArray⟩ := KS_val (hd.val 1 42 (by decide +kernel)) rfl
          have e44 : a'.eval (.tmp 44) = .string ⟨(m2).toArray⟩ := KS_val (hd.val 3 44 (by decide +kernel)) rfl
          clear hd hk
          exact wp_value (.bool E) (by simp only [execOp, e42, e44]; have h1 := s12; have h2 := s34; go_simp) (KS_mkv rfl rfl)
        · -- 5: Op.load 25 (Operand.tmp 3)
          intro Q
          have e3 : a'.eval (.tmp 3) = .pointer (some ⟨N, 0, none⟩) := (hk.at 3 (by decide +kernel)).trans (E3)
          exact wp_load_row 25 _ rfl _ _ e3 (By (x ++ y)) _ (CX.kept hg).range0 Tryd.underlying25 rfl (by rw [By_length, List.length_append, hx, hy]; exact Tryd.size25) (KS_mkv rfl rfl)
        · -- 6: Op.load 25 (Operand.tmp 4)
          intro Q
          have e4 : a'.eval (.tmp 4) = .pointer (some ⟨(N + 1), 0, none⟩) := (hk.at 4 (by decide +kernel)).trans (E4)
          exact wp_load_row 25 _ rfl _ _ e4 (By (p ++ q)) _ (CP.kept hg).range0 Tryd.underlying25 rfl (by rw [By_length, List.length_append, hp, hq]; exact Tryd.size25) (KS_mkv rfl rfl)
        · -- 7: Op.binOp BinOp.eql 25 (Operand.tmp 46) (Operand.tmp 47) 25
          intro Q
          have e46 : a'.eval (.tmp 46) = .agg (By (x ++ y)).toArray := KS_val (hd.val 5 46 (by decide +kernel)) rfl
          have e47 : a'.eval (.tmp 47) = .agg (By (p ++ q)).toArray := KS_val (hd.val 6 47 (by decide +kernel)) rfl
          clear hd hk
          exact wp_value (.bool E) (by simp only [execOp, e46, e47]; have he := eA; go_simp) (KS_mkv rfl rfl)
        · -- 8: Op.binOp BinOp.neq 4 (Operand.tmp 45) (Operand.tmp 48) 4
          intro Q
          have e45 : a'.eval (.tmp 45) = .bool E := KS_val (hd.val 4 45 (by decide +kernel)) rfl
          have e48 : a'.eval (.tmp 48) = .bool E := KS_val (hd.val 7 48 (by decide +kernel)) rfl
          clear hd hk
          exact wp_value (.bool false) (by simp only [execOp, e45, e48]; go_simp) (KS_mkv rfl rfl)
        · -- 9: Op.move (Operand.tmp 49)
          intro Q
          have e49 : a'.eval (.tmp 49) = .bool false := KS_val (hd.val 8 49 (by decide +kernel)) rfl
          exact wp_value _ (by simp only [execOp, e49]; rfl) (KS_mkv rfl rfl)
        · -- 10: Op.move (Operand.tmp 9)
          have eg : a'.eval (.tmp 50) = .bool false := KS_val (hd.val 9 50 (by decide +kernel)) rfl
          refine ⟨50, false, rfl, eg, fun _ Q => ?_, fun h => absurd rfl h⟩
          have r9 : Rd w' (a'.eval (.tmp 9)) (m3) := by rw [hk.at 9 (by decide +kernel)]; exact Rd.kept (R9) hg
          exact wp_value (a'.eval (.tmp 9)) (by simp only [execOp]; rfl) (KS_mkr rfl r9)
        · -- 11: Op.convert 22 9 (Operand.tmp 51)
          have eg : a'.eval (.tmp 50) = .bool false := KS_val (hd.val 9 50 (by decide +kernel)) rfl
          refine ⟨50, false, rfl, eg, fun _ Q => ?_, fun h => absurd rfl h⟩
          have r51 : Rd w' (a'.eval (.tmp 51)) (m3) := KS_rd (hd.val 10 51 (by decide +kernel)) rfl
          exact wp_value _ (by simp only [execOp, r51.conv (P := Tryd.prog) 22 9 Tryd.underlying22 Tryd.underlying5 Tryd.underlying9, Sem.run_bind, Result.andThen_ok]; rfl) (KS_mkv rfl rfl)
        · -- 12: Op.move (Operand.tmp 10)
          have eg : a'.eval (.tmp 50) = .bool false := KS_val (hd.val 9 50 (by decide +kernel)) rfl
          refine ⟨50, false, rfl, eg, fun _ Q => ?_, fun h => absurd rfl h⟩
          have r10 : Rd w' (a'.eval (.tmp 10)) (m4) := by rw [hk.at 10 (by decide +kernel)]; exact Rd.kept (R10) hg
          exact wp_value (a'.eval (.tmp 10)) (by simp only [execOp]; rfl) (KS_mkr rfl r10)
        · -- 13: Op.convert 22 9 (Operand.tmp 53)
          have eg : a'.eval (.tmp 50) = .bool false := KS_val (hd.val 9 50 (by decide +kernel)) rfl
          refine ⟨50, false, rfl, eg, fun _ Q => ?_, fun h => absurd rfl h⟩
          have r53 : Rd w' (a'.eval (.tmp 53)) (m4) := KS_rd (hd.val 12 53 (by decide +kernel)) rfl
          exact wp_value _ (by simp only [execOp, r53.conv (P := Tryd.prog) 22 9 Tryd.underlying22 Tryd.underlying5 Tryd.underlying9, Sem.run_bind, Result.andThen_ok]; rfl) (KS_mkv rfl rfl)
        · -- 14: Op.binOp BinOp.eql 9 (Operand.tmp 52) (Operand.tmp 54) 9
          have eg : a'.eval (.tmp 50) = .bool false := KS_val (hd.val 9 50 (by decide +kernel)) rfl
          refine ⟨50, false, rfl, eg, fun _ Q => ?_, fun h => absurd rfl h⟩
          have e52 : a'.eval (.tmp 52) = .string ⟨(m3).toArray⟩ := KS_val (hd.val 11 52 (by decide +kernel)) rfl
          have e54 : a'.eval (.tmp 54) = .string ⟨(m4).toArray⟩ := KS_val (hd.val 13 54 (by decide +kernel)) rfl
          clear hd hk
          exact wp_value (.bool E) (by simp only [execOp, e52, e54]; have h1 := s12; have h2 := s34; go_simp) (KS_mkv rfl rfl)
        · -- 15: Op.load 25 (Operand.tmp 3)
          have eg : a'.eval (.tmp 50) = .bool false := KS_val (hd.val 9 50 (by decide +kernel)) rfl
          refine ⟨50, false, rfl, eg, fun _ Q => ?_, fun h => absurd rfl h⟩
          have e3 : a'.eval (.tmp 3) = .pointer (some ⟨N, 0, none⟩) := (hk.at 3 (by decide +kernel)).trans (E3)
          exact wp_load_row 25 _ rfl _ _ e3 (By (x ++ y)) _ (CX.kept hg).range0 Tryd.underlying25 rfl (by rw [By_length, List.length_append, hx, hy]; exact Tryd.size25) (KS_mkv rfl rfl)
        · -- 16: Op.load 25 (Operand.tmp 4)
          have eg : a'.eval (.tmp 50) = .bool false := KS_val (hd.val 9 50 (by decide +kernel)) rfl
          refine ⟨50, false, rfl, eg, fun _ Q => ?_, fun h => absurd rfl h⟩
          have e4 : a'.eval (.tmp 4) = .pointer (some ⟨(N + 1), 0, none⟩) := (hk.at 4 (by decide +kernel)).trans (E4)
          exact wp_load_row 25 _ rfl _ _ e4 (By (p ++ q)) _ (CP.kept hg).range0 Tryd.underlying25 rfl (by rw [By_length, List.length_append, hp, hq]; exact Tryd.size25) (KS_mkv rfl rfl)
        · -- 17: Op.binOp BinOp.eql 25 (Operand.tmp 56) (Operand.tmp 57) 25
          have eg : a'.eval (.tmp 50) = .bool false := KS_val (hd.val 9 50 (by decide +kernel)) rfl
          refine ⟨50, false, rfl, eg, fun _ Q => ?_, fun h => absurd rfl h⟩
          have e56 : a'.eval (.tmp 56) = .agg (By (x ++ y)).toArray := KS_val (hd.val 15 56 (by decide +kernel)) rfl
          have e57 : a'.eval (.tmp 57) = .agg (By (p ++ q)).toArray := KS_val (hd.val 16 57 (by decide +kernel)) rfl
          clear hd hk
          exact wp_value (.bool E) (by simp only [execOp, e56, e57]; have he := eA; go_simp) (KS_mkv rfl rfl)
        · -- 18: Op.binOp BinOp.neq 4 (Operand.tmp 55) (Operand.tmp 58) 4
          have eg : a'.eval (.tmp 50) = .bool false := KS_val (hd.val 9 50 (by decide +kernel)) rfl
          refine ⟨50, false, rfl, eg, fun _ Q => ?_, fun h => absurd rfl h⟩
          have e55 : a'.eval (.tmp 55) = .bool E := KS_val (hd.val 14 55 (by decide +kernel)) rfl
          have e58 : a'.eval (.tmp 58) = .bool E := KS_val (hd.val 17 58 (by decide +kernel)) rfl
          clear hd hk
          exact wp_value (.bool false) (by simp only [execOp, e55, e58]; go_simp) (KS_mkv rfl rfl)
        · -- 19: Op.pick (Operand.tmp 50) (Operand.const (Value.bool true)) (Operand.tm
          intro Q
          have e50 : a'.eval (.tmp 50) = .bool false := KS_val (hd.val 9 50 (by decide +kernel)) rfl
          have e59 : a'.eval (.tmp 59) = .bool false := KS_val (hd.val 18 59 (by decide +kernel)) rfl
          clear hd hk
          exact wp_value (.bool false) (by simp only [execOp, e50, e59]; go_simp) (KS_mkv rfl rfl)
      · intro a3 w4 hsz3 hdf3 hk3 hall3 hg3
        have E60 : a3.eval (.tmp 60) = .bool false := KS_val (hall3 19 _ 60 rfl rfl) rfl
        have R7 : Rd w4 (a3.eval (.tmp 7)) m1 := by rw [hk3.at 7 (by decide +kernel)]; exact R7.kept hg3
        have R8 : Rd w4 (a3.eval (.tmp 8)) m2 := by rw [hk3.at 8 (by decide +kernel)]; exact R8.kept hg3
        have R9 : Rd w4 (a3.eval (.tmp 9)) m3 := by rw [hk3.at 9 (by decide +kernel)]; exact R9.kept hg3
        have R10 : Rd w4 (a3.eval (.tmp 10)) m4 := by rw [hk3.at 10 (by decide +kernel)]; exact R10.kept hg3
        have E2 : a3.eval (.tmp 2) = .int .i64 bit := (hk3.at 2 (by decide +kernel)).trans E2
        have E3 : a3.eval (.tmp 3) = .pointer (some ⟨N, 0, none⟩) := (hk3.at 3 (by decide +kernel)).trans E3
        have E4 : a3.eval (.tmp 4) = .pointer (some ⟨(N + 1), 0, none⟩) := (hk3.at 4 (by decide +kernel)).trans E4
        have DX0 := CX.kept hg3
        have DP0 := CP.kept hg3
        have L4 : Below N w w4 := L3.trans (Below.mono hg3 (Nat.le_of_lt CX.lt))
        have HT3 : Tabs w4 := HT.out.kept (L4.mono HNT.out)
        clear hall3 hk3 hg3
        have CX : ∀ {w'}, Gr w4 w' → w'.rangeAt N 0 (By x) := fun hg => (By_range (DX0.kept hg)).1
        have CY : ∀ {w'}, Gr w4 w' → w'.rangeAt N 32 (By y) := fun hg => by have := (By_range (DX0.kept hg)).2; rwa [hx] at this
        have CP : ∀ {w'}, Gr w4 w' → w'.rangeAt (N + 1) 0 (By p) := fun hg => (By_range (DP0.kept hg)).1
        have CQ : ∀ {w'}, Gr w4 w' → w'.rangeAt (N + 1) 32 (By q) := fun hg => by have := (By_range (DP0.kept hg)).2; rwa [hp] at this
        have CLT : ∀ {w'}, Gr w4 w' → N < w'.heap.size := fun hg => (DX0.kept hg).lt
        have CLT2 : ∀ {w'}, Gr w4 w' → N + 1 < w'.heap.size := fun hg => (DP0.kept hg).lt
        go_wp2_with fail
        refine wp_cond_false E60 ?_
        go_wp2_with fail
        refine wp_region_inv Tryd.mixed (KS (fun i => match i with | 0 | 19 => .val (.pointer (some ⟨N, 0, none⟩)) | 1 | 20 => .val (.agg (By (x)).toArray) | 2 | 21 => .val (.pointer (some ⟨N, 32, none⟩)) | 3 | 22 => .val (.agg (By (y)).toArray) | 4 | 12 => .val (.agg (By (G1)).toArray) | 5 | 25 => .val (.pointer (some ⟨(N + 1), 0, none⟩)) | 6 | 26 => .val (.agg (By (p)).toArray) | 7 | 27 => .val (.pointer (some ⟨(N + 1), 32, none⟩)) | 8 | 28 => .val (.agg (By (q)).toArray) | 9 | 14 => .val (.agg (By (G2)).toArray) | 10 | 15 => .val (.bool F1) | 11 => .rd (m1) | 13 => .rd (m2) | 16 | 17 | 36 | 37 | 38 | 39 | 40 | 41 => .val (.bool true) | 18 | 24 => .val (.int .i64 bit) | 23 | 32 => .val (.agg (By (G3)).toArray) | 29 | 34 => .val (.agg (By (G4)).toArray) | 30 | 35 => .val (.bool F2) | 31 => .rd (m3) | 33 => .rd (m4) | _ => .free)) 102 (hsz3.trans (hsz2.trans hsz1)) (by decide +kernel) (KS_mono _) ?_ ?_
        · refine AllFrom.cons (fun a' w' hg hk hd => ?_) (AllFrom.cons (fun a' w' hg hk hd => ?_) (AllFrom.cons (fun a' w' hg hk hd => ?_) (AllFrom.cons (fun a' w' hg hk hd => ?_) (AllFrom.cons (fun a' w' hg hk hd => ?_) (AllFrom.cons (fun a' w' hg hk hd => ?_) (AllFrom.cons (fun a' w' hg hk hd => ?_) (AllFrom.cons (fun a' w' hg hk hd => ?_) (AllFrom.cons (fun a' w' hg hk hd => ?_) (AllFrom.cons (fun a' w' hg hk hd => ?_) (AllFrom.cons (fun a' w' hg hk hd => ?_) (AllFrom.cons (fun a' w' hg hk hd => ?_) (AllFrom.cons (fun a' w' hg hk hd => ?_) (AllFrom.cons (fun a' w' hg hk hd => ?_) (AllFrom.cons (fun a' w' hg hk hd => ?_) (AllFrom.cons (fun a' w' hg hk hd => ?_) (AllFrom.cons (fun a' w' hg hk hd => ?_) (AllFrom.cons (fun a' w' hg hk hd => ?_) (AllFrom.cons (fun a' w' hg hk hd => ?_) (AllFrom.cons (fun a' w' hg hk hd => ?_) (AllFrom.cons (fun a' w' hg hk hd => ?_) (AllFrom.cons (fun a' w' hg hk hd => ?_) (AllFrom.cons (fun a' w' hg hk hd => ?_) (AllFrom.cons (fun a' w' hg hk hd => ?_) (AllFrom.cons (fun a' w' hg hk hd => ?_) (AllFrom.cons (fun a' w' hg hk hd => ?_) (AllFrom.cons (fun a' w' hg hk hd => ?_) (AllFrom.cons (fun a' w' hg hk hd => ?_) (AllFrom.cons (fun a' w' hg hk hd => ?_) (AllFrom.cons (fun a' w' hg hk hd => ?_) (AllFrom.cons (fun a' w' hg hk hd => ?_) (AllFrom.cons (fun a' w' hg hk hd => ?_) (AllFrom.cons (fun a' w' hg hk hd => ?_) (AllFrom.cons (fun a' w' hg hk hd => ?_) (AllFrom.cons (fun a' w' hg hk hd => ?_) (AllFrom.cons (fun a' w' hg hk hd => ?_) (AllFrom.cons (fun a' w' hg hk hd => ?_) (AllFrom.cons (fun a' w' hg hk hd => ?_) (AllFrom.cons (fun a' w' hg hk hd => ?_) (AllFrom.cons (fun a' w' hg hk hd => ?_) (AllFrom.cons (fun a' w' hg hk hd => ?_) (AllFrom.cons (fun a' w' hg hk hd => ?_) AllFrom.nil)))))))))))))))))))))))))))))))))))))))))
          · -- 0: Op.indexAddr 25 (Operand.tmp 3) (Operand.const (Value.int IntKind.i64 
            intro Q
            have e3 : a'.eval (.tmp 3) = .pointer (some ⟨N, 0, none⟩) := (hk.at 3 (by decide +kernel)).trans (E3)
            clear hd hk
            exact wp_value (.pointer (some ⟨N, 0, none⟩)) (by simp only [execOp, e3]; go_simp) (KS_mkv rfl rfl)
          · -- 1: Op.load 24 (Operand.tmp 61)
            intro Q
            have e61 : a'.eval (.tmp 61) = .pointer (some ⟨N, 0, none⟩) := KS_val (hd.val 0 61 (by decide +kernel)) rfl
            exact wp_load_row 24 _ rfl _ _ e61 (By (x)) _ (CX hg) Tryd.underlying24 rfl (by rw [By_length, hx]; exact Tryd.size24) (KS_mkv rfl rfl)
          · -- 2: Op.indexAddr 25 (Operand.tmp 3) (Operand.const (Value.int IntKind.i64 
            intro Q
            have e3 : a'.eval (.tmp 3) = .pointer (some ⟨N, 0, none⟩) := (hk.at 3 (by decide +kernel)).trans (E3)
            clear hd hk
            exact wp_value (.pointer (some ⟨N, 32, none⟩)) (by simp only [execOp, e3]; go_simp) (KS_mkv rfl rfl)
          · -- 3: Op.load 24 (Operand.tmp 63)
            intro Q
            have e63 : a'.eval (.tmp 63) = .pointer (some ⟨N, 32, none⟩) := KS_val (hd.val 2 63 (by decide +kernel)) rfl
            exact wp_load_row 24 _ rfl _ _ e63 (By (y)) _ (CY hg) Tryd.underlying24 rfl (by rw [By_length, hy]; exact Tryd.size24) (KS_mkv rfl rfl)
          · -- 4: Op.call ( callee := Callee.value (Operand.func 11), args := #[Operand.
            intro Q
            have e62 : a'.eval (.tmp 62) = .agg (By (x)).toArray := KS_val (hd.val 1 62 (by decide +kernel)) rfl
            have e64 : a'.eval (.tmp 64) = .agg (By (y)).toArray := KS_val (hd.val 3 64 (by decide +kernel)) rfl
            refine wp_call 11 _ (run_enter 11 _ _ rfl (by kernel_rfl)) ?_
            simp only [List.map_toArray, List.map_nil, List.map_cons, e62, e64]
            refine (node_any x y hx hy _ (HT3.gr hg)).mono ?_
            rw [HG1.out]
            rintro e w5 ⟨rfl, hb5⟩
            exact ⟨_, rfl, KS_mkv rfl rfl, hb5⟩
          · -- 5: Op.indexAddr 25 (Operand.tmp 4) (Operand.const (Value.int IntKind.i64 
            intro Q
            have e4 : a'.eval (.tmp 4) = .pointer (some ⟨(N + 1), 0, none⟩) := (hk.at 4 (by decide +kernel)).trans (E4)
            clear hd hk
            exact wp_value (.pointer (some ⟨(N + 1), 0, none⟩)) (by simp only [execOp, e4]; go_simp) (KS_mkv rfl rfl)
          · -- 6: Op.load 24 (Operand.tmp 66)
            intro Q
            have e66 : a'.eval (.tmp 66) = .pointer (some ⟨(N + 1), 0, none⟩) := KS_val (hd.val 5 66 (by decide +kernel)) rfl
            exact wp_load_row 24 _ rfl _ _ e66 (By (p)) _ (CP hg) Tryd.underlying24 rfl (by rw [By_length, hp]; exact Tryd.size24) (KS_mkv rfl rfl)
          · -- 7: Op.indexAddr 25 (Operand.tmp 4) (Operand.const (Value.int IntKind.i64 
            intro Q
            have e4 : a'.eval (.tmp 4) = .pointer (some ⟨(N + 1), 0, none⟩) := (hk.at 4 (by decide +kernel)).trans (E4)
            clear hd hk
            exact wp_value (.pointer (some ⟨(N + 1), 32, none⟩)) (by simp only [execOp, e4]; go_simp) (KS_mkv rfl rfl)
          · -- 8: Op.load 24 (Operand.tmp 68)
            intro Q
            have e68 : a'.eval (.tmp 68) = .pointer (some ⟨(N + 1), 32, none⟩) := KS_val (hd.val 7 68 (by decide +kernel)) rfl
            exact wp_load_row 24 _ rfl _ _ e68 (By (q)) _ (CQ hg) Tryd.underlying24 rfl (by rw [By_length, hq]; exact Tryd.size24) (KS_mkv rfl rfl)
          · -- 9: Op.call ( callee := Callee.value (Operand.func 11), args := #[Operand.
            intro Q
            have e67 : a'.eval (.tmp 67) = .agg (By (p)).toArray := KS_val (hd.val 6 67 (by decide +kernel)) rfl
            have e69 : a'.eval (.tmp 69) = .agg (By (q)).toArray := KS_val (hd.val 8 69 (by decide +kernel)) rfl
            refine wp_call 11 _ (run_enter 11 _ _ rfl (by kernel_rfl)) ?_
            simp only [List.map_toArray, List.map_nil, List.map_cons, e67, e69]
            refine (node_any p q hp hq _ (HT3.gr hg)).mono ?_
            rw [HG2.out]
            rintro e w5 ⟨rfl, hb5⟩
            exact ⟨_, rfl, KS_mkv rfl rfl, hb5⟩
          · -- 10: Op.binOp BinOp.eql 24 (Operand.tmp 65) (Operand.tmp 70) 24
            intro Q
            have e65 : a'.eval (.tmp 65) = .agg (By (G1)).toArray := KS_val (hd.val 4 65 (by decide +kernel)) rfl
            have e70 : a'.eval (.tmp 70) = .agg (By (G2)).toArray := KS_val (hd.val 9 70 (by decide +kernel)) rfl
            clear hd hk
            exact wp_value (.bool F1) (by simp only [execOp, e65, e70]; have he := q24F1; go_simp) (KS_mkv rfl rfl)
          · -- 11: Op.move (Operand.tmp 7)
            intro Q
            have r7 : Rd w' (a'.eval (.tmp 7)) (m1) := by rw [hk.at 7 (by decide +kernel)]; exact Rd.kept (R7) hg
            exact wp_value (a'.eval (.tmp 7)) (by simp only [execOp]; rfl) (KS_mkr rfl r7)
          · -- 12: Op.call ( callee := Callee.value (Operand.func 27), args := #[Operand.
            intro Q
            have r72 : Rd w' (a'.eval (.tmp 72)) (m1) := KS_rd (hd.val 11 72 (by decide +kernel)) rfl
            refine wp_call 27 _ (run_enter 27 _ _ rfl (by kernel_rfl)) ?_
            simp only [List.map_toArray, List.map_nil, List.map_cons]
            refine (refSum_any _ m1 (by omega) _ r72).mono ?_
            rw [SG1.out]
            rintro e w5 ⟨rfl, hb5⟩
            exact ⟨_, rfl, KS_mkv rfl rfl, hb5⟩
          · -- 13: Op.move (Operand.tmp 8)
            intro Q
            have r8 : Rd w' (a'.eval (.tmp 8)) (m2) := by rw [hk.at 8 (by decide +kernel)]; exact Rd.kept (R8) hg
            exact wp_value (a'.eval (.tmp 8)) (by simp only [execOp]; rfl) (KS_mkr rfl r8)
          · -- 14: Op.call ( callee := Callee.value (Operand.func 27), args := #[Operand.
            intro Q
            have r74 : Rd w' (a'.eval (.tmp 74)) (m2) := KS_rd (hd.val 13 74 (by decide +kernel)) rfl
            refine wp_call 27 _ (run_enter 27 _ _ rfl (by kernel_rfl)) ?_
            simp only [List.map_toArray, List.map_nil, List.map_cons]
            refine (refSum_any _ m2 (by omega) _ r74).mono ?_
            rw [SG2.out]
            rintro e w5 ⟨rfl, hb5⟩
            exact ⟨_, rfl, KS_mkv rfl rfl, hb5⟩
          · -- 15: Op.binOp BinOp.eql 23 (Operand.tmp 73) (Operand.tmp 75) 23
            intro Q
            have e73 : a'.eval (.tmp 73) = .agg (By (G1)).toArray := KS_val (hd.val 12 73 (by decide +kernel)) rfl
            have e75 : a'.eval (.tmp 75) = .agg (By (G2)).toArray := KS_val (hd.val 14 75 (by decide +kernel)) rfl
            clear hd hk
            exact wp_value (.bool F1) (by simp only [execOp, e73, e75]; have he := q23F1; go_simp) (KS_mkv rfl rfl)
          · -- 16: Op.binOp BinOp.eql 4 (Operand.tmp 71) (Operand.tmp 76) 4
            intro Q
            have e71 : a'.eval (.tmp 71) = .bool F1 := KS_val (hd.val 10 71 (by decide +kernel)) rfl
            have e76 : a'.eval (.tmp 76) = .bool F1 := KS_val (hd.val 15 76 (by decide +kernel)) rfl
            clear hd hk
            exact wp_value (.bool true) (by simp only [execOp, e71, e76]; go_simp) (KS_mkv rfl rfl)
          · -- 17: Op.move (Operand.tmp 77)
            intro Q
            have e77 : a'.eval (.tmp 77) = .bool true := KS_val (hd.val 16 77 (by decide +kernel)) rfl
            exact wp_value _ (by simp only [execOp, e77]; rfl) (KS_mkv rfl rfl)
          · -- 18: Op.move (Operand.tmp 2)
            have eg : a'.eval (.tmp 78) = .bool true := KS_val (hd.val 17 78 (by decide +kernel)) rfl
            refine ⟨78, true, rfl, eg, fun _ Q => ?_, fun h => absurd rfl h⟩
            have e2 : a'.eval (.tmp 2) = .int .i64 bit := (hk.at 2 (by decide +kernel)).trans (E2)
            exact wp_value _ (by simp only [execOp, e2]; rfl) (KS_mkv rfl rfl)
          · -- 19: Op.indexAddr 25 (Operand.tmp 3) (Operand.const (Value.int IntKind.i64 
            have eg : a'.eval (.tmp 78) = .bool true := KS_val (hd.val 17 78 (by decide +kernel)) rfl
            refine ⟨78, true, rfl, eg, fun _ Q => ?_, fun h => absurd rfl h⟩
            have e3 : a'.eval (.tmp 3) = .pointer (some ⟨N, 0, none⟩) := (hk.at 3 (by decide +kernel)).trans (E3)
            clear hd hk
            exact wp_value (.pointer (some ⟨N, 0, none⟩)) (by simp only [execOp, e3]; go_simp) (KS_mkv rfl rfl)
          · -- 20: Op.load 24 (Operand.tmp 80)
            have eg : a'.eval (.tmp 78) = .bool true := KS_val (hd.val 17 78 (by decide +kernel)) rfl
            refine ⟨78, true, rfl, eg, fun _ Q => ?_, fun h => absurd rfl h⟩
            have e80 : a'.eval (.tmp 80) = .pointer (some ⟨N, 0, none⟩) := KS_val (hd.val 19 80 (by decide +kernel)) rfl
            exact wp_load_row 24 _ rfl _ _ e80 (By (x)) _ (CX hg) Tryd.underlying24 rfl (by rw [By_length, hx]; exact Tryd.size24) (KS_mkv rfl rfl)
          · -- 21: Op.indexAddr 25 (Operand.tmp 3) (Operand.const (Value.int IntKind.i64 
            have eg : a'.eval (.tmp 78) = .bool true := KS_val (hd.val 17 78 (by decide +kernel)) rfl
            refine ⟨78, true, rfl, eg, fun _ Q => ?_, fun h => absurd rfl h⟩
            have e3 : a'.eval (.tmp 3) = .pointer (some ⟨N, 0, none⟩) := (hk.at 3 (by decide +kernel)).trans (E3)
            clear hd hk
            exact wp_value (.pointer (some ⟨N, 32, none⟩)) (by simp only [execOp, e3]; go_simp) (KS_mkv rfl rfl)
          · -- 22: Op.load 24 (Operand.tmp 82)
            have eg : a'.eval (.tmp 78) = .bool true := KS_val (hd.val 17 78 (by decide +kernel)) rfl
            refine ⟨78, true, rfl, eg, fun _ Q => ?_, fun h => absurd rfl h⟩
            have e82 : a'.eval (.tmp 82) = .pointer (some ⟨N, 32, none⟩) := KS_val (hd.val 21 82 (by decide +kernel)) rfl
            exact wp_load_row 24 _ rfl _ _ e82 (By (y)) _ (CY hg) Tryd.underlying24 rfl (by rw [By_length, hy]; exact Tryd.size24) (KS_mkv rfl rfl)
          · -- 23: Op.call ( callee := Callee.value (Operand.func 15), args := #[Operand.
            have eg : a'.eval (.tmp 78) = .bool true := KS_val (hd.val 17 78 (by decide +kernel)) rfl
            refine ⟨78, true, rfl, eg, fun _ Q => ?_, fun h => absurd rfl h⟩
            have e79 : a'.eval (.tmp 79) = .int .i64 bit := KS_val (hd.val 18 79 (by decide +kernel)) rfl
            have e81 : a'.eval (.tmp 81) = .agg (By (x)).toArray := KS_val (hd.val 20 81 (by decide +kernel)) rfl
            have e83 : a'.eval (.tmp 83) = .agg (By (y)).toArray := KS_val (hd.val 22 83 (by decide +kernel)) rfl
            refine wp_call 15 _ (run_enter 15 _ _ rfl (by kernel_rfl)) ?_
            simp only [List.map_toArray, List.map_nil, List.map_cons, e79, e81, e83]
            refine (fork_any bit x y hx hy _ (HT3.gr hg)).mono ?_
            rw [HU.out, HG3.out]
            rintro e w5 ⟨rfl, hb5⟩
            exact ⟨_, rfl, KS_mkv rfl rfl, hb5⟩
          · -- 24: Op.move (Operand.tmp 2)
            have eg : a'.eval (.tmp 78) = .bool true := KS_val (hd.val 17 78 (by decide +kernel)) rfl
            refine ⟨78, true, rfl, eg, fun _ Q => ?_, fun h => absurd rfl h⟩
            have e2 : a'.eval (.tmp 2) = .int .i64 bit := (hk.at 2 (by decide +kernel)).trans (E2)
            exact wp_value _ (by simp only [execOp, e2]; rfl) (KS_mkv rfl rfl)
          · -- 25: Op.indexAddr 25 (Operand.tmp 4) (Operand.const (Value.int IntKind.i64 
            have eg : a'.eval (.tmp 78) = .bool true := KS_val (hd.val 17 78 (by decide +kernel)) rfl
            refine ⟨78, true, rfl, eg, fun _ Q => ?_, fun h => absurd rfl h⟩
            have e4 : a'.eval (.tmp 4) = .pointer (some ⟨(N + 1), 0, none⟩) := (hk.at 4 (by decide +kernel)).trans (E4)
            clear hd hk
            exact wp_value (.pointer (some ⟨(N + 1), 0, none⟩)) (by simp only [execOp, e4]; go_simp) (KS_mkv rfl rfl)
          · -- 26: Op.load 24 (Operand.tmp 86)
            have eg : a'.eval (.tmp 78) = .bool true := KS_val (hd.val 17 78 (by decide +kernel)) rfl
            refine ⟨78, true, rfl, eg, fun _ Q => ?_, fun h => absurd rfl h⟩
            have e86 : a'.eval (.tmp 86) = .pointer (some ⟨(N + 1), 0, none⟩) := KS_val (hd.val 25 86 (by decide +kernel)) rfl
            exact wp_load_row 24 _ rfl _ _ e86 (By (p)) _ (CP hg) Tryd.underlying24 rfl (by rw [By_length, hp]; exact Tryd.size24) (KS_mkv rfl rfl)
          · -- 27: Op.indexAddr 25 (Operand.tmp 4) (Operand.const (Value.int IntKind.i64 
            have eg : a'.eval (.tmp 78) = .bool true := KS_val (hd.val 17 78 (by decide +kernel)) rfl
            refine ⟨78, true, rfl, eg, fun _ Q => ?_, fun h => absurd rfl h⟩
            have e4 : a'.eval (.tmp 4) = .pointer (some ⟨(N + 1), 0, none⟩) := (hk.at 4 (by decide +kernel)).trans (E4)
            clear hd hk
            exact wp_value (.pointer (some ⟨(N + 1), 32, none⟩)) (by simp only [execOp, e4]; go_simp) (KS_mkv rfl rfl)
          · -- 28: Op.load 24 (Operand.tmp 88)
            have eg : a'.eval (.tmp 78) = .bool true := KS_val (hd.val 17 78 (by decide +kernel)) rfl
            refine ⟨78, true, rfl, eg, fun _ Q => ?_, fun h => absurd rfl h⟩
            have e88 : a'.eval (.tmp 88) = .pointer (some ⟨(N + 1), 32, none⟩) := KS_val (hd.val 27 88 (by decide +kernel)) rfl
            exact wp_load_row 24 _ rfl _ _ e88 (By (q)) _ (CQ hg) Tryd.underlying24 rfl (by rw [By_length, hq]; exact Tryd.size24) (KS_mkv rfl rfl)
          · -- 29: Op.call ( callee := Callee.value (Operand.func 15), args := #[Operand.
            have eg : a'.eval (.tmp 78) = .bool true := KS_val (hd.val 17 78 (by decide +kernel)) rfl
            refine ⟨78, true, rfl, eg, fun _ Q => ?_, fun h => absurd rfl h⟩
            have e85 : a'.eval (.tmp 85) = .int .i64 bit := KS_val (hd.val 24 85 (by decide +kernel)) rfl
            have e87 : a'.eval (.tmp 87) = .agg (By (p)).toArray := KS_val (hd.val 26 87 (by decide +kernel)) rfl
            have e89 : a'.eval (.tmp 89) = .agg (By (q)).toArray := KS_val (hd.val 28 89 (by decide +kernel)) rfl
            refine wp_call 15 _ (run_enter 15 _ _ rfl (by kernel_rfl)) ?_
            simp only [List.map_toArray, List.map_nil, List.map_cons, e85, e87, e89]
            refine (fork_any bit p q hp hq _ (HT3.gr hg)).mono ?_
            rw [HU.out, HG4.out]
            rintro e w5 ⟨rfl, hb5⟩
            exact ⟨_, rfl, KS_mkv rfl rfl, hb5⟩
          · -- 30: Op.binOp BinOp.eql 24 (Operand.tmp 84) (Operand.tmp 90) 24
            have eg : a'.eval (.tmp 78) = .bool true := KS_val (hd.val 17 78 (by decide +kernel)) rfl
            refine ⟨78, true, rfl, eg, fun _ Q => ?_, fun h => absurd rfl h⟩
            have e84 : a'.eval (.tmp 84) = .agg (By (G3)).toArray := KS_val (hd.val 23 84 (by decide +kernel)) rfl
            have e90 : a'.eval (.tmp 90) = .agg (By (G4)).toArray := KS_val (hd.val 29 90 (by decide +kernel)) rfl
            clear hd hk
            exact wp_value (.bool F2) (by simp only [execOp, e84, e90]; have he := q24F2; go_simp) (KS_mkv rfl rfl)
          · -- 31: Op.move (Operand.tmp 9)
            have eg : a'.eval (.tmp 78) = .bool true := KS_val (hd.val 17 78 (by decide +kernel)) rfl
            refine ⟨78, true, rfl, eg, fun _ Q => ?_, fun h => absurd rfl h⟩
            have r9 : Rd w' (a'.eval (.tmp 9)) (m3) := by rw [hk.at 9 (by decide +kernel)]; exact Rd.kept (R9) hg
            exact wp_value (a'.eval (.tmp 9)) (by simp only [execOp]; rfl) (KS_mkr rfl r9)
          · -- 32: Op.call ( callee := Callee.value (Operand.func 27), args := #[Operand.
            have eg : a'.eval (.tmp 78) = .bool true := KS_val (hd.val 17 78 (by decide +kernel)) rfl
            refine ⟨78, true, rfl, eg, fun _ Q => ?_, fun h => absurd rfl h⟩
            have r92 : Rd w' (a'.eval (.tmp 92)) (m3) := KS_rd (hd.val 31 92 (by decide +kernel)) rfl
            refine wp_call 27 _ (run_enter 27 _ _ rfl (by kernel_rfl)) ?_
            simp only [List.map_toArray, List.map_nil, List.map_cons]
            refine (refSum_any _ m3 (by omega) _ r92).mono ?_
            rw [SG3.out]
            rintro e w5 ⟨rfl, hb5⟩
            exact ⟨_, rfl, KS_mkv rfl rfl, hb5⟩
          · -- 33: Op.move (Operand.tmp 10)
            have eg : a'.eval (.tmp 78) = .bool true := KS_val (hd.val 17 78 (by decide +kernel)) rfl
            refine ⟨78, true, rfl, eg, fun _ Q => ?_, fun h => absurd rfl h⟩
            have r10 : Rd w' (a'.eval (.tmp 10)) (m4) := by rw [hk.at 10 (by decide +kernel)]; exact Rd.kept (R10) hg
            exact wp_value (a'.eval (.tmp 10)) (by simp only [execOp]; rfl) (KS_mkr rfl r10)
          · -- 34: Op.call ( callee := Callee.value (Operand.func 27), args := #[Operand.
            have eg : a'.eval (.tmp 78) = .bool true := KS_val (hd.val 17 78 (by decide +kernel)) rfl
            refine ⟨78, true, rfl, eg, fun _ Q => ?_, fun h => absurd rfl h⟩
            have r94 : Rd w' (a'.eval (.tmp 94)) (m4) := KS_rd (hd.val 33 94 (by decide +kernel)) rfl
            refine wp_call 27 _ (run_enter 27 _ _ rfl (by kernel_rfl)) ?_
            simp only [List.map_toArray, List.map_nil, List.map_cons]
            refine (refSum_any _ m4 (by omega) _ r94).mono ?_
            rw [SG4.out]
            rintro e w5 ⟨rfl, hb5⟩
            exact ⟨_, rfl, KS_mkv rfl rfl, hb5⟩
          · -- 35: Op.binOp BinOp.eql 23 (Operand.tmp 93) (Operand.tmp 95) 23
            have eg : a'.eval (.tmp 78) = .bool true := KS_val (hd.val 17 78 (by decide +kernel)) rfl
            refine ⟨78, true, rfl, eg, fun _ Q => ?_, fun h => absurd rfl h⟩
            have e93 : a'.eval (.tmp 93) = .agg (By (G3)).toArray := KS_val (hd.val 32 93 (by decide +kernel)) rfl
            have e95 : a'.eval (.tmp 95) = .agg (By (G4)).toArray := KS_val (hd.val 34 95 (by decide +kernel)) rfl
            clear hd hk
            exact wp_value (.bool F2) (by simp only [execOp, e93, e95]; have he := q23F2; go_simp) (KS_mkv rfl rfl)
          · -- 36: Op.binOp BinOp.eql 4 (Operand.tmp 91) (Operand.tmp 96) 4
            have eg : a'.eval (.tmp 78) = .bool true := KS_val (hd.val 17 78 (by decide +kernel)) rfl
            refine ⟨78, true, rfl, eg, fun _ Q => ?_, fun h => absurd rfl h⟩
            have e91 : a'.eval (.tmp 91) = .bool F2 := KS_val (hd.val 30 91 (by decide +kernel)) rfl
            have e96 : a'.eval (.tmp 96) = .bool F2 := KS_val (hd.val 35 96 (by decide +kernel)) rfl
            clear hd hk
            exact wp_value (.bool true) (by simp only [execOp, e91, e96]; go_simp) (KS_mkv rfl rfl)
          · -- 37: Op.pick (Operand.tmp 78) (Operand.tmp 97) (Operand.const (Value.bool f
            intro Q
            have e78 : a'.eval (.tmp 78) = .bool true := KS_val (hd.val 17 78 (by decide +kernel)) rfl
            have e97 : a'.eval (.tmp 97) = .bool true := KS_val (hd.val 36 97 (by decide +kernel)) rfl
            clear hd hk
            exact wp_value (.bool true) (by simp only [execOp, e78, e97]; go_simp) (KS_mkv rfl rfl)
          · -- 38: Op.move (Operand.tmp 98)
            intro Q
            have e98 : a'.eval (.tmp 98) = .bool true := KS_val (hd.val 37 98 (by decide +kernel)) rfl
            exact wp_value _ (by simp only [execOp, e98]; rfl) (KS_mkv rfl rfl)
          · -- 39: Op.call ( callee := Callee.value (Operand.func 8), args := #[], argTyp
            have eg : a'.eval (.tmp 99) = .bool true := KS_val (hd.val 38 99 (by decide +kernel)) rfl
            refine ⟨99, true, rfl, eg, fun _ Q => ?_, fun h => absurd rfl h⟩
            refine wp_call 8 _ (run_enter 8 _ _ rfl (by kernel_rfl)) ?_
            simp only [List.map_toArray, List.map_nil]
            refine (lives_any _ (HT3.gr hg)).mono ?_
            rintro e w5 ⟨rfl, hb5⟩
            exact ⟨_, rfl, KS_mkv rfl rfl, hb5⟩
          · -- 40: Op.pick (Operand.tmp 99) (Operand.tmp 100) (Operand.const (Value.bool 
            intro Q
            have e99 : a'.eval (.tmp 99) = .bool true := KS_val (hd.val 38 99 (by decide +kernel)) rfl
            have e100 : a'.eval (.tmp 100) = .bool true := KS_val (hd.val 39 100 (by decide +kernel)) rfl
            clear hd hk
            exact wp_value (.bool true) (by simp only [execOp, e99, e100]; go_simp) (KS_mkv rfl rfl)
          · -- 41: Op.assign (Operand.tmp 101)
            intro Q
            have e101 : a'.eval (.tmp 101) = .bool true := KS_val (hd.val 40 101 (by decide +kernel)) rfl
            exact wp_value _ (by simp only [execOp, e101]; rfl) (KS_mkv rfl rfl)
        · intro a' w' hsz hdf hk hall hg
          have ev : a'.eval (.tmp 6) = .bool true := KS_val (hall 41 _ 6 rfl rfl) rfl
          go_wp2
          exact bodyPost_ret (results_tmp Tryd.results6 _ _ _) (hdf.trans (hdf3.trans (hdf2.trans hdf1))) ⟨congrArg Ending.returned ev, by rw [HN.out]; exact L4.trans (Below.mono hg (Nat.le_of_lt DX0.lt))⟩
end Go.Proofs.YtljmhbchcadnbaaDoor
