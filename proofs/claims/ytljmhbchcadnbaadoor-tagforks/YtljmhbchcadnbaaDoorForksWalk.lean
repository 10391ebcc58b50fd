/-
  indenturelaw04.TagForks: the walk.
-/
import Derived.Test.YtljmhbchcadnbaaDoorTag3
namespace Go.Proofs.YtljmhbchcadnbaaDoor
open Go.RowKit
set_option maxHeartbeats 1000000 in
set_option maxRecDepth 100000 in
theorem tagForks_any (x y : List UInt8) (bit : Int) (hx : x.length = 32) (hy : y.length = 32) (w : World) (hT : Tabs w) :
    Calls Tryd.prog 7 #[.agg (By (x ++ y)).toArray, .int .i64 bit] w fun e w' => e = .returned (.bool true) ∧ Below w.heap.size w w' := by
  have HT : Hid (Tabs w) := hT
  clear hT
  obtain ⟨N, HN⟩ : ∃ N, Hid (w.heap.size = N) := ⟨_, rfl⟩
  have HNT : Hid (2 ≤ N) := (show _ by rw [← HN.out]; exact HT.out.size)
  have HBit : Hid (IntKind.u8.wrap bit = ((UInt8.ofNat (bit % 256).toNat).toNat : Int)) := u8_of_int bit
  obtain ⟨u, HU⟩ : ∃ u, Hid (UInt8.ofNat (bit % 256).toNat = u) := ⟨_, rfl⟩
  rw [HU.out] at HBit
  have h8 := HBit.out
  have hub : (u.toNat : Int) < 256 := by have := u.toNat_lt; omega
  go_enter Tryd.func7, Tryd.ntmps7
  go_upto_region 2 with fail
  obtain ⟨w1, hw1⟩ : ∃ z, z = w.alloc (.cells (By (x ++ y)).toArray 25 (0, 0)) := ⟨_, rfl⟩
  rw [← hw1, HN.out]
  have BX : Blk w1 N 25 (By (x ++ y)) := by rw [hw1, ← HN.out]; exact Blk.new w 25 (By (x ++ y))
  have L1 : Below N w w1 := by rw [hw1, ← HN.out]; exact (Below.refl _ _).alloc (Nat.le_refl _) _
  clear hw1
  have HT1 : Tabs w1 := HT.out.kept (L1.mono HNT.out)
  have RX : ∀ {w'}, Gr w1 w' → w'.rangeAt N 0 (By x) := fun hg => (By_range (BX.kept hg)).1
  have RY : ∀ {w'}, Gr w1 w' → w'.rangeAt N 32 (By y) := fun hg => by have := (By_range (BX.kept hg)).2; rwa [hx] at this
  have LT : ∀ {w'}, Gr w1 w' → N < w'.heap.size := fun hg => (BX.kept hg).lt
  have HF : ∀ w', Gr w1 w' → Calls Tryd.prog 15 #[.int .i64 bit, .agg (By x).toArray, .agg (By y).toArray] w' fun e w'' => e = .returned (.agg (By (tg 4 [[u], x, y])).toArray) ∧ Below w'.heap.size w' w'' := fun w' hg => by
    have := fork_any bit x y hx hy w' (HT1.gr hg)
    rwa [HU.out] at this
  have HF2 : ∀ w', Gr w1 w' → Calls Tryd.prog 15 #[.int .i64 (u.toNat : Int), .agg (By x).toArray, .agg (By y).toArray] w' fun e w'' => e = .returned (.agg (By (tg 4 [[u], x, y])).toArray) ∧ Below w'.heap.size w' w'' := fun w' hg => by
    have := fork_any (u.toNat : Int) x y hx hy w' (HT1.gr hg)
    rwa [show UInt8.ofNat ((u.toNat : Int) % 256).toNat = u by
      rw [show ((u.toNat : Int) % 256).toNat = u.toNat by have := u.toNat_lt; omega]; simp] at this
  have HNn := fun w' (hg : Gr w1 w') => nothing_any w' (HT1.gr hg)
  have HEm := fun w' (hg : Gr w1 w') => empty_any w' (HT1.gr hg)
  have HRs := fun w' (_ : Gr w1 w') => refSum_any (.slice none 0 0) [] (by simp) w' (Rd_nil w')
  obtain ⟨G, HG⟩ : ∃ G, Hid (tg 4 [[u], x, y] = G) := ⟨_, rfl⟩
  obtain ⟨Nn, HNN⟩ : ∃ G, Hid (tg 5 [] = G) := ⟨_, rfl⟩
  obtain ⟨E, HE⟩ : ∃ G, Hid (sha [] = G) := ⟨_, rfl⟩
  have hG : G.length = 32 := by rw [← HG.out]; exact sha_length _
  have hNn : Nn.length = 32 := by rw [← HNN.out]; exact sha_length _
  have hE : E.length = 32 := by rw [← HE.out]; exact sha_length _
  rw [HG.out] at HF HF2
  rw [HNN.out] at HNn
  rw [HE.out] at HEm HRs
  have eG := eq24 G G hG hG
  have eN := eq24 Nn Nn hNn hNn
  have eE := eq24 E E hE hE
  simp only [beq_self_eq_true] at eG eN eE
  refine wp_region_inv Tryd.mixed (KS (fun i => match i with | 0 => .val (.int .i64 bit) | 1 | 7 => .val (.pointer (some ⟨N, 0, none⟩)) | 2 | 8 => .val (.agg (By (x)).toArray) | 3 | 9 => .val (.pointer (some ⟨N, 32, none⟩)) | 4 | 10 => .val (.agg (By (y)).toArray) | 5 | 11 => .val (.agg (By (G)).toArray) | 6 => .val (.int .i64 (u.toNat : Int)) | 12 | 13 | 16 | 17 | 18 | 21 | 22 | 23 | 24 | 25 | 26 => .val (.bool true) | 14 | 15 => .val (.agg (By (Nn)).toArray) | 19 | 20 => .val (.agg (By (E)).toArray) | _ => .free)) 35 rfl (by decide +kernel) (KS_mono _) ?_ ?_
  · refine AllFrom.cons (fun a' w' hg hk hd => ?_) (AllFrom.cons (fun a' w' hg hk hd => ?_) (AllFrom.cons (fun a' w' hg hk hd => ?_) (AllFrom.cons (fun a' w' hg hk hd => ?_) (AllFrom.cons (fun a' w' hg hk hd => ?_) (AllFrom.cons (fun a' w' hg hk hd => ?_) (AllFrom.cons (fun a' w' hg hk hd => ?_) (AllFrom.cons (fun a' w' hg hk hd => ?_) (AllFrom.cons (fun a' w' hg hk hd => ?_) (AllFrom.cons (fun a' w' hg hk hd => ?_) (AllFrom.cons (fun a' w' hg hk hd => ?_) (AllFrom.cons (fun a' w' hg hk hd => ?_) (AllFrom.cons (fun a' w' hg hk hd => ?_) (AllFrom.cons (fun a' w' hg hk hd => ?_) (AllFrom.cons (fun a' w' hg hk hd => ?_) (AllFrom.cons (fun a' w' hg hk hd => ?_) (AllFrom.cons (fun a' w' hg hk hd => ?_) (AllFrom.cons (fun a' w' hg hk hd => ?_) (AllFrom.cons (fun a' w' hg hk hd => ?_) (AllFrom.cons (fun a' w' hg hk hd => ?_) (AllFrom.cons (fun a' w' hg hk hd => ?_) (AllFrom.cons (fun a' w' hg hk hd => ?_) (AllFrom.cons (fun a' w' hg hk hd => ?_) (AllFrom.cons (fun a' w' hg hk hd => ?_) (AllFrom.cons (fun a' w' hg hk hd => ?_) (AllFrom.cons (fun a' w' hg hk hd => ?_) (AllFrom.cons (fun a' w' hg hk hd => ?_) AllFrom.nil))))))))))))))))))))))))))
    · -- 0: Op.move (Operand.tmp 1)
      intro Q
      have e1 : a'.eval (.tmp 1) = .int .i64 bit := hk.at 1 (by decide +kernel)
      exact wp_value _ (by simp only [execOp, e1]; rfl) (KS_mkv rfl rfl)
    · -- 1: Op.indexAddr 25 (Operand.tmp 2) (Operand.const (Value.int IntKind.i64 
      intro Q
      have e2 : a'.eval (.tmp 2) = .pointer (some ⟨N, 0, none⟩) := hk.at 2 (by decide +kernel)
      clear hd hk
      exact wp_value (.pointer (some ⟨N, 0, none⟩)) (by simp only [execOp, e2]; go_simp) (KS_mkv rfl rfl)
    · -- 2: Op.load 24 (Operand.tmp 10)
      intro Q
      have e10 : a'.eval (.tmp 10) = .pointer (some ⟨N, 0, none⟩) := KS_val (hd.val 1 10 (by decide +kernel)) rfl
      exact wp_load_row 24 _ rfl _ _ e10 (By (x)) _ (RX hg) Tryd.underlying24 rfl (by rw [By_length, hx]; exact Tryd.size24) (KS_mkv rfl rfl)
    · -- 3: Op.indexAddr 25 (Operand.tmp 2) (Operand.const (Value.int IntKind.i64 
      intro Q
      have e2 : a'.eval (.tmp 2) = .pointer (some ⟨N, 0, none⟩) := hk.at 2 (by decide +kernel)
      clear hd hk
      exact wp_value (.pointer (some ⟨N, 32, none⟩)) (by simp only [execOp, e2]; go_simp) (KS_mkv rfl rfl)
    · -- 4: Op.load 24 (Operand.tmp 12)
      intro Q
      have e12 : a'.eval (.tmp 12) = .pointer (some ⟨N, 32, none⟩) := KS_val (hd.val 3 12 (by decide +kernel)) rfl
      exact wp_load_row 24 _ rfl _ _ e12 (By (y)) _ (RY hg) Tryd.underlying24 rfl (by rw [By_length, hy]; exact Tryd.size24) (KS_mkv rfl rfl)
    · -- 5: Op.call ( callee := Callee.value (Operand.func 15), args := #[Operand.
      intro Q
      have e9 : a'.eval (.tmp 9) = .int .i64 bit := KS_val (hd.val 0 9 (by decide +kernel)) rfl
      have e11 : a'.eval (.tmp 11) = .agg (By (x)).toArray := KS_val (hd.val 2 11 (by decide +kernel)) rfl
      have e13 : a'.eval (.tmp 13) = .agg (By (y)).toArray := KS_val (hd.val 4 13 (by decide +kernel)) rfl
      refine wp_call 15 _ (run_enter 15 _ _ rfl (by kernel_rfl)) ?_
      simp only [List.map_toArray, List.map_nil, List.map_cons, e9, e11, e13]
      refine ((HF _ hg)).mono ?_
      rintro e w5 ⟨rfl, hb5⟩
      exact ⟨_, rfl, KS_mkv rfl rfl, hb5⟩
    · -- 6: Op.move (Operand.tmp 5)
      intro Q
      have e5 : a'.eval (.tmp 5) = .int .i64 (u.toNat : Int) := hk.at 5 (by decide +kernel)
      exact wp_value _ (by simp only [execOp, e5]; rfl) (KS_mkv rfl rfl)
    · -- 7: Op.indexAddr 25 (Operand.tmp 2) (Operand.const (Value.int IntKind.i64 
      intro Q
      have e2 : a'.eval (.tmp 2) = .pointer (some ⟨N, 0, none⟩) := hk.at 2 (by decide +kernel)
      clear hd hk
      exact wp_value (.pointer (some ⟨N, 0, none⟩)) (by simp only [execOp, e2]; go_simp) (KS_mkv rfl rfl)
    · -- 8: Op.load 24 (Operand.tmp 16)
      intro Q
      have e16 : a'.eval (.tmp 16) = .pointer (some ⟨N, 0, none⟩) := KS_val (hd.val 7 16 (by decide +kernel)) rfl
      exact wp_load_row 24 _ rfl _ _ e16 (By (x)) _ (RX hg) Tryd.underlying24 rfl (by rw [By_length, hx]; exact Tryd.size24) (KS_mkv rfl rfl)
    · -- 9: Op.indexAddr 25 (Operand.tmp 2) (Operand.const (Value.int IntKind.i64 
      intro Q
      have e2 : a'.eval (.tmp 2) = .pointer (some ⟨N, 0, none⟩) := hk.at 2 (by decide +kernel)
      clear hd hk
      exact wp_value (.pointer (some ⟨N, 32, none⟩)) (by simp only [execOp, e2]; go_simp) (KS_mkv rfl rfl)
    · -- 10: Op.load 24 (Operand.tmp 18)
      intro Q
      have e18 : a'.eval (.tmp 18) = .pointer (some ⟨N, 32, none⟩) := KS_val (hd.val 9 18 (by decide +kernel)) rfl
      exact wp_load_row 24 _ rfl _ _ e18 (By (y)) _ (RY hg) Tryd.underlying24 rfl (by rw [By_length, hy]; exact Tryd.size24) (KS_mkv rfl rfl)
    · -- 11: Op.call ( callee := Callee.value (Operand.func 15), args := #[Operand.
      intro Q
      have e15 : a'.eval (.tmp 15) = .int .i64 (u.toNat : Int) := KS_val (hd.val 6 15 (by decide +kernel)) rfl
      have e17 : a'.eval (.tmp 17) = .agg (By (x)).toArray := KS_val (hd.val 8 17 (by decide +kernel)) rfl
      have e19 : a'.eval (.tmp 19) = .agg (By (y)).toArray := KS_val (hd.val 10 19 (by decide +kernel)) rfl
      refine wp_call 15 _ (run_enter 15 _ _ rfl (by kernel_rfl)) ?_
      simp only [List.map_toArray, List.map_nil, List.map_cons, e15, e17, e19]
      refine ((HF2 _ hg)).mono ?_
      rintro e w5 ⟨rfl, hb5⟩
      exact ⟨_, rfl, KS_mkv rfl rfl, hb5⟩
    · -- 12: Op.binOp BinOp.eql 24 (Operand.tmp 14) (Operand.tmp 20) 24
      intro Q
      have e14 : a'.eval (.tmp 14) = .agg (By (G)).toArray := KS_val (hd.val 5 14 (by decide +kernel)) rfl
      have e20 : a'.eval (.tmp 20) = .agg (By (G)).toArray := KS_val (hd.val 11 20 (by decide +kernel)) rfl
      clear hd hk
      exact wp_value (.bool true) (by simp only [execOp, e14, e20]; have he := eG; go_simp) (KS_mkv rfl rfl)
    · -- 13: Op.move (Operand.tmp 21)
      intro Q
      have e21 : a'.eval (.tmp 21) = .bool true := KS_val (hd.val 12 21 (by decide +kernel)) rfl
      exact wp_value _ (by simp only [execOp, e21]; rfl) (KS_mkv rfl rfl)
    · -- 14: Op.call ( callee := Callee.value (Operand.func 23), args := #[], argTy
      have eg : a'.eval (.tmp 22) = .bool true := KS_val (hd.val 13 22 (by decide +kernel)) rfl
      refine ⟨22, true, rfl, eg, fun _ Q => ?_, fun h => absurd rfl h⟩
      refine wp_call 23 _ (run_enter 23 _ _ rfl (by kernel_rfl)) ?_
      simp only [List.map_toArray, List.map_nil]
      refine (HNn _ hg).mono ?_
      rintro e w5 ⟨rfl, hb5⟩
      exact ⟨_, rfl, KS_mkv rfl rfl, hb5⟩
    · -- 15: Op.call ( callee := Callee.value (Operand.func 23), args := #[], argTy
      have eg : a'.eval (.tmp 22) = .bool true := KS_val (hd.val 13 22 (by decide +kernel)) rfl
      refine ⟨22, true, rfl, eg, fun _ Q => ?_, fun h => absurd rfl h⟩
      refine wp_call 23 _ (run_enter 23 _ _ rfl (by kernel_rfl)) ?_
      simp only [List.map_toArray, List.map_nil]
      refine (HNn _ hg).mono ?_
      rintro e w5 ⟨rfl, hb5⟩
      exact ⟨_, rfl, KS_mkv rfl rfl, hb5⟩
    · -- 16: Op.binOp BinOp.eql 24 (Operand.tmp 23) (Operand.tmp 24) 24
      have eg : a'.eval (.tmp 22) = .bool true := KS_val (hd.val 13 22 (by decide +kernel)) rfl
      refine ⟨22, true, rfl, eg, fun _ Q => ?_, fun h => absurd rfl h⟩
      have e23 : a'.eval (.tmp 23) = .agg (By (Nn)).toArray := KS_val (hd.val 14 23 (by decide +kernel)) rfl
      have e24 : a'.eval (.tmp 24) = .agg (By (Nn)).toArray := KS_val (hd.val 15 24 (by decide +kernel)) rfl
      clear hd hk
      exact wp_value (.bool true) (by simp only [execOp, e23, e24]; have he := eN; go_simp) (KS_mkv rfl rfl)
    · -- 17: Op.pick (Operand.tmp 22) (Operand.tmp 25) (Operand.const (Value.bool f
      intro Q
      have e22 : a'.eval (.tmp 22) = .bool true := KS_val (hd.val 13 22 (by decide +kernel)) rfl
      have e25 : a'.eval (.tmp 25) = .bool true := KS_val (hd.val 16 25 (by decide +kernel)) rfl
      clear hd hk
      exact wp_value (.bool true) (by simp only [execOp, e22, e25]; go_simp) (KS_mkv rfl rfl)
    · -- 18: Op.move (Operand.tmp 26)
      intro Q
      have e26 : a'.eval (.tmp 26) = .bool true := KS_val (hd.val 17 26 (by decide +kernel)) rfl
      exact wp_value _ (by simp only [execOp, e26]; rfl) (KS_mkv rfl rfl)
    · -- 19: Op.call ( callee := Callee.value (Operand.func 21), args := #[], argTy
      have eg : a'.eval (.tmp 27) = .bool true := KS_val (hd.val 18 27 (by decide +kernel)) rfl
      refine ⟨27, true, rfl, eg, fun _ Q => ?_, fun h => absurd rfl h⟩
      refine wp_call 21 _ (run_enter 21 _ _ rfl (by kernel_rfl)) ?_
      simp only [List.map_toArray, List.map_nil]
      refine (HEm _ hg).mono ?_
      rintro e w5 ⟨rfl, hb5⟩
      exact ⟨_, rfl, KS_mkv rfl rfl, hb5⟩
    · -- 20: Op.call ( callee := Callee.value (Operand.func 27), args := #[Operand.
      have eg : a'.eval (.tmp 27) = .bool true := KS_val (hd.val 18 27 (by decide +kernel)) rfl
      refine ⟨27, true, rfl, eg, fun _ Q => ?_, fun h => absurd rfl h⟩
      refine wp_call 27 _ (run_enter 27 _ _ rfl (by kernel_rfl)) ?_
      simp only [List.map_toArray, List.map_nil, List.map_cons]
      refine (HRs _ hg).mono ?_
      rintro e w5 ⟨rfl, hb5⟩
      exact ⟨_, rfl, KS_mkv rfl rfl, hb5⟩
    · -- 21: Op.binOp BinOp.eql 24 (Operand.tmp 28) (Operand.tmp 29) 24
      have eg : a'.eval (.tmp 27) = .bool true := KS_val (hd.val 18 27 (by decide +kernel)) rfl
      refine ⟨27, true, rfl, eg, fun _ Q => ?_, fun h => absurd rfl h⟩
      have e28 : a'.eval (.tmp 28) = .agg (By (E)).toArray := KS_val (hd.val 19 28 (by decide +kernel)) rfl
      have e29 : a'.eval (.tmp 29) = .agg (By (E)).toArray := KS_val (hd.val 20 29 (by decide +kernel)) rfl
      clear hd hk
      exact wp_value (.bool true) (by simp only [execOp, e28, e29]; have he := eE; go_simp) (KS_mkv rfl rfl)
    · -- 22: Op.pick (Operand.tmp 27) (Operand.tmp 30) (Operand.const (Value.bool f
      intro Q
      have e27 : a'.eval (.tmp 27) = .bool true := KS_val (hd.val 18 27 (by decide +kernel)) rfl
      have e30 : a'.eval (.tmp 30) = .bool true := KS_val (hd.val 21 30 (by decide +kernel)) rfl
      clear hd hk
      exact wp_value (.bool true) (by simp only [execOp, e27, e30]; go_simp) (KS_mkv rfl rfl)
    · -- 23: Op.move (Operand.tmp 31)
      intro Q
      have e31 : a'.eval (.tmp 31) = .bool true := KS_val (hd.val 22 31 (by decide +kernel)) rfl
      exact wp_value _ (by simp only [execOp, e31]; rfl) (KS_mkv rfl rfl)
    · -- 24: Op.call ( callee := Callee.value (Operand.func 8), args := #[], argTyp
      have eg : a'.eval (.tmp 32) = .bool true := KS_val (hd.val 23 32 (by decide +kernel)) rfl
      refine ⟨32, true, rfl, eg, fun _ Q => ?_, fun h => absurd rfl h⟩
      refine wp_call 8 _ (run_enter 8 _ _ rfl (by kernel_rfl)) ?_
      simp only [List.map_toArray, List.map_nil]
      refine (lives_any _ (HT1.gr hg)).mono ?_
      rintro e w5 ⟨rfl, hb5⟩
      exact ⟨_, rfl, KS_mkv rfl rfl, hb5⟩
    · -- 25: Op.pick (Operand.tmp 32) (Operand.tmp 33) (Operand.const (Value.bool f
      intro Q
      have e32 : a'.eval (.tmp 32) = .bool true := KS_val (hd.val 23 32 (by decide +kernel)) rfl
      have e33 : a'.eval (.tmp 33) = .bool true := KS_val (hd.val 24 33 (by decide +kernel)) rfl
      clear hd hk
      exact wp_value (.bool true) (by simp only [execOp, e32, e33]; go_simp) (KS_mkv rfl rfl)
    · -- 26: Op.assign (Operand.tmp 34)
      intro Q
      have e34 : a'.eval (.tmp 34) = .bool true := KS_val (hd.val 25 34 (by decide +kernel)) rfl
      exact wp_value _ (by simp only [execOp, e34]; rfl) (KS_mkv rfl rfl)
  · intro a' w' hsz hdf hk hall hg
    have ev : a'.eval (.tmp 4) = .bool true := KS_val (hall 26 _ 4 rfl rfl) rfl
    go_wp2
    exact bodyPost_ret (results_tmp Tryd.results7 _ _ _) hdf ⟨congrArg Ending.returned ev, by rw [HN.out]; exact L1.trans (Below.mono hg (Nat.le_of_lt BX.lt))⟩
end Go.Proofs.YtljmhbchcadnbaaDoor
