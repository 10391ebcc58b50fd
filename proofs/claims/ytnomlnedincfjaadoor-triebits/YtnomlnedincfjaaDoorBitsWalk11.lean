/-
  The law TrieBits: the call returns true.
-/
import Derived.Test.YtnomlnedincfjaaDoorG11l
namespace Go.Proofs.YtnomlnedincfjaaDoor
open Go.RowKit
set_option maxHeartbeats 4000000 in
set_option maxRecDepth 100000 in
theorem trieBits_any (a b : Hs) (i : Int) (w : World) (hT : Tabs w) : Calls Tryd.prog 4 #[HV a, HV b, .int .i64 i] w fun e w' => e = .returned (.bool true) ∧ Below w.heap.size w w' := by
  obtain ⟨N, HN⟩ : ∃ N, Hid (w.heap.size = N) := ⟨_, rfl⟩
  have h2 : 2 ≤ N := by rw [← HN.out]; exact hT.size
  have HT := hide hT
  clear hT
  rw [HN.out]
  have CA := hide (fun w => kApart_any a b w)
  have CY := hide (fun w => yApart_any a b w)
  have CB := hide (fun w => kBit_any a i w)
  have CZ := hide (fun w => yBit_any a i w)
  have hq := apart_le a b
  have HQ1 : Hid (∀ j, j < apart a b → bit a j = bit b j) := (show _ from fun j h => apart_eq h)
  have HQ2 : Hid (apart a b < 256 → bit a (apart a b) ≠ bit b (apart a b)) := (show _ from fun h => apart_ne h)
  have HQ3 := hide (apart_all (a := a) (b := b))
  generalize apart a b = q at *
  generalize bitZ a i = bz at *
  go_enter Tryd.func4, Tryd.ntmps4
  unfold HV
  go_upto_region 1 with fail
  obtain ⟨w1, hw1⟩ : ∃ z, z = (w.alloc (.cells (By a.1).toArray 24 (0, 0))).alloc (.cells (By b.1).toArray 24 (0, 0)) := ⟨_, rfl⟩
  change Code.wp _ _ _ _ ((w.alloc (.cells (By a.1).toArray 24 (0, 0))).alloc (.cells (By b.1).toArray 24 (0, 0)))
  rw [← hw1, HN.out]
  have A1 : Hid (Blk w1 N 24 (By a.1)) := (show Blk _ _ _ _ by rw [hw1, ← HN.out]; exact (Blk.new w 24 (By a.1)).alloc _)
  have B1 : Hid (Blk w1 (N + 1) 24 (By b.1)) := (show Blk _ _ _ _ by rw [hw1, ← HN.out]; have := Blk.new (w.alloc (.cells (By a.1).toArray 24 (0, 0))) 24 (By b.1); simpa using this)
  have L1 : Hid (Below N w w1) := (show Below _ _ _ by rw [hw1, ← HN.out]; exact ((Below.refl _ _).alloc (Nat.le_refl _) _).alloc (by simp) _)
  clear hw1
  have ra := A1.out.range0
  have rb := B1.out.range0
  go_upto_region 2 with (first
    | (refine wpList_load_mid rfl 24 _ rfl N 0 rfl (By a.1) _ ra Tryd.underlying24 rfl (Tryd.sizeH a) ?_)
    | (refine wpList_load_mid rfl 24 _ rfl (N + 1) 0 rfl (By b.1) _ rb Tryd.underlying24 rfl (Tryd.sizeH b) ?_)
    | (go_at_call 18; refine (CA.out _).mono ?_; rintro e w3 ⟨rfl, hb3⟩; have A3 := hide (A1.out.kept hb3); have B3 := hide (B1.out.kept hb3); have L3 : Hid (Below N w w3) := (show _ from L1.out.trans (hb3.mono (Nat.le_of_lt A1.out.lt))); clear hb3)
    | fail)
  clear ra rb A1 B1 L1
  refine wp_region_inv Tryd.mixed (KS (fun i_ => match i_ with | 0 | 3 => .val (.int .i64 (q : Int)) | 1 | 6 | 9 => .val (HV a) | 2 => .val (HV b) | 4 | 5 | 12 | 13 => .val (.bool false) | 7 | 10 => .val (.int .i64 i) | 8 | 11 => .val (.int .i64 bz) | _ => .free)) 60 rfl (by decide +kernel) (KS_mono _) ?_ ?_
  · refine AllFrom.cons (fun a' w' hg hk hd => ?_) (AllFrom.cons (fun a' w' hg hk hd => ?_) (AllFrom.cons (fun a' w' hg hk hd => ?_) (AllFrom.cons (fun a' w' hg hk hd => ?_) (AllFrom.cons (fun a' w' hg hk hd => ?_) (AllFrom.cons (fun a' w' hg hk hd => ?_) (AllFrom.cons (fun a' w' hg hk hd => ?_) (AllFrom.cons (fun a' w' hg hk hd => ?_) (AllFrom.cons (fun a' w' hg hk hd => ?_) (AllFrom.cons (fun a' w' hg hk hd => ?_) (AllFrom.cons (fun a' w' hg hk hd => ?_) (AllFrom.cons (fun a' w' hg hk hd => ?_) (AllFrom.cons (fun a' w' hg hk hd => ?_) (AllFrom.cons (fun a' w' hg hk hd => ?_) AllFrom.nil)))))))))))))
    · skip
      intro Q
      have e7 : a'.eval (.tmp 7) = .int .i64 (q : Int) := hk.at 7 (by decide +kernel)
      exact wp_value _ (by simp only [execOp, e7]; rfl) (KS_mkv rfl rfl)
    · skip
      intro Q
      have e3 : a'.eval (.tmp 3) = .pointer (some ⟨N, 0, none⟩) := hk.at 3 (by decide +kernel)
      exact wp_load_row 24 _ rfl _ _ e3 (By (a).1) _ ((A3.out.kept hg).range0) Tryd.underlying24 rfl (Tryd.sizeH _) (KS_mkv rfl rfl)
    · skip
      intro Q
      have e4 : a'.eval (.tmp 4) = .pointer (some ⟨N + 1, 0, none⟩) := hk.at 4 (by decide +kernel)
      exact wp_load_row 24 _ rfl _ _ e4 (By (b).1) _ ((B3.out.kept hg).range0) Tryd.underlying24 rfl (Tryd.sizeH _) (KS_mkv rfl rfl)
    · skip
      intro Q
      have e13 : a'.eval (.tmp 13) = HV a := KS_val (hd.val 1 13 (by decide +kernel)) rfl
      have e14 : a'.eval (.tmp 14) = HV b := KS_val (hd.val 2 14 (by decide +kernel)) rfl
      refine wp_call 19 _ (run_enter 19 _ _ rfl (by kernel_rfl)) ?_
      simp only [List.map_toArray, List.map_nil, List.map_cons, e13, e14]
      refine (CY.out _).mono ?_
      rintro e w5 ⟨rfl, hb5⟩
      exact ⟨_, rfl, KS_mkv rfl rfl, hb5⟩
    · skip
      intro Q
      have e12 : a'.eval (.tmp 12) = .int .i64 (q : Int) := KS_val (hd.val 0 12 (by decide +kernel)) rfl
      have e15 : a'.eval (.tmp 15) = .int .i64 (q : Int) := KS_val (hd.val 3 15 (by decide +kernel)) rfl
      clear hd hk
      exact wp_value (.bool false) (by simp only [execOp, e12, e15]; go_simp) (KS_mkv rfl rfl)
    · skip
      intro Q
      have e16 : a'.eval (.tmp 16) = .bool false := KS_val (hd.val 4 16 (by decide +kernel)) rfl
      exact wp_value _ (by simp only [execOp, e16]; rfl) (KS_mkv rfl rfl)
    · skip
      have eg : a'.eval (.tmp 17) = .bool false := KS_val (hd.val 5 17 (by decide +kernel)) rfl
      refine ⟨17, false, rfl, eg, fun _ Q => ?_, fun h => absurd rfl h⟩
      have e3 : a'.eval (.tmp 3) = .pointer (some ⟨N, 0, none⟩) := hk.at 3 (by decide +kernel)
      exact wp_load_row 24 _ rfl _ _ e3 (By (a).1) _ ((A3.out.kept hg).range0) Tryd.underlying24 rfl (Tryd.sizeH _) (KS_mkv rfl rfl)
    · skip
      have eg : a'.eval (.tmp 17) = .bool false := KS_val (hd.val 5 17 (by decide +kernel)) rfl
      refine ⟨17, false, rfl, eg, fun _ Q => ?_, fun h => absurd rfl h⟩
      have e2 : a'.eval (.tmp 2) = .int .i64 i := hk.at 2 (by decide +kernel)
      exact wp_value _ (by simp only [execOp, e2]; rfl) (KS_mkv rfl rfl)
    · skip
      have eg : a'.eval (.tmp 17) = .bool false := KS_val (hd.val 5 17 (by decide +kernel)) rfl
      refine ⟨17, false, rfl, eg, fun _ Q => ?_, fun h => absurd rfl h⟩
      have e18 : a'.eval (.tmp 18) = HV a := KS_val (hd.val 6 18 (by decide +kernel)) rfl
      have e19 : a'.eval (.tmp 19) = .int .i64 i := KS_val (hd.val 7 19 (by decide +kernel)) rfl
      refine wp_call 20 _ (run_enter 20 _ _ rfl (by kernel_rfl)) ?_
      simp only [List.map_toArray, List.map_nil, List.map_cons, e18, e19]
      refine (CB.out _).mono ?_
      rintro e w5 ⟨rfl, hb5⟩
      exact ⟨_, rfl, KS_mkv rfl rfl, hb5⟩
    · skip
      have eg : a'.eval (.tmp 17) = .bool false := KS_val (hd.val 5 17 (by decide +kernel)) rfl
      refine ⟨17, false, rfl, eg, fun _ Q => ?_, fun h => absurd rfl h⟩
      have e3 : a'.eval (.tmp 3) = .pointer (some ⟨N, 0, none⟩) := hk.at 3 (by decide +kernel)
      exact wp_load_row 24 _ rfl _ _ e3 (By (a).1) _ ((A3.out.kept hg).range0) Tryd.underlying24 rfl (Tryd.sizeH _) (KS_mkv rfl rfl)
    · skip
      have eg : a'.eval (.tmp 17) = .bool false := KS_val (hd.val 5 17 (by decide +kernel)) rfl
      refine ⟨17, false, rfl, eg, fun _ Q => ?_, fun h => absurd rfl h⟩
      have e2 : a'.eval (.tmp 2) = .int .i64 i := hk.at 2 (by decide +kernel)
      exact wp_value _ (by simp only [execOp, e2]; rfl) (KS_mkv rfl rfl)
    · skip
      have eg : a'.eval (.tmp 17) = .bool false := KS_val (hd.val 5 17 (by decide +kernel)) rfl
      refine ⟨17, false, rfl, eg, fun _ Q => ?_, fun h => absurd rfl h⟩
      have e21 : a'.eval (.tmp 21) = HV a := KS_val (hd.val 9 21 (by decide +kernel)) rfl
      have e22 : a'.eval (.tmp 22) = .int .i64 i := KS_val (hd.val 10 22 (by decide +kernel)) rfl
      refine wp_call 21 _ (run_enter 21 _ _ rfl (by kernel_rfl)) ?_
      simp only [List.map_toArray, List.map_nil, List.map_cons, e21, e22]
      refine (CZ.out _).mono ?_
      rintro e w5 ⟨rfl, hb5⟩
      exact ⟨_, rfl, KS_mkv rfl rfl, hb5⟩
    · skip
      have eg : a'.eval (.tmp 17) = .bool false := KS_val (hd.val 5 17 (by decide +kernel)) rfl
      refine ⟨17, false, rfl, eg, fun _ Q => ?_, fun h => absurd rfl h⟩
      have e20 : a'.eval (.tmp 20) = .int .i64 bz := KS_val (hd.val 8 20 (by decide +kernel)) rfl
      have e23 : a'.eval (.tmp 23) = .int .i64 bz := KS_val (hd.val 11 23 (by decide +kernel)) rfl
      clear hd hk
      exact wp_value (.bool false) (by simp only [execOp, e20, e23]; go_simp) (KS_mkv rfl rfl)
    · skip
      intro Q
      have e17 : a'.eval (.tmp 17) = .bool false := KS_val (hd.val 5 17 (by decide +kernel)) rfl
      have e24 : a'.eval (.tmp 24) = .bool false := KS_val (hd.val 12 24 (by decide +kernel)) rfl
      clear hd hk
      exact wp_value (.bool false) (by simp only [execOp, e17, e24]; go_simp) (KS_mkv rfl rfl)
  · intro a' w4 hsz hdf hk hall hg
    have e12 : a'.eval (.tmp 12) = .int .i64 (q : Int) := KS_val (hall 0 _ 12 rfl rfl) rfl
    have e13 : a'.eval (.tmp 13) = HV a := KS_val (hall 1 _ 13 rfl rfl) rfl
    have e14 : a'.eval (.tmp 14) = HV b := KS_val (hall 2 _ 14 rfl rfl) rfl
    have e15 : a'.eval (.tmp 15) = .int .i64 (q : Int) := KS_val (hall 3 _ 15 rfl rfl) rfl
    have e16 : a'.eval (.tmp 16) = .bool false := KS_val (hall 4 _ 16 rfl rfl) rfl
    have e17 : a'.eval (.tmp 17) = .bool false := KS_val (hall 5 _ 17 rfl rfl) rfl
    have e18 : a'.eval (.tmp 18) = HV a := KS_val (hall 6 _ 18 rfl rfl) rfl
    have e19 : a'.eval (.tmp 19) = .int .i64 i := KS_val (hall 7 _ 19 rfl rfl) rfl
    have e20 : a'.eval (.tmp 20) = .int .i64 bz := KS_val (hall 8 _ 20 rfl rfl) rfl
    have e21 : a'.eval (.tmp 21) = HV a := KS_val (hall 9 _ 21 rfl rfl) rfl
    have e22 : a'.eval (.tmp 22) = .int .i64 i := KS_val (hall 10 _ 22 rfl rfl) rfl
    have e23 : a'.eval (.tmp 23) = .int .i64 bz := KS_val (hall 11 _ 23 rfl rfl) rfl
    have e24 : a'.eval (.tmp 24) = .bool false := KS_val (hall 12 _ 24 rfl rfl) rfl
    have e25 : a'.eval (.tmp 25) = .bool false := KS_val (hall 13 _ 25 rfl rfl) rfl
    have ha := act_puts 60 rfl hsz hdf hk [12, 13, 14, 15, 16, 17, 18, 19, 20, 21, 22, 23, 24, 25] (by decide +kernel)
    simp only [puts, List.foldl_cons, List.foldl_nil, e12, e13, e14, e15, e16, e17, e18, e19, e20, e21, e22, e23, e24, e25] at ha
    simp only [Act.put, List.setIfInBounds_toArray, List.set_cons_succ, List.set_cons_zero] at ha
    clear hall hk hsz hdf e12 e13 e14 e15 e16 e17 e18 e19 e20 e21 e22 e23 e24 e25
    subst ha
    have A4 := hide (A3.out.kept hg)
    have B4 := hide (B3.out.kept hg)
    have L4 : Hid (Below N w w4) := (show _ from L3.out.trans (hg.mono (Nat.le_of_lt A3.out.lt)))
    clear hg A3 B3 L3
    go_wp2_with fail
    go_loopg [8] (q + 1) (fun g z wr => ∃ j : Nat, j ≤ q ∧ g + j = q + 1 ∧ z = .int .i64 (j : Int) ∧ Hid (Below N w wr) ∧ Hid (Blk wr N 24 (By a.1)) ∧ Hid (Blk wr (N + 1) 24 (By b.1)))
    case atStart => exact ⟨0, by omega, by omega, rfl, L4, A4, B4⟩
    case round =>
      clear A4 B4 L4
      obtain ⟨j, hj, hgj, rfl, LR, AR, BR⟩ := hrel
      by_cases hlt : j < q
      · have q2 : (j : Int) < (q : Int) := by omega
        have C1 := hide (fun w => kBit_any a (j : Int) w)
        have C2 := hide (fun w => kBit_any b (j : Int) w)
        rw [bitZ_nat] at C1 C2
        rw [show bitN b j = bitN a j from bitN_eq.2 (HQ1.out j hlt).symm] at C2
        generalize bitN a j = x at *
        go_upto_region 7 with fail
        refine wp_region_inv Tryd.mixed (KS (fun i_ => match i_ with | 0 => .val (HV a) | 1 | 4 => .val (.int .i64 (j : Int)) | 2 | 5 => .val (.int .i64 x) | 3 => .val (HV b) | 6 => .val (.bool false) | _ => .free)) 60 rfl (by decide +kernel) (KS_mono _) ?_ ?_
        · refine AllFrom.cons (fun a' w' hg hk hd => ?_) (AllFrom.cons (fun a' w' hg hk hd => ?_) (AllFrom.cons (fun a' w' hg hk hd => ?_) (AllFrom.cons (fun a' w' hg hk hd => ?_) (AllFrom.cons (fun a' w' hg hk hd => ?_) (AllFrom.cons (fun a' w' hg hk hd => ?_) (AllFrom.cons (fun a' w' hg hk hd => ?_) AllFrom.nil))))))
          · skip
            intro Q
            have e3 : a'.eval (.tmp 3) = .pointer (some ⟨N, 0, none⟩) := hk.at 3 (by decide +kernel)
            exact wp_load_row 24 _ rfl _ _ e3 (By (a).1) _ ((AR.out.kept hg).range0) Tryd.underlying24 rfl (Tryd.sizeH _) (KS_mkv rfl rfl)
          · skip
            intro Q
            have e8 : a'.eval (.tmp 8) = .int .i64 (j : Int) := hk.at 8 (by decide +kernel)
            exact wp_value _ (by simp only [execOp, e8]; rfl) (KS_mkv rfl rfl)
          · skip
            intro Q
            have e31 : a'.eval (.tmp 31) = HV a := KS_val (hd.val 0 31 (by decide +kernel)) rfl
            have e32 : a'.eval (.tmp 32) = .int .i64 (j : Int) := KS_val (hd.val 1 32 (by decide +kernel)) rfl
            refine wp_call 20 _ (run_enter 20 _ _ rfl (by kernel_rfl)) ?_
            simp only [List.map_toArray, List.map_nil, List.map_cons, e31, e32]
            refine (C1.out _).mono ?_
            rintro e w5 ⟨rfl, hb5⟩
            exact ⟨_, rfl, KS_mkv rfl rfl, hb5⟩
          · skip
            intro Q
            have e4 : a'.eval (.tmp 4) = .pointer (some ⟨N + 1, 0, none⟩) := hk.at 4 (by decide +kernel)
            exact wp_load_row 24 _ rfl _ _ e4 (By (b).1) _ ((BR.out.kept hg).range0) Tryd.underlying24 rfl (Tryd.sizeH _) (KS_mkv rfl rfl)
          · skip
            intro Q
            have e8 : a'.eval (.tmp 8) = .int .i64 (j : Int) := hk.at 8 (by decide +kernel)
            exact wp_value _ (by simp only [execOp, e8]; rfl) (KS_mkv rfl rfl)
          · skip
            intro Q
            have e34 : a'.eval (.tmp 34) = HV b := KS_val (hd.val 3 34 (by decide +kernel)) rfl
            have e35 : a'.eval (.tmp 35) = .int .i64 (j : Int) := KS_val (hd.val 4 35 (by decide +kernel)) rfl
            refine wp_call 20 _ (run_enter 20 _ _ rfl (by kernel_rfl)) ?_
            simp only [List.map_toArray, List.map_nil, List.map_cons, e34, e35]
            refine (C2.out _).mono ?_
            rintro e w5 ⟨rfl, hb5⟩
            exact ⟨_, rfl, KS_mkv rfl rfl, hb5⟩
          · skip
            intro Q
            have e33 : a'.eval (.tmp 33) = .int .i64 x := KS_val (hd.val 2 33 (by decide +kernel)) rfl
            have e36 : a'.eval (.tmp 36) = .int .i64 x := KS_val (hd.val 5 36 (by decide +kernel)) rfl
            clear hd hk
            exact wp_value (.bool false) (by simp only [execOp, e33, e36]; go_simp) (KS_mkv rfl rfl)
        · intro a' w5 hsz hdf hk hall hg
          have e31 : a'.eval (.tmp 31) = HV a := KS_val (hall 0 _ 31 rfl rfl) rfl
          have e32 : a'.eval (.tmp 32) = .int .i64 (j : Int) := KS_val (hall 1 _ 32 rfl rfl) rfl
          have e33 : a'.eval (.tmp 33) = .int .i64 x := KS_val (hall 2 _ 33 rfl rfl) rfl
          have e34 : a'.eval (.tmp 34) = HV b := KS_val (hall 3 _ 34 rfl rfl) rfl
          have e35 : a'.eval (.tmp 35) = .int .i64 (j : Int) := KS_val (hall 4 _ 35 rfl rfl) rfl
          have e36 : a'.eval (.tmp 36) = .int .i64 x := KS_val (hall 5 _ 36 rfl rfl) rfl
          have e37 : a'.eval (.tmp 37) = .bool false := KS_val (hall 6 _ 37 rfl rfl) rfl
          have ha := act_puts 60 rfl hsz hdf hk [31, 32, 33, 34, 35, 36, 37] (by decide +kernel)
          simp only [puts, List.foldl_cons, List.foldl_nil, e31, e32, e33, e34, e35, e36, e37] at ha
          simp only [Act.put, List.setIfInBounds_toArray, List.set_cons_succ, List.set_cons_zero] at ha
          clear hall hk hsz hdf e31 e32 e33 e34 e35 e36 e37
          subst ha
          have A5 := hide (AR.out.kept hg)
          have B5 := hide (BR.out.kept hg)
          have L5 : Hid (Below N w w5) := (show _ from LR.out.trans (hg.mono (Nat.le_of_lt AR.out.lt)))
          clear hg AR BR LR
          go_wp2_with fail
          go_roundg (q + 1 - (j + 1))
          case measure => omega
          case rel => exact ⟨j + 1, by omega, by omega, by go_num, L5, A5, B5⟩
      · obtain rfl : j = q := by omega
        have q2 : ¬ (j : Int) < (j : Int) := by omega
        obtain ⟨q, hqj⟩ : ∃ z, z = j := ⟨_, rfl⟩
        have TR := hide (HT.out.kept (LR.out.mono h2))
        go_upto_region 9 with fail
        rw [← hqj] at HQ2 HQ3 hq ⊢
        clear hqj
        have heq := eqA a b
        by_cases hab : a = b
        · rw [decide_eq_true hab] at heq
          have hq6 : q = 256 := HQ3.out.2 hab
          have q6 : (q : Int) = 256 := by omega
          have HQ6 := hide hq6
          clear hab hq6
          refine wp_region_inv Tryd.mixed (KS (fun i_ => match i_ with | 0 | 7 => .val (.int .i64 (q : Int)) | 1 | 4 | 5 | 6 | 8 | 9 | 17 | 18 | 19 | 20 | 21 | 22 => .val (.bool true) | 2 => .val (HV a) | 3 => .val (HV b) | _ => .free)) 60 rfl (by decide +kernel) (KS_mono _) ?_ ?_
          · refine AllFrom.cons (fun a' w' hg hk hd => ?_) (AllFrom.cons (fun a' w' hg hk hd => ?_) (AllFrom.cons (fun a' w' hg hk hd => ?_) (AllFrom.cons (fun a' w' hg hk hd => ?_) (AllFrom.cons (fun a' w' hg hk hd => ?_) (AllFrom.cons (fun a' w' hg hk hd => ?_) (AllFrom.cons (fun a' w' hg hk hd => ?_) (AllFrom.cons (fun a' w' hg hk hd => ?_) (AllFrom.cons (fun a' w' hg hk hd => ?_) (AllFrom.cons (fun a' w' hg hk hd => ?_) (AllFrom.cons (fun a' w' hg hk hd => ?_) (AllFrom.cons (fun a' w' hg hk hd => ?_) (AllFrom.cons (fun a' w' hg hk hd => ?_) (AllFrom.cons (fun a' w' hg hk hd => ?_) (AllFrom.cons (fun a' w' hg hk hd => ?_) (AllFrom.cons (fun a' w' hg hk hd => ?_) (AllFrom.cons (fun a' w' hg hk hd => ?_) (AllFrom.cons (fun a' w' hg hk hd => ?_) (AllFrom.cons (fun a' w' hg hk hd => ?_) (AllFrom.cons (fun a' w' hg hk hd => ?_) (AllFrom.cons (fun a' w' hg hk hd => ?_) (AllFrom.cons (fun a' w' hg hk hd => ?_) (AllFrom.cons (fun a' w' hg hk hd => ?_) AllFrom.nil))))))))))))))))))))))
            · skip
              intro Q
              have e7 : a'.eval (.tmp 7) = .int .i64 (q : Int) := hk.at 7 (by decide +kernel)
              exact wp_value _ (by simp only [execOp, e7]; rfl) (KS_mkv rfl rfl)
            · skip
              intro Q
              have e38 : a'.eval (.tmp 38) = .int .i64 (q : Int) := KS_val (hd.val 0 38 (by decide +kernel)) rfl
              clear hd hk
              exact wp_value (.bool true) (by simp only [execOp, e38]; go_simp) (KS_mkv rfl rfl)
            · skip
              intro Q
              have e3 : a'.eval (.tmp 3) = .pointer (some ⟨N, 0, none⟩) := hk.at 3 (by decide +kernel)
              exact wp_load_row 24 _ rfl _ _ e3 (By (a).1) _ ((AR.out.kept hg).range0) Tryd.underlying24 rfl (Tryd.sizeH _) (KS_mkv rfl rfl)
            · skip
              intro Q
              have e4 : a'.eval (.tmp 4) = .pointer (some ⟨N + 1, 0, none⟩) := hk.at 4 (by decide +kernel)
              exact wp_load_row 24 _ rfl _ _ e4 (By (b).1) _ ((BR.out.kept hg).range0) Tryd.underlying24 rfl (Tryd.sizeH _) (KS_mkv rfl rfl)
            · skip
              intro Q
              have e40 : a'.eval (.tmp 40) = HV a := KS_val (hd.val 2 40 (by decide +kernel)) rfl
              have e41 : a'.eval (.tmp 41) = HV b := KS_val (hd.val 3 41 (by decide +kernel)) rfl
              clear hd hk
              exact wp_value _ (by simp only [execOp, e40, e41, HV]; go_simp) (KS_mkv rfl rfl)
            · skip
              intro Q
              have e39 : a'.eval (.tmp 39) = .bool true := KS_val (hd.val 1 39 (by decide +kernel)) rfl
              have e42 : a'.eval (.tmp 42) = .bool true := KS_val (hd.val 4 42 (by decide +kernel)) rfl
              clear hd hk
              exact wp_value (.bool true) (by simp only [execOp, e39, e42]; go_simp) (KS_mkv rfl rfl)
            · skip
              intro Q
              have e43 : a'.eval (.tmp 43) = .bool true := KS_val (hd.val 5 43 (by decide +kernel)) rfl
              exact wp_value _ (by simp only [execOp, e43]; rfl) (KS_mkv rfl rfl)
            · skip
              have eg : a'.eval (.tmp 44) = .bool true := KS_val (hd.val 6 44 (by decide +kernel)) rfl
              refine ⟨44, true, rfl, eg, fun _ Q => ?_, fun h => absurd rfl h⟩
              have e7 : a'.eval (.tmp 7) = .int .i64 (q : Int) := hk.at 7 (by decide +kernel)
              exact wp_value _ (by simp only [execOp, e7]; rfl) (KS_mkv rfl rfl)
            · skip
              have eg : a'.eval (.tmp 44) = .bool true := KS_val (hd.val 6 44 (by decide +kernel)) rfl
              refine ⟨44, true, rfl, eg, fun _ Q => ?_, fun h => absurd rfl h⟩
              have e45 : a'.eval (.tmp 45) = .int .i64 (q : Int) := KS_val (hd.val 7 45 (by decide +kernel)) rfl
              clear hd hk
              exact wp_value (.bool true) (by simp only [execOp, e45]; go_simp) (KS_mkv rfl rfl)
            · skip
              have eg : a'.eval (.tmp 44) = .bool true := KS_val (hd.val 6 44 (by decide +kernel)) rfl
              refine ⟨44, true, rfl, eg, fun _ Q => ?_, fun h => absurd rfl h⟩
              have e46 : a'.eval (.tmp 46) = .bool true := KS_val (hd.val 8 46 (by decide +kernel)) rfl
              exact wp_value _ (by simp only [execOp, e46]; rfl) (KS_mkv rfl rfl)
            · skip
              have eg : a'.eval (.tmp 47) = .bool true := KS_val (hd.val 9 47 (by decide +kernel)) rfl
              exact ⟨47, true, rfl, eg, fun h => absurd h (by decide), fun _ => KS_mkf rfl⟩
            · skip
              have eg : a'.eval (.tmp 47) = .bool true := KS_val (hd.val 9 47 (by decide +kernel)) rfl
              exact ⟨47, true, rfl, eg, fun h => absurd h (by decide), fun _ => KS_mkf rfl⟩
            · skip
              have eg : a'.eval (.tmp 47) = .bool true := KS_val (hd.val 9 47 (by decide +kernel)) rfl
              exact ⟨47, true, rfl, eg, fun h => absurd h (by decide), fun _ => KS_mkf rfl⟩
            · skip
              have eg : a'.eval (.tmp 47) = .bool true := KS_val (hd.val 9 47 (by decide +kernel)) rfl
              exact ⟨47, true, rfl, eg, fun h => absurd h (by decide), fun _ => KS_mkf rfl⟩
            · skip
              have eg : a'.eval (.tmp 47) = .bool true := KS_val (hd.val 9 47 (by decide +kernel)) rfl
              exact ⟨47, true, rfl, eg, fun h => absurd h (by decide), fun _ => KS_mkf rfl⟩
            · skip
              have eg : a'.eval (.tmp 47) = .bool true := KS_val (hd.val 9 47 (by decide +kernel)) rfl
              exact ⟨47, true, rfl, eg, fun h => absurd h (by decide), fun _ => KS_mkf rfl⟩
            · skip
              have eg : a'.eval (.tmp 47) = .bool true := KS_val (hd.val 9 47 (by decide +kernel)) rfl
              exact ⟨47, true, rfl, eg, fun h => absurd h (by decide), fun _ => KS_mkf rfl⟩
            · skip
              have eg : a'.eval (.tmp 44) = .bool true := KS_val (hd.val 6 44 (by decide +kernel)) rfl
              refine ⟨44, true, rfl, eg, fun _ Q => ?_, fun h => absurd rfl h⟩
              have e47 : a'.eval (.tmp 47) = .bool true := KS_val (hd.val 9 47 (by decide +kernel)) rfl
              clear hd hk
              exact wp_value (.bool true) (by simp only [execOp, e47, show a'.eval (.const (.bool true)) = .bool true from rfl]; go_simp) (KS_mkv rfl rfl)
            · skip
              intro Q
              have e44 : a'.eval (.tmp 44) = .bool true := KS_val (hd.val 6 44 (by decide +kernel)) rfl
              have e55 : a'.eval (.tmp 55) = .bool true := KS_val (hd.val 17 55 (by decide +kernel)) rfl
              clear hd hk
              exact wp_value (.bool true) (by simp only [execOp, e44, e55]; go_simp) (KS_mkv rfl rfl)
            · skip
              intro Q
              have e56 : a'.eval (.tmp 56) = .bool true := KS_val (hd.val 18 56 (by decide +kernel)) rfl
              exact wp_value _ (by simp only [execOp, e56]; rfl) (KS_mkv rfl rfl)
            · skip
              have eg : a'.eval (.tmp 57) = .bool true := KS_val (hd.val 19 57 (by decide +kernel)) rfl
              refine ⟨57, true, rfl, eg, fun _ Q => ?_, fun h => absurd rfl h⟩
              refine wp_call 9 _ (run_enter 9 _ _ rfl (by kernel_rfl)) ?_
              simp only [List.map_toArray, List.map_nil]
              refine (ulives_any _ (TR.out.gr hg)).mono ?_
              rintro e w5 ⟨rfl, hb5⟩
              exact ⟨_, rfl, KS_mkv rfl rfl, hb5⟩
            · skip
              intro Q
              have e57 : a'.eval (.tmp 57) = .bool true := KS_val (hd.val 19 57 (by decide +kernel)) rfl
              have e58 : a'.eval (.tmp 58) = .bool true := KS_val (hd.val 20 58 (by decide +kernel)) rfl
              clear hd hk
              exact wp_value (.bool true) (by simp only [execOp, e57, e58]; go_simp) (KS_mkv rfl rfl)
            · skip
              intro Q
              have e59 : a'.eval (.tmp 59) = .bool true := KS_val (hd.val 21 59 (by decide +kernel)) rfl
              exact wp_value _ (by simp only [execOp, e59]; rfl) (KS_mkv rfl rfl)
          · intro a' w6 hsz hdf hk hall hg
            have e38 : a'.eval (.tmp 38) = .int .i64 (q : Int) := KS_val (hall 0 _ 38 rfl rfl) rfl
            have e39 : a'.eval (.tmp 39) = .bool true := KS_val (hall 1 _ 39 rfl rfl) rfl
            have e40 : a'.eval (.tmp 40) = HV a := KS_val (hall 2 _ 40 rfl rfl) rfl
            have e41 : a'.eval (.tmp 41) = HV b := KS_val (hall 3 _ 41 rfl rfl) rfl
            have e42 : a'.eval (.tmp 42) = .bool true := KS_val (hall 4 _ 42 rfl rfl) rfl
            have e43 : a'.eval (.tmp 43) = .bool true := KS_val (hall 5 _ 43 rfl rfl) rfl
            have e44 : a'.eval (.tmp 44) = .bool true := KS_val (hall 6 _ 44 rfl rfl) rfl
            have e45 : a'.eval (.tmp 45) = .int .i64 (q : Int) := KS_val (hall 7 _ 45 rfl rfl) rfl
            have e46 : a'.eval (.tmp 46) = .bool true := KS_val (hall 8 _ 46 rfl rfl) rfl
            have e47 : a'.eval (.tmp 47) = .bool true := KS_val (hall 9 _ 47 rfl rfl) rfl
            obtain ⟨x48, hx48⟩ : ∃ v, a'.eval (.tmp 48) = v := ⟨_, rfl⟩
            obtain ⟨x49, hx49⟩ : ∃ v, a'.eval (.tmp 49) = v := ⟨_, rfl⟩
            obtain ⟨x50, hx50⟩ : ∃ v, a'.eval (.tmp 50) = v := ⟨_, rfl⟩
            obtain ⟨x51, hx51⟩ : ∃ v, a'.eval (.tmp 51) = v := ⟨_, rfl⟩
            obtain ⟨x52, hx52⟩ : ∃ v, a'.eval (.tmp 52) = v := ⟨_, rfl⟩
            obtain ⟨x53, hx53⟩ : ∃ v, a'.eval (.tmp 53) = v := ⟨_, rfl⟩
            obtain ⟨x54, hx54⟩ : ∃ v, a'.eval (.tmp 54) = v := ⟨_, rfl⟩
            have e55 : a'.eval (.tmp 55) = .bool true := KS_val (hall 17 _ 55 rfl rfl) rfl
            have e56 : a'.eval (.tmp 56) = .bool true := KS_val (hall 18 _ 56 rfl rfl) rfl
            have e57 : a'.eval (.tmp 57) = .bool true := KS_val (hall 19 _ 57 rfl rfl) rfl
            have e58 : a'.eval (.tmp 58) = .bool true := KS_val (hall 20 _ 58 rfl rfl) rfl
            have e59 : a'.eval (.tmp 59) = .bool true := KS_val (hall 21 _ 59 rfl rfl) rfl
            have e6 : a'.eval (.tmp 6) = .bool true := KS_val (hall 22 _ 6 rfl rfl) rfl
            have ha := act_puts 60 rfl hsz hdf hk [38, 39, 40, 41, 42, 43, 44, 45, 46, 47, 48, 49, 50, 51, 52, 53, 54, 55, 56, 57, 58, 59, 6] (by decide +kernel)
            simp only [puts, List.foldl_cons, List.foldl_nil, e38, e39, e40, e41, e42, e43, e44, e45, e46, e47, hx48, hx49, hx50, hx51, hx52, hx53, hx54, e55, e56, e57, e58, e59, e6] at ha
            simp only [Act.put, List.setIfInBounds_toArray, List.set_cons_succ, List.set_cons_zero] at ha
            clear hall hk hsz hdf e38 e39 e40 e41 e42 e43 e44 e45 e46 e47 hx48 hx49 hx50 hx51 hx52 hx53 hx54 e55 e56 e57 e58 e59 e6
            subst ha
            have L6 : Hid (Below N w w6) := (show _ from LR.out.trans (hg.mono (Nat.le_of_lt AR.out.lt)))
            clear hg
            go_wp2_with fail
            go_ret
            exact ⟨rfl, L6.out⟩
        · rw [decide_eq_false hab] at heq
          have hq6 : ¬ q = 256 := fun e => hab (HQ3.out.1 e)
          have q6 : ¬ (q : Int) = 256 := by omega
          have C1 := hide (fun w => kBit_any a (q : Int) w)
          have C2 := hide (fun w => kBit_any b (q : Int) w)
          rw [bitZ_nat] at C1 C2
          have hne : bitN a q ≠ bitN b q := fun e => HQ2.out (by omega) (bitN_eq.1 e)
          generalize bitN a q = x at *
          generalize bitN b q = y at *
          have hne2 : (x == y) = false := by simpa using hne
          clear hab
          refine wp_region_inv Tryd.mixed (KS (fun i_ => match i_ with | 0 | 7 | 11 | 14 => .val (.int .i64 (q : Int)) | 1 | 4 | 8 | 9 => .val (.bool false) | 2 | 10 => .val (HV a) | 3 | 13 => .val (HV b) | 5 | 6 | 16 | 17 | 18 | 19 | 20 | 21 | 22 => .val (.bool true) | 12 => .val (.int .i64 x) | 15 => .val (.int .i64 y) | _ => .free)) 60 rfl (by decide +kernel) (KS_mono _) ?_ ?_
          · refine AllFrom.cons (fun a' w' hg hk hd => ?_) (AllFrom.cons (fun a' w' hg hk hd => ?_) (AllFrom.cons (fun a' w' hg hk hd => ?_) (AllFrom.cons (fun a' w' hg hk hd => ?_) (AllFrom.cons (fun a' w' hg hk hd => ?_) (AllFrom.cons (fun a' w' hg hk hd => ?_) (AllFrom.cons (fun a' w' hg hk hd => ?_) (AllFrom.cons (fun a' w' hg hk hd => ?_) (AllFrom.cons (fun a' w' hg hk hd => ?_) (AllFrom.cons (fun a' w' hg hk hd => ?_) (AllFrom.cons (fun a' w' hg hk hd => ?_) (AllFrom.cons (fun a' w' hg hk hd => ?_) (AllFrom.cons (fun a' w' hg hk hd => ?_) (AllFrom.cons (fun a' w' hg hk hd => ?_) (AllFrom.cons (fun a' w' hg hk hd => ?_) (AllFrom.cons (fun a' w' hg hk hd => ?_) (AllFrom.cons (fun a' w' hg hk hd => ?_) (AllFrom.cons (fun a' w' hg hk hd => ?_) (AllFrom.cons (fun a' w' hg hk hd => ?_) (AllFrom.cons (fun a' w' hg hk hd => ?_) (AllFrom.cons (fun a' w' hg hk hd => ?_) (AllFrom.cons (fun a' w' hg hk hd => ?_) (AllFrom.cons (fun a' w' hg hk hd => ?_) AllFrom.nil))))))))))))))))))))))
            · skip
              intro Q
              have e7 : a'.eval (.tmp 7) = .int .i64 (q : Int) := hk.at 7 (by decide +kernel)
              exact wp_value _ (by simp only [execOp, e7]; rfl) (KS_mkv rfl rfl)
            · skip
              intro Q
              have e38 : a'.eval (.tmp 38) = .int .i64 (q : Int) := KS_val (hd.val 0 38 (by decide +kernel)) rfl
              clear hd hk
              exact wp_value (.bool false) (by simp only [execOp, e38]; go_simp) (KS_mkv rfl rfl)
            · skip
              intro Q
              have e3 : a'.eval (.tmp 3) = .pointer (some ⟨N, 0, none⟩) := hk.at 3 (by decide +kernel)
              exact wp_load_row 24 _ rfl _ _ e3 (By (a).1) _ ((AR.out.kept hg).range0) Tryd.underlying24 rfl (Tryd.sizeH _) (KS_mkv rfl rfl)
            · skip
              intro Q
              have e4 : a'.eval (.tmp 4) = .pointer (some ⟨N + 1, 0, none⟩) := hk.at 4 (by decide +kernel)
              exact wp_load_row 24 _ rfl _ _ e4 (By (b).1) _ ((BR.out.kept hg).range0) Tryd.underlying24 rfl (Tryd.sizeH _) (KS_mkv rfl rfl)
            · skip
              intro Q
              have e40 : a'.eval (.tmp 40) = HV a := KS_val (hd.val 2 40 (by decide +kernel)) rfl
              have e41 : a'.eval (.tmp 41) = HV b := KS_val (hd.val 3 41 (by decide +kernel)) rfl
              clear hd hk
              exact wp_value _ (by simp only [execOp, e40, e41, HV]; go_simp) (KS_mkv rfl rfl)
            · skip
              intro Q
              have e39 : a'.eval (.tmp 39) = .bool false := KS_val (hd.val 1 39 (by decide +kernel)) rfl
              have e42 : a'.eval (.tmp 42) = .bool false := KS_val (hd.val 4 42 (by decide +kernel)) rfl
              clear hd hk
              exact wp_value (.bool true) (by simp only [execOp, e39, e42]; go_simp) (KS_mkv rfl rfl)
            · skip
              intro Q
              have e43 : a'.eval (.tmp 43) = .bool true := KS_val (hd.val 5 43 (by decide +kernel)) rfl
              exact wp_value _ (by simp only [execOp, e43]; rfl) (KS_mkv rfl rfl)
            · skip
              have eg : a'.eval (.tmp 44) = .bool true := KS_val (hd.val 6 44 (by decide +kernel)) rfl
              refine ⟨44, true, rfl, eg, fun _ Q => ?_, fun h => absurd rfl h⟩
              have e7 : a'.eval (.tmp 7) = .int .i64 (q : Int) := hk.at 7 (by decide +kernel)
              exact wp_value _ (by simp only [execOp, e7]; rfl) (KS_mkv rfl rfl)
            · skip
              have eg : a'.eval (.tmp 44) = .bool true := KS_val (hd.val 6 44 (by decide +kernel)) rfl
              refine ⟨44, true, rfl, eg, fun _ Q => ?_, fun h => absurd rfl h⟩
              have e45 : a'.eval (.tmp 45) = .int .i64 (q : Int) := KS_val (hd.val 7 45 (by decide +kernel)) rfl
              clear hd hk
              exact wp_value (.bool false) (by simp only [execOp, e45]; go_simp) (KS_mkv rfl rfl)
            · skip
              have eg : a'.eval (.tmp 44) = .bool true := KS_val (hd.val 6 44 (by decide +kernel)) rfl
              refine ⟨44, true, rfl, eg, fun _ Q => ?_, fun h => absurd rfl h⟩
              have e46 : a'.eval (.tmp 46) = .bool false := KS_val (hd.val 8 46 (by decide +kernel)) rfl
              exact wp_value _ (by simp only [execOp, e46]; rfl) (KS_mkv rfl rfl)
            · skip
              have eg : a'.eval (.tmp 47) = .bool false := KS_val (hd.val 9 47 (by decide +kernel)) rfl
              refine ⟨47, false, rfl, eg, fun _ Q => ?_, fun h => absurd rfl h⟩
              have e3 : a'.eval (.tmp 3) = .pointer (some ⟨N, 0, none⟩) := hk.at 3 (by decide +kernel)
              exact wp_load_row 24 _ rfl _ _ e3 (By (a).1) _ ((AR.out.kept hg).range0) Tryd.underlying24 rfl (Tryd.sizeH _) (KS_mkv rfl rfl)
            · skip
              have eg : a'.eval (.tmp 47) = .bool false := KS_val (hd.val 9 47 (by decide +kernel)) rfl
              refine ⟨47, false, rfl, eg, fun _ Q => ?_, fun h => absurd rfl h⟩
              have e7 : a'.eval (.tmp 7) = .int .i64 (q : Int) := hk.at 7 (by decide +kernel)
              exact wp_value _ (by simp only [execOp, e7]; rfl) (KS_mkv rfl rfl)
            · skip
              have eg : a'.eval (.tmp 47) = .bool false := KS_val (hd.val 9 47 (by decide +kernel)) rfl
              refine ⟨47, false, rfl, eg, fun _ Q => ?_, fun h => absurd rfl h⟩
              have e48 : a'.eval (.tmp 48) = HV a := KS_val (hd.val 10 48 (by decide +kernel)) rfl
              have e49 : a'.eval (.tmp 49) = .int .i64 (q : Int) := KS_val (hd.val 11 49 (by decide +kernel)) rfl
              refine wp_call 20 _ (run_enter 20 _ _ rfl (by kernel_rfl)) ?_
              simp only [List.map_toArray, List.map_nil, List.map_cons, e48, e49]
              refine (C1.out _).mono ?_
              rintro e w5 ⟨rfl, hb5⟩
              exact ⟨_, rfl, KS_mkv rfl rfl, hb5⟩
            · skip
              have eg : a'.eval (.tmp 47) = .bool false := KS_val (hd.val 9 47 (by decide +kernel)) rfl
              refine ⟨47, false, rfl, eg, fun _ Q => ?_, fun h => absurd rfl h⟩
              have e4 : a'.eval (.tmp 4) = .pointer (some ⟨N + 1, 0, none⟩) := hk.at 4 (by decide +kernel)
              exact wp_load_row 24 _ rfl _ _ e4 (By (b).1) _ ((BR.out.kept hg).range0) Tryd.underlying24 rfl (Tryd.sizeH _) (KS_mkv rfl rfl)
            · skip
              have eg : a'.eval (.tmp 47) = .bool false := KS_val (hd.val 9 47 (by decide +kernel)) rfl
              refine ⟨47, false, rfl, eg, fun _ Q => ?_, fun h => absurd rfl h⟩
              have e7 : a'.eval (.tmp 7) = .int .i64 (q : Int) := hk.at 7 (by decide +kernel)
              exact wp_value _ (by simp only [execOp, e7]; rfl) (KS_mkv rfl rfl)
            · skip
              have eg : a'.eval (.tmp 47) = .bool false := KS_val (hd.val 9 47 (by decide +kernel)) rfl
              refine ⟨47, false, rfl, eg, fun _ Q => ?_, fun h => absurd rfl h⟩
              have e51 : a'.eval (.tmp 51) = HV b := KS_val (hd.val 13 51 (by decide +kernel)) rfl
              have e52 : a'.eval (.tmp 52) = .int .i64 (q : Int) := KS_val (hd.val 14 52 (by decide +kernel)) rfl
              refine wp_call 20 _ (run_enter 20 _ _ rfl (by kernel_rfl)) ?_
              simp only [List.map_toArray, List.map_nil, List.map_cons, e51, e52]
              refine (C2.out _).mono ?_
              rintro e w5 ⟨rfl, hb5⟩
              exact ⟨_, rfl, KS_mkv rfl rfl, hb5⟩
            · skip
              have eg : a'.eval (.tmp 47) = .bool false := KS_val (hd.val 9 47 (by decide +kernel)) rfl
              refine ⟨47, false, rfl, eg, fun _ Q => ?_, fun h => absurd rfl h⟩
              have e50 : a'.eval (.tmp 50) = .int .i64 x := KS_val (hd.val 12 50 (by decide +kernel)) rfl
              have e53 : a'.eval (.tmp 53) = .int .i64 y := KS_val (hd.val 15 53 (by decide +kernel)) rfl
              clear hd hk
              exact wp_value (.bool true) (by simp only [execOp, e50, e53]; go_simp) (KS_mkv rfl rfl)
            · skip
              have eg : a'.eval (.tmp 44) = .bool true := KS_val (hd.val 6 44 (by decide +kernel)) rfl
              refine ⟨44, true, rfl, eg, fun _ Q => ?_, fun h => absurd rfl h⟩
              have e47 : a'.eval (.tmp 47) = .bool false := KS_val (hd.val 9 47 (by decide +kernel)) rfl
              have e54 : a'.eval (.tmp 54) = .bool true := KS_val (hd.val 16 54 (by decide +kernel)) rfl
              clear hd hk
              exact wp_value (.bool true) (by simp only [execOp, e47, e54]; go_simp) (KS_mkv rfl rfl)
            · skip
              intro Q
              have e44 : a'.eval (.tmp 44) = .bool true := KS_val (hd.val 6 44 (by decide +kernel)) rfl
              have e55 : a'.eval (.tmp 55) = .bool true := KS_val (hd.val 17 55 (by decide +kernel)) rfl
              clear hd hk
              exact wp_value (.bool true) (by simp only [execOp, e44, e55]; go_simp) (KS_mkv rfl rfl)
            · skip
              intro Q
              have e56 : a'.eval (.tmp 56) = .bool true := KS_val (hd.val 18 56 (by decide +kernel)) rfl
              exact wp_value _ (by simp only [execOp, e56]; rfl) (KS_mkv rfl rfl)
            · skip
              have eg : a'.eval (.tmp 57) = .bool true := KS_val (hd.val 19 57 (by decide +kernel)) rfl
              refine ⟨57, true, rfl, eg, fun _ Q => ?_, fun h => absurd rfl h⟩
              refine wp_call 9 _ (run_enter 9 _ _ rfl (by kernel_rfl)) ?_
              simp only [List.map_toArray, List.map_nil]
              refine (ulives_any _ (TR.out.gr hg)).mono ?_
              rintro e w5 ⟨rfl, hb5⟩
              exact ⟨_, rfl, KS_mkv rfl rfl, hb5⟩
            · skip
              intro Q
              have e57 : a'.eval (.tmp 57) = .bool true := KS_val (hd.val 19 57 (by decide +kernel)) rfl
              have e58 : a'.eval (.tmp 58) = .bool true := KS_val (hd.val 20 58 (by decide +kernel)) rfl
              clear hd hk
              exact wp_value (.bool true) (by simp only [execOp, e57, e58]; go_simp) (KS_mkv rfl rfl)
            · skip
              intro Q
              have e59 : a'.eval (.tmp 59) = .bool true := KS_val (hd.val 21 59 (by decide +kernel)) rfl
              exact wp_value _ (by simp only [execOp, e59]; rfl) (KS_mkv rfl rfl)
          · intro a' w6 hsz hdf hk hall hg
            have e38 : a'.eval (.tmp 38) = .int .i64 (q : Int) := KS_val (hall 0 _ 38 rfl rfl) rfl
            have e39 : a'.eval (.tmp 39) = .bool false := KS_val (hall 1 _ 39 rfl rfl) rfl
            have e40 : a'.eval (.tmp 40) = HV a := KS_val (hall 2 _ 40 rfl rfl) rfl
            have e41 : a'.eval (.tmp 41) = HV b := KS_val (hall 3 _ 41 rfl rfl) rfl
            have e42 : a'.eval (.tmp 42) = .bool false := KS_val (hall 4 _ 42 rfl rfl) rfl
            have e43 : a'.eval (.tmp 43) = .bool true := KS_val (hall 5 _ 43 rfl rfl) rfl
            have e44 : a'.eval (.tmp 44) = .bool true := KS_val (hall 6 _ 44 rfl rfl) rfl
            have e45 : a'.eval (.tmp 45) = .int .i64 (q : Int) := KS_val (hall 7 _ 45 rfl rfl) rfl
            have e46 : a'.eval (.tmp 46) = .bool false := KS_val (hall 8 _ 46 rfl rfl) rfl
            have e47 : a'.eval (.tmp 47) = .bool false := KS_val (hall 9 _ 47 rfl rfl) rfl
            have e48 : a'.eval (.tmp 48) = HV a := KS_val (hall 10 _ 48 rfl rfl) rfl
            have e49 : a'.eval (.tmp 49) = .int .i64 (q : Int) := KS_val (hall 11 _ 49 rfl rfl) rfl
            have e50 : a'.eval (.tmp 50) = .int .i64 x := KS_val (hall 12 _ 50 rfl rfl) rfl
            have e51 : a'.eval (.tmp 51) = HV b := KS_val (hall 13 _ 51 rfl rfl) rfl
            have e52 : a'.eval (.tmp 52) = .int .i64 (q : Int) := KS_val (hall 14 _ 52 rfl rfl) rfl
            have e53 : a'.eval (.tmp 53) = .int .i64 y := KS_val (hall 15 _ 53 rfl rfl) rfl
            have e54 : a'.eval (.tmp 54) = .bool true := KS_val (hall 16 _ 54 rfl rfl) rfl
            have e55 : a'.eval (.tmp 55) = .bool true := KS_val (hall 17 _ 55 rfl rfl) rfl
            have e56 : a'.eval (.tmp 56) = .bool true := KS_val (hall 18 _ 56 rfl rfl) rfl
            have e57 : a'.eval (.tmp 57) = .bool true := KS_val (hall 19 _ 57 rfl rfl) rfl
            have e58 : a'.eval (.tmp 58) = .bool true := KS_val (hall 20 _ 58 rfl rfl) rfl
            have e59 : a'.eval (.tmp 59) = .bool true := KS_val (hall 21 _ 59 rfl rfl) rfl
            have e6 : a'.eval (.tmp 6) = .bool true := KS_val (hall 22 _ 6 rfl rfl) rfl
            have ha := act_puts 60 rfl hsz hdf hk [38, 39, 40, 41, 42, 43, 44, 45, 46, 47, 48, 49, 50, 51, 52, 53, 54, 55, 56, 57, 58, 59, 6] (by decide +kernel)
            simp only [puts, List.foldl_cons, List.foldl_nil, e38, e39, e40, e41, e42, e43, e44, e45, e46, e47, e48, e49, e50, e51, e52, e53, e54, e55, e56, e57, e58, e59, e6] at ha
            simp only [Act.put, List.setIfInBounds_toArray, List.set_cons_succ, List.set_cons_zero] at ha
            clear hall hk hsz hdf e38 e39 e40 e41 e42 e43 e44 e45 e46 e47 e48 e49 e50 e51 e52 e53 e54 e55 e56 e57 e58 e59 e6
            subst ha
            have L6 : Hid (Below N w w6) := (show _ from LR.out.trans (hg.mono (Nat.le_of_lt AR.out.lt)))
            clear hg
            go_wp2_with fail
            go_ret
            exact ⟨rfl, L6.out⟩
#print axioms trieBits_any
end Go.Proofs.YtnomlnedincfjaaDoor
