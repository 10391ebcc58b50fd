/-
  indenturelaw10.ProofClimbs: the walk.
-/
import Derived.Test.YtfclmjfbcmjfbaaDoorPfM
import Derived.Test.YtfclmjfbcmjfbaaDoorPfZ
namespace Go.Proofs.YtfclmjfbcmjfbaaDoor
open Go.RowKit
theorem two_lo {w : World} {b : Nat} {T : TypeId} {x y : Hs} (h : Blk w b T (By x.1 ++ By y.1)) : w.rangeAt b 0 (By x.1) := h.range 0 _ (fun j v hj => by
  rw [Nat.zero_add, List.getElem?_append_left (List.getElem?_eq_some_iff.1 hj).1]; exact hj)
theorem two_hi {w : World} {b : Nat} {T : TypeId} {x y : Hs} (h : Blk w b T (By x.1 ++ By y.1)) : w.rangeAt b 32 (By y.1) := h.range 32 _ (fun j v hj => by
  have h32 : (By x.1).length = 32 := By_len x
  rw [List.getElem?_append_right (by omega), h32, Nat.add_sub_cancel_left]; exact hj)
set_option maxHeartbeats 8000000 in
set_option maxRecDepth 100000 in
theorem proofClimbs_any (x y : Hs) (n i : Int) (p : List Hs) (pv : Value) (w : World) (hT : Tabs w) (hP : RdG HE w pv p) :
    Calls Tryd.prog 4 #[.agg (By x.1 ++ By y.1).toArray, .agg #[.int .i64 n, .int .i64 i], pv] w fun e w' => e = .returned (.bool true) ∧ Below w.heap.size w w' := by
  obtain ⟨N, HNw⟩ : ∃ N, Hid (w.heap.size = N) := ⟨_, rfl⟩
  have HNT : Hid (2 ≤ N) := (show 2 ≤ N by rw [← HNw.out]; exact hT.size)
  have HT := hide hT
  have RP := hide hP
  obtain ⟨pa, cp, rfl⟩ := hP.slice
  obtain ⟨np, HNP⟩ : ∃ k, Hid (p.length = k) := ⟨_, rfl⟩
  rw [HNP.out] at RP ⊢
  obtain ⟨h, ok, HY⟩ : ∃ h ok, Hid (climbC n i x p = (h, ok)) := ⟨_, _, rfl⟩
  obtain ⟨bb, HBB⟩ : ∃ bb, Hid ((ok && decide (h = y)) = bb) := ⟨_, rfl⟩
  clear hP hT
  go_enter Tryd.func4, Tryd.ntmps4
  go_upto_region 1 with fail
  obtain ⟨w0, hw0⟩ : ∃ z, z = (w.alloc (.cells (By x.1 ++ By y.1).toArray 31 (0, 0))).alloc (.cells [.int .i64 n, .int .i64 i].toArray 32 (0, 0)) := ⟨_, rfl⟩
  change Code.wp _ _ _ _ ((w.alloc (.cells (By x.1 ++ By y.1).toArray 31 (0, 0))).alloc (.cells [.int .i64 n, .int .i64 i].toArray 32 (0, 0)))
  rw [← hw0, HNw.out]
  obtain ⟨b0, b1, ln⟩ := boxes2' HNw hw0
  have BH0 := hide b0
  have BI0 := hide b1
  have L0 := hide ln
  have S0 : Hid (N ≤ w0.heap.size) := (show N ≤ w0.heap.size by have := b0.lt; omega)
  have R0 := hide (RP.out.kept (show Below w.heap.size w w0 by rw [HNw.out]; exact ln))
  have T0 : Hid (Tabs w0) := HT.out.kept (L0.out.mono HNT.out)
  clear hw0 b0 b1 ln
  by_cases hnp : np ≤ 200
  · have q1 : decide ((200 : Int) < (np : Int)) = false := decide_eq_false (by omega)
    go_upto_region 3 with fail
    have ci0 : w0.cell? ⟨N + 1, 0, none⟩ = some (.int .i64 n) := BI0.out.cell (j := 0) rfl
    have ci1 : w0.cell? ⟨N + 1, 1, none⟩ = some (.int .i64 i) := BI0.out.cell (j := 1) rfl
    have hrx : w0.rangeAt N 0 (By x.1) := two_lo BH0.out
    go_wp2_with (first
      | (refine wpList_load_mid rfl 30 _ rfl N 0 rfl (By x.1) _ hrx Tryd.underlying30 rfl (Tryd.sizeH x) ?_)
      | fail)
    refine (climb_any n i x (.slice pa np cp) p w0 T0.out R0.out).mono ?_
    rw [HY.out]
    rintro e u1 ⟨rfl, hb1⟩
    obtain ⟨g1, HE1⟩ : ∃ E, Hid (u1.heap.size = E) := ⟨_, rfl⟩
    have BN := Blk.new u1 30 (By zh.1)
    rw [HE1.out] at BN
    have bh := BH0.out.kept hb1
    have bi := BI0.out.kept hb1
    have rp := R0.out.kept hb1
    have lb := L0.out.trans (hb1.mono S0.out)
    have se : w0.heap.size ≤ g1 := by rw [← HE1.out]; exact hb1.size
    have nE : N + 1 < g1 := Nat.lt_of_lt_of_le BI0.out.lt se
    clear ci0 ci1 hrx
    go_upto_region 4 with (first
      | (rw [HE1.out]; refine wpList_store_blk rfl 30 _ _ rfl g1 (By zh.1) (By h.1) 30 rfl rfl BN (by rw [By_len, By_len]) (Tryd.sizeH h) (By_one _) ?_; intro w1 hb2 hu2)
      | fail)
    have Xg1 := hide hb2
    have LA : Below u1.heap.size u1 (u1.alloc (.cells (By zh.1).toArray 30 (0, 0))) := (Below.refl _ _).alloc (Nat.le_refl _) _
    have LU : Below u1.heap.size u1 w1 := LA.trans (hu2.below (by rw [HE1.out]; exact Nat.le_refl _) (by simp [HE1.out]))
    have BH1 := hide (bh.kept LU)
    have BI1 := hide (bi.kept LU)
    have R1 := hide (rp.kept LU)
    have S1 : Hid (N ≤ w1.heap.size) := (show N ≤ w1.heap.size by have := hb2.lt; omega)
    have L1 : Hid (Below N w w1) := lb.trans (LU.mono (by rw [HE1.out]; omega))
    have T1 : Hid (Tabs w1) := HT.out.kept (L1.out.mono HNT.out)
    clear hb2 hu2 BN bh bi rp lb se nE LA LU hb1
    have ci0 : w1.cell? ⟨N + 1, 0, none⟩ = some (.int .i64 n) := BI1.out.cell (j := 0) rfl
    have ci1 : w1.cell? ⟨N + 1, 1, none⟩ = some (.int .i64 i) := BI1.out.cell (j := 1) rfl
    have hrx : w1.rangeAt N 0 (By x.1) := two_lo BH1.out
    go_wp2_with (first
      | (refine wpList_load_mid rfl 30 _ rfl N 0 rfl (By x.1) _ hrx Tryd.underlying30 rfl (Tryd.sizeH x) ?_)
      | fail)
    refine (xClimb_any n i x (.slice pa np cp) p w1 R1.out).mono ?_
    rw [HY.out]
    rintro e u2 ⟨rfl, hb1⟩
    obtain ⟨g2, HE1⟩ : ∃ E, Hid (u2.heap.size = E) := ⟨_, rfl⟩
    have BN := Blk.new u2 30 (By zh.1)
    rw [HE1.out] at BN
    have bh := BH1.out.kept hb1
    have bi := BI1.out.kept hb1
    have rp := R1.out.kept hb1
    have lb := L1.out.trans (hb1.mono S1.out)
    have se : w1.heap.size ≤ g2 := by rw [← HE1.out]; exact hb1.size
    have nE : N + 1 < g2 := Nat.lt_of_lt_of_le BI1.out.lt se
    clear ci0 ci1 hrx
    go_upto_region 5 with (first
      | (rw [HE1.out]; refine wpList_store_blk rfl 30 _ _ rfl g2 (By zh.1) (By h.1) 30 rfl rfl BN (by rw [By_len, By_len]) (Tryd.sizeH h) (By_one _) ?_; intro w2 hb2 hu2)
      | fail)
    have Xg2 := hide hb2
    have LA : Below u2.heap.size u2 (u2.alloc (.cells (By zh.1).toArray 30 (0, 0))) := (Below.refl _ _).alloc (Nat.le_refl _) _
    have LU : Below u2.heap.size u2 w2 := LA.trans (hu2.below (by rw [HE1.out]; exact Nat.le_refl _) (by simp [HE1.out]))
    have BH2 := hide (bh.kept LU)
    have BI2 := hide (bi.kept LU)
    have R2 := hide (rp.kept LU)
    have S2 : Hid (N ≤ w2.heap.size) := (show N ≤ w2.heap.size by have := hb2.lt; omega)
    have L2 : Hid (Below N w w2) := lb.trans (LU.mono (by rw [HE1.out]; omega))
    have T2 : Hid (Tabs w2) := HT.out.kept (L2.out.mono HNT.out)
    have Xg1b := hide ((Xg1.out.kept hb1).kept LU)
    clear hb2 hu2 BN bh bi rp lb se nE LA LU hb1
    refine wp_region_inv Tryd.mixed (KS (fun i_ => match i_ with | 0 | 1 | 32 => .val (HV h) | 2 | 3 | 6 | 7 | 8 | 29 | 30 | 31 | 42 | 43 | 44 | 45 | 46 | 47 => .val (.bool true) | 4 | 5 | 40 | 41 => .val (.bool ok) | 9 | 19 => .val (.pointer (some ⟨N, 32, none⟩)) | 10 | 20 => .val (HV y) | 11 | 21 | 33 => .val (.pointer (some ⟨N + 1, 0, none⟩)) | 12 | 22 | 34 => .val (.int .i64 n) | 13 | 23 | 35 => .val (.pointer (some ⟨N + 1, 1, none⟩)) | 14 | 24 | 36 => .val (.int .i64 i) | 15 | 25 | 37 => .val (.pointer (some ⟨N, 0, none⟩)) | 16 | 26 | 38 => .val (HV x) | 17 | 27 | 39 => .val (.slice pa np cp) | 18 | 28 => .val (.bool bb) | _ => .free)) 84 rfl (by decide +kernel) (KS_mono _) ?_ ?_
    · refine AllFrom.cons (fun a' w' hg hk hd => ?_) (AllFrom.cons (fun a' w' hg hk hd => ?_) (AllFrom.cons (fun a' w' hg hk hd => ?_) (AllFrom.cons (fun a' w' hg hk hd => ?_) (AllFrom.cons (fun a' w' hg hk hd => ?_) (AllFrom.cons (fun a' w' hg hk hd => ?_) (AllFrom.cons (fun a' w' hg hk hd => ?_) (AllFrom.cons (fun a' w' hg hk hd => ?_) (AllFrom.cons (fun a' w' hg hk hd => ?_) (AllFrom.cons (fun a' w' hg hk hd => ?_) (AllFrom.cons (fun a' w' hg hk hd => ?_) (AllFrom.cons (fun a' w' hg hk hd => ?_) (AllFrom.cons (fun a' w' hg hk hd => ?_) (AllFrom.cons (fun a' w' hg hk hd => ?_) (AllFrom.cons (fun a' w' hg hk hd => ?_) (AllFrom.cons (fun a' w' hg hk hd => ?_) (AllFrom.cons (fun a' w' hg hk hd => ?_) (AllFrom.cons (fun a' w' hg hk hd => ?_) (AllFrom.cons (fun a' w' hg hk hd => ?_) (AllFrom.cons (fun a' w' hg hk hd => ?_) (AllFrom.cons (fun a' w' hg hk hd => ?_) (AllFrom.cons (fun a' w' hg hk hd => ?_) (AllFrom.cons (fun a' w' hg hk hd => ?_) (AllFrom.cons (fun a' w' hg hk hd => ?_) (AllFrom.cons (fun a' w' hg hk hd => ?_) (AllFrom.cons (fun a' w' hg hk hd => ?_) (AllFrom.cons (fun a' w' hg hk hd => ?_) (AllFrom.cons (fun a' w' hg hk hd => ?_) (AllFrom.cons (fun a' w' hg hk hd => ?_) (AllFrom.cons (fun a' w' hg hk hd => ?_) (AllFrom.cons (fun a' w' hg hk hd => ?_) (AllFrom.cons (fun a' w' hg hk hd => ?_) (AllFrom.cons (fun a' w' hg hk hd => ?_) (AllFrom.cons (fun a' w' hg hk hd => ?_) (AllFrom.cons (fun a' w' hg hk hd => ?_) (AllFrom.cons (fun a' w' hg hk hd => ?_) (AllFrom.cons (fun a' w' hg hk hd => ?_) (AllFrom.cons (fun a' w' hg hk hd => ?_) (AllFrom.cons (fun a' w' hg hk hd => ?_) (AllFrom.cons (fun a' w' hg hk hd => ?_) (AllFrom.cons (fun a' w' hg hk hd => ?_) (AllFrom.cons (fun a' w' hg hk hd => ?_) (AllFrom.cons (fun a' w' hg hk hd => ?_) (AllFrom.cons (fun a' w' hg hk hd => ?_) (AllFrom.cons (fun a' w' hg hk hd => ?_) (AllFrom.cons (fun a' w' hg hk hd => ?_) (AllFrom.cons (fun a' w' hg hk hd => ?_) (AllFrom.cons (fun a' w' hg hk hd => ?_) AllFrom.nil)))))))))))))))))))))))))))))))))))))))))))))))
      · skip
        intro Q
        have e7 : a'.eval (.tmp 7) = .pointer (some ⟨g1, 0, none⟩) := hk.at 7 (by decide +kernel)
        exact wp_load_row 30 _ rfl _ _ e7 (By (h).1) _ ((Xg1b.out.kept hg).range0) Tryd.underlying30 rfl (Tryd.sizeH _) (KS_mkv rfl rfl)
      · skip
        intro Q
        have e9 : a'.eval (.tmp 9) = .pointer (some ⟨g2, 0, none⟩) := hk.at 9 (by decide +kernel)
        exact wp_load_row 30 _ rfl _ _ e9 (By (h).1) _ ((Xg2.out.kept hg).range0) Tryd.underlying30 rfl (Tryd.sizeH _) (KS_mkv rfl rfl)
      · skip
        intro Q
        have e37 : a'.eval (.tmp 37) = HV h := KS_val (hd.val 0 37 (by decide +kernel)) rfl
        have e38 : a'.eval (.tmp 38) = HV h := KS_val (hd.val 1 38 (by decide +kernel)) rfl
        clear hd hk
        have he := eqA h h
        rw [decide_eq_true rfl] at he
        have f37 : a'.eval (.tmp 37) = .agg (By h.1).toArray := e37
        have f38 : a'.eval (.tmp 38) = .agg (By h.1).toArray := e38
        exact wp_value (.bool true) (by simp only [execOp, f37, f38]; go_simp) (KS_mkv rfl rfl)
      · skip
        intro Q
        have e39 : a'.eval (.tmp 39) = .bool true := KS_val (hd.val 2 39 (by decide +kernel)) rfl
        exact wp_value _ (by simp only [execOp, e39]; rfl) (KS_mkv rfl rfl)
      · skip
        have eg : a'.eval (.tmp 40) = .bool true := KS_val (hd.val 3 40 (by decide +kernel)) rfl
        refine ⟨40, true, rfl, eg, fun _ Q => ?_, fun h => absurd rfl h⟩
        have e8 : a'.eval (.tmp 8) = .bool ok := hk.at 8 (by decide +kernel)
        exact wp_value _ (by simp only [execOp, e8]; rfl) (KS_mkv rfl rfl)
      · skip
        have eg : a'.eval (.tmp 40) = .bool true := KS_val (hd.val 3 40 (by decide +kernel)) rfl
        refine ⟨40, true, rfl, eg, fun _ Q => ?_, fun h => absurd rfl h⟩
        have e10 : a'.eval (.tmp 10) = .bool ok := hk.at 10 (by decide +kernel)
        exact wp_value _ (by simp only [execOp, e10]; rfl) (KS_mkv rfl rfl)
      · skip
        have eg : a'.eval (.tmp 40) = .bool true := KS_val (hd.val 3 40 (by decide +kernel)) rfl
        refine ⟨40, true, rfl, eg, fun _ Q => ?_, fun h => absurd rfl h⟩
        have e41 : a'.eval (.tmp 41) = .bool ok := KS_val (hd.val 4 41 (by decide +kernel)) rfl
        have e42 : a'.eval (.tmp 42) = .bool ok := KS_val (hd.val 5 42 (by decide +kernel)) rfl
        clear hd hk
        exact wp_value (.bool true) (by simp only [execOp, e41, e42]; cases ok <;> go_simp) (KS_mkv rfl rfl)
      · skip
        intro Q
        have e40 : a'.eval (.tmp 40) = .bool true := KS_val (hd.val 3 40 (by decide +kernel)) rfl
        have e43 : a'.eval (.tmp 43) = .bool true := KS_val (hd.val 6 43 (by decide +kernel)) rfl
        clear hd hk
        exact wp_value (.bool true) (by simp only [execOp, e40, e43]; go_simp) (KS_mkv rfl rfl)
      · skip
        intro Q
        have e44 : a'.eval (.tmp 44) = .bool true := KS_val (hd.val 7 44 (by decide +kernel)) rfl
        exact wp_value _ (by simp only [execOp, e44]; rfl) (KS_mkv rfl rfl)
      · skip
        have eg : a'.eval (.tmp 45) = .bool true := KS_val (hd.val 8 45 (by decide +kernel)) rfl
        refine ⟨45, true, rfl, eg, fun _ Q => ?_, fun h => absurd rfl h⟩
        have e3 : a'.eval (.tmp 3) = .pointer (some ⟨N, 0, none⟩) := hk.at 3 (by decide +kernel)
        clear hd hk
        exact wp_value (.pointer (some ⟨N, 32, none⟩)) (by simp only [execOp, e3]; go_simp) (KS_mkv rfl rfl)
      · skip
        have eg : a'.eval (.tmp 45) = .bool true := KS_val (hd.val 8 45 (by decide +kernel)) rfl
        refine ⟨45, true, rfl, eg, fun _ Q => ?_, fun h => absurd rfl h⟩
        have e46 : a'.eval (.tmp 46) = .pointer (some ⟨N, 32, none⟩) := KS_val (hd.val 9 46 (by decide +kernel)) rfl
        exact wp_load_row 30 _ rfl _ _ e46 (By (y).1) _ (two_hi (BH2.out.kept hg)) Tryd.underlying30 rfl (Tryd.sizeH _) (KS_mkv rfl rfl)
      · skip
        have eg : a'.eval (.tmp 45) = .bool true := KS_val (hd.val 8 45 (by decide +kernel)) rfl
        refine ⟨45, true, rfl, eg, fun _ Q => ?_, fun h => absurd rfl h⟩
        have e4 : a'.eval (.tmp 4) = .pointer (some ⟨N + 1, 0, none⟩) := hk.at 4 (by decide +kernel)
        clear hd hk
        exact wp_value (.pointer (some ⟨N + 1, 0, none⟩)) (by simp only [execOp, e4]; go_simp) (KS_mkv rfl rfl)
      · skip
        have eg : a'.eval (.tmp 45) = .bool true := KS_val (hd.val 8 45 (by decide +kernel)) rfl
        refine ⟨45, true, rfl, eg, fun _ Q => ?_, fun h => absurd rfl h⟩
        have e48 : a'.eval (.tmp 48) = .pointer (some ⟨N + 1, 0, none⟩) := KS_val (hd.val 11 48 (by decide +kernel)) rfl
        have hc := (BI2.out.kept hg).cell (j := 0) rfl
        clear hd hk
        exact wp_value (.int .i64 n) (by simp only [execOp, e48]; go_simp) (KS_mkv rfl rfl)
      · skip
        have eg : a'.eval (.tmp 45) = .bool true := KS_val (hd.val 8 45 (by decide +kernel)) rfl
        refine ⟨45, true, rfl, eg, fun _ Q => ?_, fun h => absurd rfl h⟩
        have e4 : a'.eval (.tmp 4) = .pointer (some ⟨N + 1, 0, none⟩) := hk.at 4 (by decide +kernel)
        clear hd hk
        exact wp_value (.pointer (some ⟨N + 1, 1, none⟩)) (by simp only [execOp, e4]; go_simp) (KS_mkv rfl rfl)
      · skip
        have eg : a'.eval (.tmp 45) = .bool true := KS_val (hd.val 8 45 (by decide +kernel)) rfl
        refine ⟨45, true, rfl, eg, fun _ Q => ?_, fun h => absurd rfl h⟩
        have e50 : a'.eval (.tmp 50) = .pointer (some ⟨N + 1, 1, none⟩) := KS_val (hd.val 13 50 (by decide +kernel)) rfl
        have hc := (BI2.out.kept hg).cell (j := 1) rfl
        clear hd hk
        exact wp_value (.int .i64 i) (by simp only [execOp, e50]; go_simp) (KS_mkv rfl rfl)
      · skip
        have eg : a'.eval (.tmp 45) = .bool true := KS_val (hd.val 8 45 (by decide +kernel)) rfl
        refine ⟨45, true, rfl, eg, fun _ Q => ?_, fun h => absurd rfl h⟩
        have e3 : a'.eval (.tmp 3) = .pointer (some ⟨N, 0, none⟩) := hk.at 3 (by decide +kernel)
        clear hd hk
        exact wp_value (.pointer (some ⟨N, 0, none⟩)) (by simp only [execOp, e3]; go_simp) (KS_mkv rfl rfl)
      · skip
        have eg : a'.eval (.tmp 45) = .bool true := KS_val (hd.val 8 45 (by decide +kernel)) rfl
        refine ⟨45, true, rfl, eg, fun _ Q => ?_, fun h => absurd rfl h⟩
        have e52 : a'.eval (.tmp 52) = .pointer (some ⟨N, 0, none⟩) := KS_val (hd.val 15 52 (by decide +kernel)) rfl
        exact wp_load_row 30 _ rfl _ _ e52 (By (x).1) _ (two_lo (BH2.out.kept hg)) Tryd.underlying30 rfl (Tryd.sizeH _) (KS_mkv rfl rfl)
      · skip
        have eg : a'.eval (.tmp 45) = .bool true := KS_val (hd.val 8 45 (by decide +kernel)) rfl
        refine ⟨45, true, rfl, eg, fun _ Q => ?_, fun h => absurd rfl h⟩
        have e2 : a'.eval (.tmp 2) = .slice pa np cp := hk.at 2 (by decide +kernel)
        exact wp_value _ (by simp only [execOp, e2]; rfl) (KS_mkv rfl rfl)
      · skip
        have eg : a'.eval (.tmp 45) = .bool true := KS_val (hd.val 8 45 (by decide +kernel)) rfl
        refine ⟨45, true, rfl, eg, fun _ Q => ?_, fun h => absurd rfl h⟩
        have e47 : a'.eval (.tmp 47) = HV y := KS_val (hd.val 10 47 (by decide +kernel)) rfl
        have e49 : a'.eval (.tmp 49) = .int .i64 n := KS_val (hd.val 12 49 (by decide +kernel)) rfl
        have e51 : a'.eval (.tmp 51) = .int .i64 i := KS_val (hd.val 14 51 (by decide +kernel)) rfl
        have e53 : a'.eval (.tmp 53) = HV x := KS_val (hd.val 16 53 (by decide +kernel)) rfl
        have e54 : a'.eval (.tmp 54) = .slice pa np cp := KS_val (hd.val 17 54 (by decide +kernel)) rfl
        refine wp_call 18 _ (run_enter 18 _ _ rfl (by kernel_rfl)) ?_
        simp only [List.map_toArray, List.map_nil, List.map_cons, e47, e49, e51, e53, e54]
        have CC := check_any y n i x (.slice pa np cp) p _ (T2.out.gr hg) (R2.out.kept hg)
        rw [HY.out] at CC
        simp only [HBB.out] at CC
        refine (CC).mono ?_
        rintro e w5 ⟨rfl, hb5⟩
        exact ⟨_, rfl, KS_mkv rfl rfl, hb5⟩
      · skip
        have eg : a'.eval (.tmp 45) = .bool true := KS_val (hd.val 8 45 (by decide +kernel)) rfl
        refine ⟨45, true, rfl, eg, fun _ Q => ?_, fun h => absurd rfl h⟩
        have e3 : a'.eval (.tmp 3) = .pointer (some ⟨N, 0, none⟩) := hk.at 3 (by decide +kernel)
        clear hd hk
        exact wp_value (.pointer (some ⟨N, 32, none⟩)) (by simp only [execOp, e3]; go_simp) (KS_mkv rfl rfl)
      · skip
        have eg : a'.eval (.tmp 45) = .bool true := KS_val (hd.val 8 45 (by decide +kernel)) rfl
        refine ⟨45, true, rfl, eg, fun _ Q => ?_, fun h => absurd rfl h⟩
        have e56 : a'.eval (.tmp 56) = .pointer (some ⟨N, 32, none⟩) := KS_val (hd.val 19 56 (by decide +kernel)) rfl
        exact wp_load_row 30 _ rfl _ _ e56 (By (y).1) _ (two_hi (BH2.out.kept hg)) Tryd.underlying30 rfl (Tryd.sizeH _) (KS_mkv rfl rfl)
      · skip
        have eg : a'.eval (.tmp 45) = .bool true := KS_val (hd.val 8 45 (by decide +kernel)) rfl
        refine ⟨45, true, rfl, eg, fun _ Q => ?_, fun h => absurd rfl h⟩
        have e4 : a'.eval (.tmp 4) = .pointer (some ⟨N + 1, 0, none⟩) := hk.at 4 (by decide +kernel)
        clear hd hk
        exact wp_value (.pointer (some ⟨N + 1, 0, none⟩)) (by simp only [execOp, e4]; go_simp) (KS_mkv rfl rfl)
      · skip
        have eg : a'.eval (.tmp 45) = .bool true := KS_val (hd.val 8 45 (by decide +kernel)) rfl
        refine ⟨45, true, rfl, eg, fun _ Q => ?_, fun h => absurd rfl h⟩
        have e58 : a'.eval (.tmp 58) = .pointer (some ⟨N + 1, 0, none⟩) := KS_val (hd.val 21 58 (by decide +kernel)) rfl
        have hc := (BI2.out.kept hg).cell (j := 0) rfl
        clear hd hk
        exact wp_value (.int .i64 n) (by simp only [execOp, e58]; go_simp) (KS_mkv rfl rfl)
      · skip
        have eg : a'.eval (.tmp 45) = .bool true := KS_val (hd.val 8 45 (by decide +kernel)) rfl
        refine ⟨45, true, rfl, eg, fun _ Q => ?_, fun h => absurd rfl h⟩
        have e4 : a'.eval (.tmp 4) = .pointer (some ⟨N + 1, 0, none⟩) := hk.at 4 (by decide +kernel)
        clear hd hk
        exact wp_value (.pointer (some ⟨N + 1, 1, none⟩)) (by simp only [execOp, e4]; go_simp) (KS_mkv rfl rfl)
      · skip
        have eg : a'.eval (.tmp 45) = .bool true := KS_val (hd.val 8 45 (by decide +kernel)) rfl
        refine ⟨45, true, rfl, eg, fun _ Q => ?_, fun h => absurd rfl h⟩
        have e60 : a'.eval (.tmp 60) = .pointer (some ⟨N + 1, 1, none⟩) := KS_val (hd.val 23 60 (by decide +kernel)) rfl
        have hc := (BI2.out.kept hg).cell (j := 1) rfl
        clear hd hk
        exact wp_value (.int .i64 i) (by simp only [execOp, e60]; go_simp) (KS_mkv rfl rfl)
      · skip
        have eg : a'.eval (.tmp 45) = .bool true := KS_val (hd.val 8 45 (by decide +kernel)) rfl
        refine ⟨45, true, rfl, eg, fun _ Q => ?_, fun h => absurd rfl h⟩
        have e3 : a'.eval (.tmp 3) = .pointer (some ⟨N, 0, none⟩) := hk.at 3 (by decide +kernel)
        clear hd hk
        exact wp_value (.pointer (some ⟨N, 0, none⟩)) (by simp only [execOp, e3]; go_simp) (KS_mkv rfl rfl)
      · skip
        have eg : a'.eval (.tmp 45) = .bool true := KS_val (hd.val 8 45 (by decide +kernel)) rfl
        refine ⟨45, true, rfl, eg, fun _ Q => ?_, fun h => absurd rfl h⟩
        have e62 : a'.eval (.tmp 62) = .pointer (some ⟨N, 0, none⟩) := KS_val (hd.val 25 62 (by decide +kernel)) rfl
        exact wp_load_row 30 _ rfl _ _ e62 (By (x).1) _ (two_lo (BH2.out.kept hg)) Tryd.underlying30 rfl (Tryd.sizeH _) (KS_mkv rfl rfl)
      · skip
        have eg : a'.eval (.tmp 45) = .bool true := KS_val (hd.val 8 45 (by decide +kernel)) rfl
        refine ⟨45, true, rfl, eg, fun _ Q => ?_, fun h => absurd rfl h⟩
        have e2 : a'.eval (.tmp 2) = .slice pa np cp := hk.at 2 (by decide +kernel)
        exact wp_value _ (by simp only [execOp, e2]; rfl) (KS_mkv rfl rfl)
      · skip
        have eg : a'.eval (.tmp 45) = .bool true := KS_val (hd.val 8 45 (by decide +kernel)) rfl
        refine ⟨45, true, rfl, eg, fun _ Q => ?_, fun h => absurd rfl h⟩
        have e57 : a'.eval (.tmp 57) = HV y := KS_val (hd.val 20 57 (by decide +kernel)) rfl
        have e59 : a'.eval (.tmp 59) = .int .i64 n := KS_val (hd.val 22 59 (by decide +kernel)) rfl
        have e61 : a'.eval (.tmp 61) = .int .i64 i := KS_val (hd.val 24 61 (by decide +kernel)) rfl
        have e63 : a'.eval (.tmp 63) = HV x := KS_val (hd.val 26 63 (by decide +kernel)) rfl
        have e64 : a'.eval (.tmp 64) = .slice pa np cp := KS_val (hd.val 27 64 (by decide +kernel)) rfl
        refine wp_call 19 _ (run_enter 19 _ _ rfl (by kernel_rfl)) ?_
        simp only [List.map_toArray, List.map_nil, List.map_cons, e57, e59, e61, e63, e64]
        have CC := xcheck_any y n i x (.slice pa np cp) p _ (R2.out.kept hg)
        rw [HY.out] at CC
        simp only [HBB.out] at CC
        refine (CC).mono ?_
        rintro e w5 ⟨rfl, hb5⟩
        exact ⟨_, rfl, KS_mkv rfl rfl, hb5⟩
      · skip
        have eg : a'.eval (.tmp 45) = .bool true := KS_val (hd.val 8 45 (by decide +kernel)) rfl
        refine ⟨45, true, rfl, eg, fun _ Q => ?_, fun h => absurd rfl h⟩
        have e55 : a'.eval (.tmp 55) = .bool bb := KS_val (hd.val 18 55 (by decide +kernel)) rfl
        have e65 : a'.eval (.tmp 65) = .bool bb := KS_val (hd.val 28 65 (by decide +kernel)) rfl
        clear hd hk
        exact wp_value (.bool true) (by simp only [execOp, e55, e65]; cases bb <;> go_simp) (KS_mkv rfl rfl)
      · skip
        intro Q
        have e45 : a'.eval (.tmp 45) = .bool true := KS_val (hd.val 8 45 (by decide +kernel)) rfl
        have e66 : a'.eval (.tmp 66) = .bool true := KS_val (hd.val 29 66 (by decide +kernel)) rfl
        clear hd hk
        exact wp_value (.bool true) (by simp only [execOp, e45, e66]; go_simp) (KS_mkv rfl rfl)
      · skip
        intro Q
        have e67 : a'.eval (.tmp 67) = .bool true := KS_val (hd.val 30 67 (by decide +kernel)) rfl
        exact wp_value _ (by simp only [execOp, e67]; rfl) (KS_mkv rfl rfl)
      · skip
        have eg : a'.eval (.tmp 68) = .bool true := KS_val (hd.val 31 68 (by decide +kernel)) rfl
        refine ⟨68, true, rfl, eg, fun _ Q => ?_, fun h => absurd rfl h⟩
        have e9 : a'.eval (.tmp 9) = .pointer (some ⟨g2, 0, none⟩) := hk.at 9 (by decide +kernel)
        exact wp_load_row 30 _ rfl _ _ e9 (By (h).1) _ ((Xg2.out.kept hg).range0) Tryd.underlying30 rfl (Tryd.sizeH _) (KS_mkv rfl rfl)
      · skip
        have eg : a'.eval (.tmp 68) = .bool true := KS_val (hd.val 31 68 (by decide +kernel)) rfl
        refine ⟨68, true, rfl, eg, fun _ Q => ?_, fun h => absurd rfl h⟩
        have e4 : a'.eval (.tmp 4) = .pointer (some ⟨N + 1, 0, none⟩) := hk.at 4 (by decide +kernel)
        clear hd hk
        exact wp_value (.pointer (some ⟨N + 1, 0, none⟩)) (by simp only [execOp, e4]; go_simp) (KS_mkv rfl rfl)
      · skip
        have eg : a'.eval (.tmp 68) = .bool true := KS_val (hd.val 31 68 (by decide +kernel)) rfl
        refine ⟨68, true, rfl, eg, fun _ Q => ?_, fun h => absurd rfl h⟩
        have e70 : a'.eval (.tmp 70) = .pointer (some ⟨N + 1, 0, none⟩) := KS_val (hd.val 33 70 (by decide +kernel)) rfl
        have hc := (BI2.out.kept hg).cell (j := 0) rfl
        clear hd hk
        exact wp_value (.int .i64 n) (by simp only [execOp, e70]; go_simp) (KS_mkv rfl rfl)
      · skip
        have eg : a'.eval (.tmp 68) = .bool true := KS_val (hd.val 31 68 (by decide +kernel)) rfl
        refine ⟨68, true, rfl, eg, fun _ Q => ?_, fun h => absurd rfl h⟩
        have e4 : a'.eval (.tmp 4) = .pointer (some ⟨N + 1, 0, none⟩) := hk.at 4 (by decide +kernel)
        clear hd hk
        exact wp_value (.pointer (some ⟨N + 1, 1, none⟩)) (by simp only [execOp, e4]; go_simp) (KS_mkv rfl rfl)
      · skip
        have eg : a'.eval (.tmp 68) = .bool true := KS_val (hd.val 31 68 (by decide +kernel)) rfl
        refine ⟨68, true, rfl, eg, fun _ Q => ?_, fun h => absurd rfl h⟩
        have e72 : a'.eval (.tmp 72) = .pointer (some ⟨N + 1, 1, none⟩) := KS_val (hd.val 35 72 (by decide +kernel)) rfl
        have hc := (BI2.out.kept hg).cell (j := 1) rfl
        clear hd hk
        exact wp_value (.int .i64 i) (by simp only [execOp, e72]; go_simp) (KS_mkv rfl rfl)
      · skip
        have eg : a'.eval (.tmp 68) = .bool true := KS_val (hd.val 31 68 (by decide +kernel)) rfl
        refine ⟨68, true, rfl, eg, fun _ Q => ?_, fun h => absurd rfl h⟩
        have e3 : a'.eval (.tmp 3) = .pointer (some ⟨N, 0, none⟩) := hk.at 3 (by decide +kernel)
        clear hd hk
        exact wp_value (.pointer (some ⟨N, 0, none⟩)) (by simp only [execOp, e3]; go_simp) (KS_mkv rfl rfl)
      · skip
        have eg : a'.eval (.tmp 68) = .bool true := KS_val (hd.val 31 68 (by decide +kernel)) rfl
        refine ⟨68, true, rfl, eg, fun _ Q => ?_, fun h => absurd rfl h⟩
        have e74 : a'.eval (.tmp 74) = .pointer (some ⟨N, 0, none⟩) := KS_val (hd.val 37 74 (by decide +kernel)) rfl
        exact wp_load_row 30 _ rfl _ _ e74 (By (x).1) _ (two_lo (BH2.out.kept hg)) Tryd.underlying30 rfl (Tryd.sizeH _) (KS_mkv rfl rfl)
      · skip
        have eg : a'.eval (.tmp 68) = .bool true := KS_val (hd.val 31 68 (by decide +kernel)) rfl
        refine ⟨68, true, rfl, eg, fun _ Q => ?_, fun h => absurd rfl h⟩
        have e2 : a'.eval (.tmp 2) = .slice pa np cp := hk.at 2 (by decide +kernel)
        exact wp_value _ (by simp only [execOp, e2]; rfl) (KS_mkv rfl rfl)
      · skip
        have eg : a'.eval (.tmp 68) = .bool true := KS_val (hd.val 31 68 (by decide +kernel)) rfl
        refine ⟨68, true, rfl, eg, fun _ Q => ?_, fun h => absurd rfl h⟩
        have e69 : a'.eval (.tmp 69) = HV h := KS_val (hd.val 32 69 (by decide +kernel)) rfl
        have e71 : a'.eval (.tmp 71) = .int .i64 n := KS_val (hd.val 34 71 (by decide +kernel)) rfl
        have e73 : a'.eval (.tmp 73) = .int .i64 i := KS_val (hd.val 36 73 (by decide +kernel)) rfl
        have e75 : a'.eval (.tmp 75) = HV x := KS_val (hd.val 38 75 (by decide +kernel)) rfl
        have e76 : a'.eval (.tmp 76) = .slice pa np cp := KS_val (hd.val 39 76 (by decide +kernel)) rfl
        refine wp_call 18 _ (run_enter 18 _ _ rfl (by kernel_rfl)) ?_
        simp only [List.map_toArray, List.map_nil, List.map_cons, e69, e71, e73, e75, e76]
        have CC := check_any h n i x (.slice pa np cp) p _ (T2.out.gr hg) (R2.out.kept hg)
        rw [HY.out] at CC
        have hq : (ok && decide True) = ok := by simp
        simp only at CC
        rw [hq] at CC
        refine (CC).mono ?_
        rintro e w5 ⟨rfl, hb5⟩
        exact ⟨_, rfl, KS_mkv rfl rfl, hb5⟩
      · skip
        have eg : a'.eval (.tmp 68) = .bool true := KS_val (hd.val 31 68 (by decide +kernel)) rfl
        refine ⟨68, true, rfl, eg, fun _ Q => ?_, fun h => absurd rfl h⟩
        have e10 : a'.eval (.tmp 10) = .bool ok := hk.at 10 (by decide +kernel)
        exact wp_value _ (by simp only [execOp, e10]; rfl) (KS_mkv rfl rfl)
      · skip
        have eg : a'.eval (.tmp 68) = .bool true := KS_val (hd.val 31 68 (by decide +kernel)) rfl
        refine ⟨68, true, rfl, eg, fun _ Q => ?_, fun h => absurd rfl h⟩
        have e77 : a'.eval (.tmp 77) = .bool ok := KS_val (hd.val 40 77 (by decide +kernel)) rfl
        have e78 : a'.eval (.tmp 78) = .bool ok := KS_val (hd.val 41 78 (by decide +kernel)) rfl
        clear hd hk
        exact wp_value (.bool true) (by simp only [execOp, e77, e78]; cases ok <;> go_simp) (KS_mkv rfl rfl)
      · skip
        intro Q
        have e68 : a'.eval (.tmp 68) = .bool true := KS_val (hd.val 31 68 (by decide +kernel)) rfl
        have e79 : a'.eval (.tmp 79) = .bool true := KS_val (hd.val 42 79 (by decide +kernel)) rfl
        clear hd hk
        exact wp_value (.bool true) (by simp only [execOp, e68, e79]; go_simp) (KS_mkv rfl rfl)
      · skip
        intro Q
        have e80 : a'.eval (.tmp 80) = .bool true := KS_val (hd.val 43 80 (by decide +kernel)) rfl
        exact wp_value _ (by simp only [execOp, e80]; rfl) (KS_mkv rfl rfl)
      · skip
        have eg : a'.eval (.tmp 81) = .bool true := KS_val (hd.val 44 81 (by decide +kernel)) rfl
        refine ⟨81, true, rfl, eg, fun _ Q => ?_, fun h => absurd rfl h⟩
        refine wp_call 10 _ (run_enter 10 _ _ rfl (by kernel_rfl)) ?_
        simp only [List.map_toArray, List.map_nil]
        refine (lives_any _ (T2.out.gr hg)).mono ?_
        rintro e w5 ⟨rfl, hb5⟩
        exact ⟨_, rfl, KS_mkv rfl rfl, hb5⟩
      · skip
        intro Q
        have e81 : a'.eval (.tmp 81) = .bool true := KS_val (hd.val 44 81 (by decide +kernel)) rfl
        have e82 : a'.eval (.tmp 82) = .bool true := KS_val (hd.val 45 82 (by decide +kernel)) rfl
        clear hd hk
        exact wp_value (.bool true) (by simp only [execOp, e81, e82]; go_simp) (KS_mkv rfl rfl)
      · skip
        intro Q
        have e83 : a'.eval (.tmp 83) = .bool true := KS_val (hd.val 46 83 (by decide +kernel)) rfl
        exact wp_value _ (by simp only [execOp, e83]; rfl) (KS_mkv rfl rfl)
    intro a' w10 hsz hdf hk hall hg
    have e6 : a'.eval (.tmp 6) = .bool true := KS_val (hall 47 _ 6 rfl rfl) rfl
    have hd0 : a'.defers = [] := hdf
    have L10 : Below N w w10 := L2.out.trans (Below.mono hg S2.out)
    clear hall hk hsz hdf
    go_wp2_with fail
    refine bodyPost_ret (results_tmp rfl _ _ _) hd0 ⟨?_, by rw [HNw.out]; exact L10⟩
    have : a'.tmps.getD 6 undef = .bool true := e6
    rw [this]
  · have q1 : decide ((200 : Int) < (np : Int)) = true := decide_eq_true (by omega)
    go_wp2_with fail
    refine (lives_any w0 T0.out).mono ?_
    rintro e w2 ⟨rfl, hb2⟩
    go_wp2_with fail
    go_ret
    exact ⟨rfl, by rw [HNw.out]; exact L0.out.trans (hb2.mono S0.out)⟩
#print axioms proofClimbs_any
end Go.Proofs.YtfclmjfbcmjfbaaDoor
