/-
  indenturelaw09.MountainAdds: what the call does.
-/
import Derived.Test.YtinlpaabmojmkaaDoorMtT
import Derived.Test.YtinlpaabmojmkaaDoorMtTr
import Derived.Test.YtinlpaabmojmkaaDoorGM9
namespace Go.Proofs.YtinlpaabmojmkaaDoor
open Go.RowKit
set_option maxHeartbeats 4000000 in
set_option maxRecDepth 100000 in
theorem mountainAdds_any (s : Int) (t : Value) (L : List Hs) (h : Hs) (_ : -9223372036854775808 ≤ s) (h1 : s ≤ 9223372036854775807) (w : World) (hT : Tabs w) (hr : RdG HE w t L) : Calls Tryd.prog 4 #[.agg #[.int .i64 s, t], HV h] w fun e w' => e = .returned (.bool true) ∧ Below w.heap.size w w' := by
  have R := hide hr
  have hcap := hr.cap'
  obtain ⟨a, cp, rfl⟩ := hr.slice
  obtain ⟨n, HM⟩ : ∃ m, Hid (L.length = m) := ⟨_, rfl⟩
  rw [HM.out] at R hcap ⊢
  have HT := hide hT
  clear hr hT
  obtain ⟨N, HNw⟩ : ∃ N, Hid (w.heap.size = N) := ⟨_, rfl⟩
  have HNT : Hid (2 ≤ N) := (show 2 ≤ N by rw [← HNw.out]; exact HT.out.size)
  go_enter Tryd.func4, Tryd.ntmps4
  go_upto_region 1 with fail
  obtain ⟨w0, hw0⟩ : ∃ z, z = (w.alloc (.cells [.int .i64 s, .slice a n cp].toArray 25 (0, 0))).alloc (.cells (By h.1).toArray 30 (0, 0)) := ⟨_, rfl⟩
  change Code.wp _ _ _ _ ((w.alloc (.cells [.int .i64 s, .slice a n cp].toArray 25 (0, 0))).alloc (.cells (By h.1).toArray 30 (0, 0)))
  rw [← hw0, HNw.out]
  obtain ⟨b0, b1, ln⟩ := boxes2 HNw hw0
  have S0 : Hid (w0.heap.size = N + 1 + 1) := (show _ = _ by rw [hw0]; simp [HNw.out])
  have B0 := hide b0
  have B1 := hide b1
  have LN := hide ln
  have c1 : w0.cell? ⟨N, 1, none⟩ = some (.slice a n cp) := b0.cell (j := 1) rfl
  clear hw0 b0 b1 ln
  by_cases h100 : 100 < n
  · have q2 : (100 : Int) < (n : Int) := by omega
    go_wp2_with fail
    refine (mlives_any w0).mono ?_
    rintro e w4 ⟨rfl, hb4⟩
    have HB4 : Hid (Below N w w4) := LN.out.trans (hb4.mono (by rw [S0.out]; omega))
    clear hb4
    go_wp2
    go_ret
    exact ⟨rfl, by rw [HNw.out]; exact HB4.out⟩
  · have q2 : ¬ (100 : Int) < (n : Int) := by omega
    go_upto_region 4 with (first
      | (refine wpList_load_mid rfl 25 _ rfl N 0 rfl [.int .i64 s, .slice a n cp] _ B0.out.range0 Tryd.underlying25 rfl Tryd.sizeP ?_)
      | (refine wpList_store_new rfl 27 _ _ rfl w0 _ #[.int .i64 s, .slice a n cp] _ rfl rfl rfl Tryd.sizeQ rfl (by simp [Value.oneCell']) ?_)
      | fail)
    try simp only [Act.put]
    obtain ⟨w1, hw1⟩ : ∃ y, y = w0.alloc (.cells [.int .i64 s, .slice a n cp].toArray 27 (0, 0)) := ⟨_, rfl⟩
    change Code.wp _ _ _ _ (w0.alloc (.cells [.int .i64 s, .slice a n cp].toArray 27 (0, 0)))
    rw [← hw1, S0.out]
    have hb1 : Below w0.heap.size w0 w1 := by rw [hw1]; exact (Below.refl _ _).alloc (Nat.le_refl _) _
    have D0 := hide (B0.out.kept hb1)
    have D1 := hide (B1.out.kept hb1)
    have D2 : Hid (Blk w1 (N + 1 + 1) 27 [.int .i64 s, .slice a n cp]) := (show Blk _ _ _ _ by rw [hw1, ← S0.out]; exact Blk.new w0 _ _)
    have L1 : Hid (Below N w w1) := LN.out.trans (hb1.mono (by rw [S0.out]; omega))
    have R1 : Hid (RdG HE w1 (.slice a n cp) L) := R.out.kept (by rw [HNw.out]; exact L1.out)
    have T1 : Hid (Tabs w1) := HT.out.kept (L1.out.mono HNT.out)
    clear hw1 hb1 c1
    have CA := add_any s (.slice a n cp) L h h1 (by rw [HM.out]; omega) w1 T1.out R1.out
    rw [HM.out] at CA
    go_wp2_with (first
      | (refine wpList_load_mid rfl 25 _ rfl N 0 rfl [.int .i64 s, .slice a n cp] _ D0.out.range0 Tryd.underlying25 rfl Tryd.sizeP ?_)
      | (refine wpList_load_mid rfl 30 _ rfl (N + 1) 0 rfl (By h.1) _ D1.out.range0 Tryd.underlying30 rfl (Tryd.sizeH h) ?_)
      | fail)
    refine CA.mono ?_
    clear CA
    rintro e w2 ⟨t2, rfl, ho2, hb2⟩
    obtain ⟨a1, c1, ht2⟩ := ho2.rd.slice
    generalize (addT s L h).length = k1 at ht2
    subst ht2
    have RX := hide ho2.rd
    have F0 := hide (D0.out.kept hb2)
    have F1 := hide (D1.out.kept hb2)
    have F2 := hide (D2.out.kept hb2)
    have L2 : Hid (Below N w w2) := L1.out.trans (hb2.mono (Nat.le_of_lt D0.out.lt))
    clear ho2 hb2
    obtain ⟨E1, HE1⟩ : ∃ E, Hid (w2.heap.size = E) := ⟨_, rfl⟩
    go_upto_region 5 with (first
      | (refine wpList_store_new rfl 25 _ _ rfl w2 _ #[.int .i64 (addS s n), .slice a1 k1 c1] _ rfl rfl rfl Tryd.sizeP rfl (by simp [Value.oneCell']) ?_)
      | fail)
    try simp only [Act.put]
    obtain ⟨w3, hw3⟩ : ∃ y, y = w2.alloc (.cells [.int .i64 (addS s n), .slice a1 k1 c1].toArray 25 (0, 0)) := ⟨_, rfl⟩
    change Code.wp _ _ _ _ (w2.alloc (.cells [.int .i64 (addS s n), .slice a1 k1 c1].toArray 25 (0, 0)))
    rw [← hw3, HE1.out]
    have hb3 : Below w2.heap.size w2 w3 := by rw [hw3]; exact (Below.refl _ _).alloc (Nat.le_refl _) _
    have G0 := hide (F0.out.kept hb3)
    have G1 := hide (F1.out.kept hb3)
    have G2 := hide (F2.out.kept hb3)
    have G3 : Hid (Blk w3 E1 25 [.int .i64 (addS s n), .slice a1 k1 c1]) := (show Blk _ _ _ _ by rw [hw3, ← HE1.out]; exact Blk.new w2 _ _)
    have RX3 := hide (RX.out.kept hb3)
    have L3 : Hid (Below N w w3) := L2.out.trans (hb3.mono (Nat.le_of_lt F0.out.lt))
    have R3 : Hid (RdG HE w3 (.slice a n cp) L) := R.out.kept (by rw [HNw.out]; exact L3.out)
    clear hw3 hb3
    have CB := nadd_any s (.slice a n cp) L h h1 (by rw [HM.out]; omega) w3 R3.out
    rw [HM.out] at CB
    go_wp2_with (first
      | (refine wpList_load_mid rfl 27 _ rfl (N + 1 + 1) 0 rfl [.int .i64 s, .slice a n cp] _ G2.out.range0 Tryd.underlying27 rfl Tryd.sizeQ ?_)
      | (refine wpList_load_mid rfl 30 _ rfl (N + 1) 0 rfl (By h.1) _ G1.out.range0 Tryd.underlying30 rfl (Tryd.sizeH h) ?_)
      | fail)
    refine CB.mono ?_
    clear CB
    rintro e w4 ⟨t4, rfl, hr4, -, hb4⟩
    obtain ⟨a2, c2, ht4⟩ := hr4.slice
    generalize (addT s L h).length = k2 at ht4
    subst ht4
    have RY := hide hr4
    have H0 := hide (G0.out.kept hb4)
    have H2 := hide (G2.out.kept hb4)
    have H3 := hide (G3.out.kept hb4)
    have RX4 := hide (RX3.out.kept hb4)
    have L4 : Hid (Below N w w4) := L3.out.trans (hb4.mono (Nat.le_of_lt G0.out.lt))
    clear hr4 hb4
    obtain ⟨E2, HE2⟩ : ∃ E, Hid (w4.heap.size = E) := ⟨_, rfl⟩
    go_upto_region 6 with (first
      | (refine wpList_store_new rfl 27 _ _ rfl w4 _ #[.int .i64 (addS s n), .slice a2 k2 c2] _ rfl rfl rfl Tryd.sizeQ rfl (by simp [Value.oneCell']) ?_)
      | fail)
    try simp only [Act.put]
    obtain ⟨w5, hw5⟩ : ∃ y, y = w4.alloc (.cells [.int .i64 (addS s n), .slice a2 k2 c2].toArray 27 (0, 0)) := ⟨_, rfl⟩
    change Code.wp _ _ _ _ (w4.alloc (.cells [.int .i64 (addS s n), .slice a2 k2 c2].toArray 27 (0, 0)))
    rw [← hw5, HE2.out]
    have hb5 : Below w4.heap.size w4 w5 := by rw [hw5]; exact (Below.refl _ _).alloc (Nat.le_refl _) _
    have BP := hide (H0.out.kept hb5)
    have BQ := hide (H2.out.kept hb5)
    have BE1 := hide (H3.out.kept hb5)
    have BE2 : Hid (Blk w5 E2 27 [.int .i64 (addS s n), .slice a2 k2 c2]) := (show Blk _ _ _ _ by rw [hw5, ← HE2.out]; exact Blk.new w4 _ _)
    have RX1 := hide (RX4.out.kept hb5)
    have RX2 := hide (RY.out.kept hb5)
    have L5 : Hid (Below N w w5) := L4.out.trans (hb5.mono (Nat.le_of_lt H0.out.lt))
    have RL : Hid (RdG HE w5 (.slice a n cp) L) := R.out.kept (by rw [HNw.out]; exact L5.out)
    have TB : Hid (Tabs w5) := HT.out.kept (L5.out.mono HNT.out)
    clear hw5 hb5
    generalize addS s n = s9 at *
    generalize addOk s n = ok at *
    obtain ⟨g, HG⟩ : ∃ g, Hid (goodB s L.length = g) := ⟨_, rfl⟩
    obtain ⟨r, HRP⟩ : ∃ r, Hid (rootP s L = r) := ⟨_, rfl⟩
    have eQ := eqA r r
    rw [decide_eq_true rfl] at eQ
    refine wp_region_inv Tryd.mixed (KS (fun i_ => match i_ with | 0 | 2 | 6 | 8 => .val (.agg #[.int .i64 s, .slice a n cp]) | 1 | 3 => .val (.bool g) | 4 | 5 | 10 | 11 | 12 | 17 | 18 | 19 | 24 | 25 | 26 | 29 | 30 | 31 | 32 | 33 | 34 => .val (.bool true) | 7 | 9 => .val (HV r) | 13 => .val (.pointer (some ⟨E1, 0, none⟩)) | 14 | 16 => .val (.int .i64 s9) | 15 => .val (.pointer (some ⟨E2, 0, none⟩)) | 20 => .val (.pointer (some ⟨E1, 1, none⟩)) | 21 => .val (.slice a1 k1 c1) | 22 => .val (.pointer (some ⟨E2, 1, none⟩)) | 23 => .val (.slice a2 k2 c2) | 27 | 28 => .val (.bool ok) | _ => .free)) 62 rfl (by decide +kernel) (KS_mono _) ?_ ?_
    · refine AllFrom.cons (fun a' w' hg hk hd => ?_) (AllFrom.cons (fun a' w' hg hk hd => ?_) (AllFrom.cons (fun a' w' hg hk hd => ?_) (AllFrom.cons (fun a' w' hg hk hd => ?_) (AllFrom.cons (fun a' w' hg hk hd => ?_) (AllFrom.cons (fun a' w' hg hk hd => ?_) (AllFrom.cons (fun a' w' hg hk hd => ?_) (AllFrom.cons (fun a' w' hg hk hd => ?_) (AllFrom.cons (fun a' w' hg hk hd => ?_) (AllFrom.cons (fun a' w' hg hk hd => ?_) (AllFrom.cons (fun a' w' hg hk hd => ?_) (AllFrom.cons (fun a' w' hg hk hd => ?_) (AllFrom.cons (fun a' w' hg hk hd => ?_) (AllFrom.cons (fun a' w' hg hk hd => ?_) (AllFrom.cons (fun a' w' hg hk hd => ?_) (AllFrom.cons (fun a' w' hg hk hd => ?_) (AllFrom.cons (fun a' w' hg hk hd => ?_) (AllFrom.cons (fun a' w' hg hk hd => ?_) (AllFrom.cons (fun a' w' hg hk hd => ?_) (AllFrom.cons (fun a' w' hg hk hd => ?_) (AllFrom.cons (fun a' w' hg hk hd => ?_) (AllFrom.cons (fun a' w' hg hk hd => ?_) (AllFrom.cons (fun a' w' hg hk hd => ?_) (AllFrom.cons (fun a' w' hg hk hd => ?_) (AllFrom.cons (fun a' w' hg hk hd => ?_) (AllFrom.cons (fun a' w' hg hk hd => ?_) (AllFrom.cons (fun a' w' hg hk hd => ?_) (AllFrom.cons (fun a' w' hg hk hd => ?_) (AllFrom.cons (fun a' w' hg hk hd => ?_) (AllFrom.cons (fun a' w' hg hk hd => ?_) (AllFrom.cons (fun a' w' hg hk hd => ?_) (AllFrom.cons (fun a' w' hg hk hd => ?_) (AllFrom.cons (fun a' w' hg hk hd => ?_) (AllFrom.cons (fun a' w' hg hk hd => ?_) (AllFrom.cons (fun a' w' hg hk hd => ?_) AllFrom.nil))))))))))))))))))))))))))))))))))
      · skip
        intro Q
        have e2 : a'.eval (.tmp 2) = .pointer (some ⟨N, 0, none⟩) := hk.at 2 (by decide +kernel)
        exact wp_load_row 25 _ rfl _ _ e2 [.int .i64 s, .slice a n cp] _ (BP.out.kept hg).range0 Tryd.underlying25 rfl Tryd.sizeP (KS_mkv rfl rfl)
      · skip
        intro Q
        have e28 : a'.eval (.tmp 28) = .agg #[.int .i64 s, .slice a n cp] := KS_val (hd.val 0 28 (by decide +kernel)) rfl
        refine wp_call 15 _ (run_enter 15 _ _ rfl (by kernel_rfl)) ?_
        simp only [List.map_toArray, List.map_nil, List.map_cons, e28]
        refine (good_any s _ L h1 _ (RL.out.kept hg)).mono ?_
        rintro e w5 ⟨rfl, hb5⟩
        exact ⟨_, rfl, KS_mkv rfl (by rw [HG.out]), hb5⟩
      · skip
        intro Q
        have e5 : a'.eval (.tmp 5) = .pointer (some ⟨N + 1 + 1, 0, none⟩) := hk.at 5 (by decide +kernel)
        exact wp_load_row 27 _ rfl _ _ e5 [.int .i64 s, .slice a n cp] _ (BQ.out.kept hg).range0 Tryd.underlying27 rfl Tryd.sizeQ (KS_mkv rfl rfl)
      · skip
        intro Q
        have e30 : a'.eval (.tmp 30) = .agg #[.int .i64 s, .slice a n cp] := KS_val (hd.val 2 30 (by decide +kernel)) rfl
        refine wp_call 16 _ (run_enter 16 _ _ rfl (by kernel_rfl)) ?_
        simp only [List.map_toArray, List.map_nil, List.map_cons, e30]
        refine (ngood_any s _ L h1 _ (RL.out.kept hg)).mono ?_
        rintro e w5 ⟨rfl, hb5⟩
        exact ⟨_, rfl, KS_mkv rfl (by rw [HG.out]), hb5⟩
      · skip
        intro Q
        have e29 : a'.eval (.tmp 29) = .bool g := KS_val (hd.val 1 29 (by decide +kernel)) rfl
        have e31 : a'.eval (.tmp 31) = .bool g := KS_val (hd.val 3 31 (by decide +kernel)) rfl
        clear hd hk
        exact wp_value (.bool true) (by simp only [execOp, e29, e31]; go_simp) (KS_mkv rfl rfl)
      · skip
        intro Q
        have e32 : a'.eval (.tmp 32) = .bool true := KS_val (hd.val 4 32 (by decide +kernel)) rfl
        exact wp_value _ (by simp only [execOp, e32]; rfl) (KS_mkv rfl rfl)
      · skip
        have eg : a'.eval (.tmp 33) = .bool true := KS_val (hd.val 5 33 (by decide +kernel)) rfl
        refine ⟨33, true, rfl, eg, fun _ Q => ?_, fun h => absurd rfl h⟩
        have e2 : a'.eval (.tmp 2) = .pointer (some ⟨N, 0, none⟩) := hk.at 2 (by decide +kernel)
        exact wp_load_row 25 _ rfl _ _ e2 [.int .i64 s, .slice a n cp] _ (BP.out.kept hg).range0 Tryd.underlying25 rfl Tryd.sizeP (KS_mkv rfl rfl)
      · skip
        have eg : a'.eval (.tmp 33) = .bool true := KS_val (hd.val 5 33 (by decide +kernel)) rfl
        refine ⟨33, true, rfl, eg, fun _ Q => ?_, fun h => absurd rfl h⟩
        have e34 : a'.eval (.tmp 34) = .agg #[.int .i64 s, .slice a n cp] := KS_val (hd.val 6 34 (by decide +kernel)) rfl
        refine wp_call 17 _ (run_enter 17 _ _ rfl (by kernel_rfl)) ?_
        simp only [List.map_toArray, List.map_nil, List.map_cons, e34]
        refine (proot_any s _ L h1 _ (TB.out.gr hg) (RL.out.kept hg)).mono ?_
        rintro e w5 ⟨rfl, hb5⟩
        exact ⟨_, rfl, KS_mkv rfl (by rw [HRP.out]), hb5⟩
      · skip
        have eg : a'.eval (.tmp 33) = .bool true := KS_val (hd.val 5 33 (by decide +kernel)) rfl
        refine ⟨33, true, rfl, eg, fun _ Q => ?_, fun h => absurd rfl h⟩
        have e5 : a'.eval (.tmp 5) = .pointer (some ⟨N + 1 + 1, 0, none⟩) := hk.at 5 (by decide +kernel)
        exact wp_load_row 27 _ rfl _ _ e5 [.int .i64 s, .slice a n cp] _ (BQ.out.kept hg).range0 Tryd.underlying27 rfl Tryd.sizeQ (KS_mkv rfl rfl)
      · skip
        have eg : a'.eval (.tmp 33) = .bool true := KS_val (hd.val 5 33 (by decide +kernel)) rfl
        refine ⟨33, true, rfl, eg, fun _ Q => ?_, fun h => absurd rfl h⟩
        have e36 : a'.eval (.tmp 36) = .agg #[.int .i64 s, .slice a n cp] := KS_val (hd.val 8 36 (by decide +kernel)) rfl
        refine wp_call 18 _ (run_enter 18 _ _ rfl (by kernel_rfl)) ?_
        simp only [List.map_toArray, List.map_nil, List.map_cons, e36]
        refine (nproot_any s _ L h1 _ (RL.out.kept hg)).mono ?_
        rintro e w5 ⟨rfl, hb5⟩
        exact ⟨_, rfl, KS_mkv rfl (by rw [HRP.out]), hb5⟩
      · skip
        have eg : a'.eval (.tmp 33) = .bool true := KS_val (hd.val 5 33 (by decide +kernel)) rfl
        refine ⟨33, true, rfl, eg, fun _ Q => ?_, fun h => absurd rfl h⟩
        have e35 : a'.eval (.tmp 35) = HV r := KS_val (hd.val 7 35 (by decide +kernel)) rfl
        have e37 : a'.eval (.tmp 37) = HV r := KS_val (hd.val 9 37 (by decide +kernel)) rfl
        clear hd hk
        exact wp_value (.bool true) (by simp only [execOp, e35, e37, HV]; go_simp) (KS_mkv rfl rfl)
      · skip
        intro Q
        have e33 : a'.eval (.tmp 33) = .bool true := KS_val (hd.val 5 33 (by decide +kernel)) rfl
        have e38 : a'.eval (.tmp 38) = .bool true := KS_val (hd.val 10 38 (by decide +kernel)) rfl
        clear hd hk
        exact wp_value (.bool true) (by simp only [execOp, e33, e38]; go_simp) (KS_mkv rfl rfl)
      · skip
        intro Q
        have e39 : a'.eval (.tmp 39) = .bool true := KS_val (hd.val 11 39 (by decide +kernel)) rfl
        exact wp_value _ (by simp only [execOp, e39]; rfl) (KS_mkv rfl rfl)
      · skip
        have eg : a'.eval (.tmp 40) = .bool true := KS_val (hd.val 12 40 (by decide +kernel)) rfl
        refine ⟨40, true, rfl, eg, fun _ Q => ?_, fun h => absurd rfl h⟩
        have e6 : a'.eval (.tmp 6) = .pointer (some ⟨E1, 0, none⟩) := hk.at 6 (by decide +kernel)
        clear hd hk
        exact wp_value (.pointer (some ⟨E1, 0, none⟩)) (by simp only [execOp, e6]; go_simp) (KS_mkv rfl rfl)
      · skip
        have eg : a'.eval (.tmp 40) = .bool true := KS_val (hd.val 12 40 (by decide +kernel)) rfl
        refine ⟨40, true, rfl, eg, fun _ Q => ?_, fun h => absurd rfl h⟩
        have e41 : a'.eval (.tmp 41) = .pointer (some ⟨E1, 0, none⟩) := KS_val (hd.val 13 41 (by decide +kernel)) rfl
        have hc := (BE1.out.kept hg).cell (j := 0) rfl
        clear hd hk
        exact wp_value (.int .i64 s9) (by simp only [execOp, e41]; go_simp) (KS_mkv rfl rfl)
      · skip
        have eg : a'.eval (.tmp 40) = .bool true := KS_val (hd.val 12 40 (by decide +kernel)) rfl
        refine ⟨40, true, rfl, eg, fun _ Q => ?_, fun h => absurd rfl h⟩
        have e8 : a'.eval (.tmp 8) = .pointer (some ⟨E2, 0, none⟩) := hk.at 8 (by decide +kernel)
        clear hd hk
        exact wp_value (.pointer (some ⟨E2, 0, none⟩)) (by simp only [execOp, e8]; go_simp) (KS_mkv rfl rfl)
      · skip
        have eg : a'.eval (.tmp 40) = .bool true := KS_val (hd.val 12 40 (by decide +kernel)) rfl
        refine ⟨40, true, rfl, eg, fun _ Q => ?_, fun h => absurd rfl h⟩
        have e43 : a'.eval (.tmp 43) = .pointer (some ⟨E2, 0, none⟩) := KS_val (hd.val 15 43 (by decide +kernel)) rfl
        have hc := (BE2.out.kept hg).cell (j := 0) rfl
        clear hd hk
        exact wp_value (.int .i64 s9) (by simp only [execOp, e43]; go_simp) (KS_mkv rfl rfl)
      · skip
        have eg : a'.eval (.tmp 40) = .bool true := KS_val (hd.val 12 40 (by decide +kernel)) rfl
        refine ⟨40, true, rfl, eg, fun _ Q => ?_, fun h => absurd rfl h⟩
        have e42 : a'.eval (.tmp 42) = .int .i64 s9 := KS_val (hd.val 14 42 (by decide +kernel)) rfl
        have e44 : a'.eval (.tmp 44) = .int .i64 s9 := KS_val (hd.val 16 44 (by decide +kernel)) rfl
        clear hd hk
        exact wp_value (.bool true) (by simp only [execOp, e42, e44]; go_simp) (KS_mkv rfl rfl)
      · skip
        intro Q
        have e40 : a'.eval (.tmp 40) = .bool true := KS_val (hd.val 12 40 (by decide +kernel)) rfl
        have e45 : a'.eval (.tmp 45) = .bool true := KS_val (hd.val 17 45 (by decide +kernel)) rfl
        clear hd hk
        exact wp_value (.bool true) (by simp only [execOp, e40, e45]; go_simp) (KS_mkv rfl rfl)
      · skip
        intro Q
        have e46 : a'.eval (.tmp 46) = .bool true := KS_val (hd.val 18 46 (by decide +kernel)) rfl
        exact wp_value _ (by simp only [execOp, e46]; rfl) (KS_mkv rfl rfl)
      · skip
        have eg : a'.eval (.tmp 47) = .bool true := KS_val (hd.val 19 47 (by decide +kernel)) rfl
        refine ⟨47, true, rfl, eg, fun _ Q => ?_, fun h => absurd rfl h⟩
        have e6 : a'.eval (.tmp 6) = .pointer (some ⟨E1, 0, none⟩) := hk.at 6 (by decide +kernel)
        clear hd hk
        exact wp_value (.pointer (some ⟨E1, 1, none⟩)) (by simp only [execOp, e6]; go_simp) (KS_mkv rfl rfl)
      · skip
        have eg : a'.eval (.tmp 47) = .bool true := KS_val (hd.val 19 47 (by decide +kernel)) rfl
        refine ⟨47, true, rfl, eg, fun _ Q => ?_, fun h => absurd rfl h⟩
        have e48 : a'.eval (.tmp 48) = .pointer (some ⟨E1, 1, none⟩) := KS_val (hd.val 20 48 (by decide +kernel)) rfl
        have hc := (BE1.out.kept hg).cell (j := 1) rfl
        clear hd hk
        exact wp_value (.slice a1 k1 c1) (by simp only [execOp, e48]; go_simp) (KS_mkv rfl rfl)
      · skip
        have eg : a'.eval (.tmp 47) = .bool true := KS_val (hd.val 19 47 (by decide +kernel)) rfl
        refine ⟨47, true, rfl, eg, fun _ Q => ?_, fun h => absurd rfl h⟩
        have e8 : a'.eval (.tmp 8) = .pointer (some ⟨E2, 0, none⟩) := hk.at 8 (by decide +kernel)
        clear hd hk
        exact wp_value (.pointer (some ⟨E2, 1, none⟩)) (by simp only [execOp, e8]; go_simp) (KS_mkv rfl rfl)
      · skip
        have eg : a'.eval (.tmp 47) = .bool true := KS_val (hd.val 19 47 (by decide +kernel)) rfl
        refine ⟨47, true, rfl, eg, fun _ Q => ?_, fun h => absurd rfl h⟩
        have e50 : a'.eval (.tmp 50) = .pointer (some ⟨E2, 1, none⟩) := KS_val (hd.val 22 50 (by decide +kernel)) rfl
        have hc := (BE2.out.kept hg).cell (j := 1) rfl
        clear hd hk
        exact wp_value (.slice a2 k2 c2) (by simp only [execOp, e50]; go_simp) (KS_mkv rfl rfl)
      · skip
        have eg : a'.eval (.tmp 47) = .bool true := KS_val (hd.val 19 47 (by decide +kernel)) rfl
        refine ⟨47, true, rfl, eg, fun _ Q => ?_, fun h => absurd rfl h⟩
        have e49 : a'.eval (.tmp 49) = .slice a1 k1 c1 := KS_val (hd.val 21 49 (by decide +kernel)) rfl
        have e51 : a'.eval (.tmp 51) = .slice a2 k2 c2 := KS_val (hd.val 23 51 (by decide +kernel)) rfl
        refine wp_call 12 _ (run_enter 12 _ _ rfl (by kernel_rfl)) ?_
        simp only [List.map_toArray, List.map_nil, List.map_cons, e49, e51]
        refine (nsame_any (RX1.out.kept hg) (RX2.out.kept hg)).mono ?_
        rintro e w5 ⟨rfl, hb5⟩
        exact ⟨_, rfl, KS_mkv rfl (by rw [decide_eq_true rfl]), hb5⟩
      · skip
        intro Q
        have e47 : a'.eval (.tmp 47) = .bool true := KS_val (hd.val 19 47 (by decide +kernel)) rfl
        have e52 : a'.eval (.tmp 52) = .bool true := KS_val (hd.val 24 52 (by decide +kernel)) rfl
        clear hd hk
        exact wp_value (.bool true) (by simp only [execOp, e47, e52]; go_simp) (KS_mkv rfl rfl)
      · skip
        intro Q
        have e53 : a'.eval (.tmp 53) = .bool true := KS_val (hd.val 25 53 (by decide +kernel)) rfl
        exact wp_value _ (by simp only [execOp, e53]; rfl) (KS_mkv rfl rfl)
      · skip
        have eg : a'.eval (.tmp 54) = .bool true := KS_val (hd.val 26 54 (by decide +kernel)) rfl
        refine ⟨54, true, rfl, eg, fun _ Q => ?_, fun h => absurd rfl h⟩
        have e7 : a'.eval (.tmp 7) = .bool ok := hk.at 7 (by decide +kernel)
        exact wp_value _ (by simp only [execOp, e7]; rfl) (KS_mkv rfl rfl)
      · skip
        have eg : a'.eval (.tmp 54) = .bool true := KS_val (hd.val 26 54 (by decide +kernel)) rfl
        refine ⟨54, true, rfl, eg, fun _ Q => ?_, fun h => absurd rfl h⟩
        have e9 : a'.eval (.tmp 9) = .bool ok := hk.at 9 (by decide +kernel)
        exact wp_value _ (by simp only [execOp, e9]; rfl) (KS_mkv rfl rfl)
      · skip
        have eg : a'.eval (.tmp 54) = .bool true := KS_val (hd.val 26 54 (by decide +kernel)) rfl
        refine ⟨54, true, rfl, eg, fun _ Q => ?_, fun h => absurd rfl h⟩
        have e55 : a'.eval (.tmp 55) = .bool ok := KS_val (hd.val 27 55 (by decide +kernel)) rfl
        have e56 : a'.eval (.tmp 56) = .bool ok := KS_val (hd.val 28 56 (by decide +kernel)) rfl
        clear hd hk
        exact wp_value (.bool true) (by simp only [execOp, e55, e56]; go_simp) (KS_mkv rfl rfl)
      · skip
        intro Q
        have e54 : a'.eval (.tmp 54) = .bool true := KS_val (hd.val 26 54 (by decide +kernel)) rfl
        have e57 : a'.eval (.tmp 57) = .bool true := KS_val (hd.val 29 57 (by decide +kernel)) rfl
        clear hd hk
        exact wp_value (.bool true) (by simp only [execOp, e54, e57]; go_simp) (KS_mkv rfl rfl)
      · skip
        intro Q
        have e58 : a'.eval (.tmp 58) = .bool true := KS_val (hd.val 30 58 (by decide +kernel)) rfl
        exact wp_value _ (by simp only [execOp, e58]; rfl) (KS_mkv rfl rfl)
      · skip
        have eg : a'.eval (.tmp 59) = .bool true := KS_val (hd.val 31 59 (by decide +kernel)) rfl
        refine ⟨59, true, rfl, eg, fun _ Q => ?_, fun h => absurd rfl h⟩
        refine wp_call 7 _ (run_enter 7 _ _ rfl (by kernel_rfl)) ?_
        simp only [List.map_toArray, List.map_nil]
        refine (mlives_any _).mono ?_
        rintro e w5 ⟨rfl, hb5⟩
        exact ⟨_, rfl, KS_mkv rfl rfl, hb5⟩
      · skip
        intro Q
        have e59 : a'.eval (.tmp 59) = .bool true := KS_val (hd.val 31 59 (by decide +kernel)) rfl
        have e60 : a'.eval (.tmp 60) = .bool true := KS_val (hd.val 32 60 (by decide +kernel)) rfl
        clear hd hk
        exact wp_value (.bool true) (by simp only [execOp, e59, e60]; go_simp) (KS_mkv rfl rfl)
      · skip
        intro Q
        have e61 : a'.eval (.tmp 61) = .bool true := KS_val (hd.val 33 61 (by decide +kernel)) rfl
        exact wp_value _ (by simp only [execOp, e61]; rfl) (KS_mkv rfl rfl)
    · intro a' w' hsz hdf hk hall hg
      have e4 : a'.eval (.tmp 4) = .bool true := KS_val (hall 34 _ 4 rfl rfl) rfl
      go_wp2
      exact bodyPost_ret (results_tmp Tryd.results4 _ _ _) hdf ⟨congrArg Ending.returned e4, by rw [HNw.out]; exact L5.out.trans (Below.mono hg (Nat.le_of_lt BP.out.lt))⟩
#print axioms mountainAdds_any
end Go.Proofs.YtinlpaabmojmkaaDoor
