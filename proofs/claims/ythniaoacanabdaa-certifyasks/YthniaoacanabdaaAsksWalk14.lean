/-
  The law CertifyAsks: what the call does.
-/
import Derived.Test.YthniaoacanabdaaCtU
import Derived.Test.YthniaoacanabdaaCtN
import Derived.Test.YthniaoacanabdaaCtJ
import Derived.Test.YthniaoacanabdaaCtZ
namespace Go.Proofs.Ythniaoacanabdaa
open Go.RowKit
set_option maxHeartbeats 4000000 in
set_option maxRecDepth 100000 in
theorem certifyAsks_any {w : World} {r : Rc} {x : Rz} (hr : ROk w r) (hbr : RB 140737488351232 r) (hbx : XB 140737488351232 x) : Calls Try.prog 3 #[.agg (RC r).toArray, .agg (XC x).toArray] w fun e w' => e = .returned (.bool true) ∧ Below w.heap.size w w' := by
  obtain ⟨N, HN⟩ : ∃ N, Hid (w.heap.size = N) := ⟨_, rfl⟩
  obtain ⟨w1, hw1⟩ : ∃ y, y = (w.alloc (.cells (RC r).toArray 25 (0, 0))).alloc (.cells (XC x).toArray 27 (0, 0)) := ⟨_, rfl⟩
  obtain ⟨b1, bx, l1⟩ := newB2 HN hw1
  have HW := hide hw1
  have RO := hide (hr.kept l1.out)
  obtain ⟨N1, HN1⟩ : ∃ N, Hid (w1.heap.size = N) := ⟨_, rfl⟩
  obtain ⟨w2, hw2⟩ : ∃ y, y = w1.alloc (.cells (RC r).toArray 25 (0, 0)) := ⟨_, rfl⟩
  obtain ⟨b2, l2⟩ := newB HN1 hw2
  have HW2 := hide hw2
  have R2 : Hid (RdR9 w2 (.slice (some ⟨N1, 0, none⟩) 1 1) [r]) := (show RdR9 _ _ _ by rw [hw2, ← HN1.out]; exact rdR_one RO.out)
  have CG := hide (lightL_any R2.out (fun y hy => by
    rw [List.mem_singleton] at hy
    subst hy
    exact hbr))
  have HBR := hide hbr
  obtain ⟨ks, HKS⟩ : ∃ k, Hid (x.k.size = k) := ⟨_, rfl⟩
  obtain ⟨ts, HTS⟩ : ∃ k, Hid (x.t.size = k) := ⟨_, rfl⟩
  have hks : ks ≤ 140737488351232 := by rw [← HKS.out]; exact hbx.k
  have hts : ts ≤ 140737488351232 := by rw [← HTS.out]; exact hbx.t
  have r1 := len_run x.k ks HKS.out
  have r2 := len_run x.t ts HTS.out
  clear hr hw1 hw2 hbr hbx
  go_enter Try.func3, Try.ntmps3
  go_upto_region 1 with fail
  change Code.wp _ _ _ _ ((w.alloc (.cells (RC r).toArray 25 (0, 0))).alloc (.cells (XC x).toArray 27 (0, 0)))
  rw [← HW.out, HN.out]
  go_wp2_with (first
    | (refine wpList_load_mid rfl 25 _ rfl N 0 rfl (RC r) _ b1.out.range0 Try.underlying25 rfl Try.size25 ?_)
    | (refine wpList_build1E (E := RE) build_rec1 rfl _ rfl r rfl ?_; show wpList _ _ _ _ _ (w1.alloc (.cells (RC r).toArray 25 (0, 0))); rw [← HW2.out, HN1.out])
    | fail)
  refine CG.out.mono ?_
  rintro e w10 ⟨hpost, hb10⟩
  have L10 : Hid (Below w1.heap.size w1 w10) := (show Below _ _ _ from l2.out.trans (hb10.mono l2.out.size))
  clear hb10 CG
  have c1 := (bx.out.kept L10.out).xk
  have c2 := (bx.out.kept L10.out).xt
  have CV := hide (lives_any w10)
  rcases hpost with rfl | ⟨rfl, hl40, hlt⟩
  · go_wp2_with fail
    refine CV.out.mono ?_
    rintro e w11 ⟨rfl, hb11⟩
    have L11 : Hid (Below w.heap.size w w11) := (show Below _ _ _ from l1.out.trans ((L10.out.trans (hb11.mono L10.out.size)).mono l1.out.size))
    clear hb11 CV
    go_wp2_with fail
    go_ret
    exact ⟨rfl, L11.out⟩
  have LT := hide (hlt r (List.mem_cons_self ..))
  have KO := hide (kok_of HBR.out (by omega) LT.out)
  clear hlt hl40
  by_cases h3 : 300 < ks + ts
  · have q3 : decide ((300 : Int) < (ks : Int) + (ts : Int)) = true := by simp; omega
    go_wp2_with fail
    refine CV.out.mono ?_
    rintro e w11 ⟨rfl, hb11⟩
    have L11 : Hid (Below w.heap.size w w11) := (show Below _ _ _ from l1.out.trans ((L10.out.trans (hb11.mono L10.out.size)).mono l1.out.size))
    clear hb11 CV
    go_wp2_with fail
    go_ret
    exact ⟨rfl, L11.out⟩
  · have q3 : decide ((300 : Int) < (ks : Int) + (ts : Int)) = false := by simp; omega
    have q4 : decide ((300 : Int) < (ks : Int)) = false := by simp; omega
    have hxk : x.k.size < 9223372036854775807 := by rw [HKS.out]; omega
    have HXK := hide hxk
    have RO10 := hide (RO.out.kept L10.out)
    have B10 := hide (b1.out.kept L10.out)
    have X10 := hide (bx.out.kept L10.out)
    have L0 : Hid (Below w.heap.size w w10) := (show Below _ _ _ from l1.out.trans (L10.out.mono l1.out.size))
    have HKS9 : Hid (∀ y ∈ r.rs, y.k.size ≤ 140737488351232) := (show _ from fun y hy => (HBR.out.rs y hy).k)
    clear hxk CV
    go_upto_region 3 with fail
    clear c1 c2 r1 r2 q3 q4
    obtain ⟨wr, HWR⟩ : ∃ z, Hid (wroteP r x.k = z) := ⟨_, rfl⟩
    obtain ⟨tc, HTC⟩ : ∃ z, Hid (touchP r x = z) := ⟨_, rfl⟩
    refine wp_region_inv Try.mixed (KS (fun i_ => match i_ with | 0 | 4 | 10 | 13 | 19 | 21 => .val (.agg (RC r).toArray) | 1 | 5 => .val (.pointer (some ⟨N + 1, 1, none⟩)) | 2 | 6 => .val (.string x.k) | 3 | 7 => .val (.bool wr) | 8 | 9 | 16 | 17 | 18 | 23 | 24 | 25 | 26 | 27 | 28 => .val (.bool true) | 11 | 14 => .val (.agg (XC x).toArray) | 12 | 15 => .val (.bool tc) | 20 => .of (fun W v_ => ∃ Q_ : List Rz, RdX W v_ Q_ ∧ Q_.map plR = (ownP r.rs).map plR) (fun _ _ _ hg ⟨Q_, h, e⟩ => ⟨Q_, h.kept hg, e⟩) | 22 => .of (fun W v_ => RdX W v_ (ownP r.rs)) (fun _ _ _ hg h => h.kept hg) | _ => .free)) 54 rfl (by decide +kernel) (KS_mono _) ?_ ?_
    · refine AllFrom.cons (fun a' w' hg hk hd => ?_) (AllFrom.cons (fun a' w' hg hk hd => ?_) (AllFrom.cons (fun a' w' hg hk hd => ?_) (AllFrom.cons (fun a' w' hg hk hd => ?_) (AllFrom.cons (fun a' w' hg hk hd => ?_) (AllFrom.cons (fun a' w' hg hk hd => ?_) (AllFrom.cons (fun a' w' hg hk hd => ?_) (AllFrom.cons (fun a' w' hg hk hd => ?_) (AllFrom.cons (fun a' w' hg hk hd => ?_) (AllFrom.cons (fun a' w' hg hk hd => ?_) (AllFrom.cons (fun a' w' hg hk hd => ?_) (AllFrom.cons (fun a' w' hg hk hd => ?_) (AllFrom.cons (fun a' w' hg hk hd => ?_) (AllFrom.cons (fun a' w' hg hk hd => ?_) (AllFrom.cons (fun a' w' hg hk hd => ?_) (AllFrom.cons (fun a' w' hg hk hd => ?_) (AllFrom.cons (fun a' w' hg hk hd => ?_) (AllFrom.cons (fun a' w' hg hk hd => ?_) (AllFrom.cons (fun a' w' hg hk hd => ?_) (AllFrom.cons (fun a' w' hg hk hd => ?_) (AllFrom.cons (fun a' w' hg hk hd => ?_) (AllFrom.cons (fun a' w' hg hk hd => ?_) (AllFrom.cons (fun a' w' hg hk hd => ?_) (AllFrom.cons (fun a' w' hg hk hd => ?_) (AllFrom.cons (fun a' w' hg hk hd => ?_) (AllFrom.cons (fun a' w' hg hk hd => ?_) (AllFrom.cons (fun a' w' hg hk hd => ?_) (AllFrom.cons (fun a' w' hg hk hd => ?_) (AllFrom.cons (fun a' w' hg hk hd => ?_) AllFrom.nil))))))))))))))))))))))))))))
      · skip
        intro Q
        have e2 : a'.eval (.tmp 2) = .pointer (some ⟨N, 0, none⟩) := hk.at 2 (by decide +kernel)
        exact wp_load_row 25 _ rfl _ _ e2 (RC r) _ ((B10.out.kept hg).range0) Try.underlying25 rfl (Try.size25) (KS_mkv rfl rfl)
      · skip
        intro Q
        have e3 : a'.eval (.tmp 3) = .pointer (some ⟨N + 1, 0, none⟩) := hk.at 3 (by decide +kernel)
        clear hd hk
        exact wp_value (.pointer (some ⟨N + 1, 1, none⟩)) (by simp only [execOp, e3]; go_simp) (KS_mkv rfl rfl)
      · skip
        intro Q
        have e27 : a'.eval (.tmp 27) = .pointer (some ⟨N + 1, 1, none⟩) := KS_val (hd.val 1 27 (by decide +kernel)) rfl
        have hc := (X10.out.kept hg).xk
        clear hd hk
        exact wp_value (.string x.k) (by simp only [execOp, e27]; go_simp) (KS_mkv rfl rfl)
      · skip
        intro Q
        have e26 : a'.eval (.tmp 26) = .agg (RC r).toArray := KS_val (hd.val 0 26 (by decide +kernel)) rfl
        have e28 : a'.eval (.tmp 28) = .string x.k := KS_val (hd.val 2 28 (by decide +kernel)) rfl
        refine wp_call 11 _ (run_enter 11 _ _ rfl (by kernel_rfl)) ?_
        simp only [List.map_toArray, List.map_nil, List.map_cons, e26, e28]
        refine (wrote_any (RO10.out.kept hg).ws x.k HXK.out).mono ?_
        rintro e w5 ⟨rfl, hb5⟩
        exact ⟨_, rfl, KS_mkv rfl (by rw [HWR.out]), hb5⟩
      · skip
        intro Q
        have e2 : a'.eval (.tmp 2) = .pointer (some ⟨N, 0, none⟩) := hk.at 2 (by decide +kernel)
        exact wp_load_row 25 _ rfl _ _ e2 (RC r) _ ((B10.out.kept hg).range0) Try.underlying25 rfl (Try.size25) (KS_mkv rfl rfl)
      · skip
        intro Q
        have e3 : a'.eval (.tmp 3) = .pointer (some ⟨N + 1, 0, none⟩) := hk.at 3 (by decide +kernel)
        clear hd hk
        exact wp_value (.pointer (some ⟨N + 1, 1, none⟩)) (by simp only [execOp, e3]; go_simp) (KS_mkv rfl rfl)
      · skip
        intro Q
        have e31 : a'.eval (.tmp 31) = .pointer (some ⟨N + 1, 1, none⟩) := KS_val (hd.val 5 31 (by decide +kernel)) rfl
        have hc := (X10.out.kept hg).xk
        clear hd hk
        exact wp_value (.string x.k) (by simp only [execOp, e31]; go_simp) (KS_mkv rfl rfl)
      · skip
        intro Q
        have e30 : a'.eval (.tmp 30) = .agg (RC r).toArray := KS_val (hd.val 4 30 (by decide +kernel)) rfl
        have e32 : a'.eval (.tmp 32) = .string x.k := KS_val (hd.val 6 32 (by decide +kernel)) rfl
        refine wp_call 12 _ (run_enter 12 _ _ rfl (by kernel_rfl)) ?_
        simp only [List.map_toArray, List.map_nil, List.map_cons, e30, e32]
        refine (wroteR_any (RO10.out.kept hg).ws x.k).mono ?_
        rintro e w5 ⟨rfl, hb5⟩
        exact ⟨_, rfl, KS_mkv rfl (by rw [HWR.out]), hb5⟩
      · skip
        intro Q
        have e29 : a'.eval (.tmp 29) = .bool wr := KS_val (hd.val 3 29 (by decide +kernel)) rfl
        have e33 : a'.eval (.tmp 33) = .bool wr := KS_val (hd.val 7 33 (by decide +kernel)) rfl
        clear hd hk
        exact wp_value (.bool true) (by simp only [execOp, e29, e33]; go_simp) (KS_mkv rfl rfl)
      · skip
        intro Q
        have e34 : a'.eval (.tmp 34) = .bool true := KS_val (hd.val 8 34 (by decide +kernel)) rfl
        exact wp_value _ (by simp only [execOp, e34]; rfl) (KS_mkv rfl rfl)
      · skip
        have eg : a'.eval (.tmp 35) = .bool true := KS_val (hd.val 9 35 (by decide +kernel)) rfl
        refine ⟨35, true, rfl, eg, fun _ Q => ?_, fun h => absurd rfl h⟩
        have e2 : a'.eval (.tmp 2) = .pointer (some ⟨N, 0, none⟩) := hk.at 2 (by decide +kernel)
        exact wp_load_row 25 _ rfl _ _ e2 (RC r) _ ((B10.out.kept hg).range0) Try.underlying25 rfl (Try.size25) (KS_mkv rfl rfl)
      · skip
        have eg : a'.eval (.tmp 35) = .bool true := KS_val (hd.val 9 35 (by decide +kernel)) rfl
        refine ⟨35, true, rfl, eg, fun _ Q => ?_, fun h => absurd rfl h⟩
        have e3 : a'.eval (.tmp 3) = .pointer (some ⟨N + 1, 0, none⟩) := hk.at 3 (by decide +kernel)
        exact wp_load_row 27 _ rfl _ _ e3 (XC x) _ ((X10.out.kept hg).range0) Try.underlying27 rfl (Try.size27) (KS_mkv rfl rfl)
      · skip
        have eg : a'.eval (.tmp 35) = .bool true := KS_val (hd.val 9 35 (by decide +kernel)) rfl
        refine ⟨35, true, rfl, eg, fun _ Q => ?_, fun h => absurd rfl h⟩
        have e36 : a'.eval (.tmp 36) = .agg (RC r).toArray := KS_val (hd.val 10 36 (by decide +kernel)) rfl
        have e37 : a'.eval (.tmp 37) = .agg (XC x).toArray := KS_val (hd.val 11 37 (by decide +kernel)) rfl
        refine wp_call 13 _ (run_enter 13 _ _ rfl (by kernel_rfl)) ?_
        simp only [List.map_toArray, List.map_nil, List.map_cons, e36, e37]
        refine (touches_any (RO10.out.kept hg).ws x HXK.out).mono ?_
        rintro e w5 ⟨rfl, hb5⟩
        exact ⟨_, rfl, KS_mkv rfl (by rw [HTC.out]), hb5⟩
      · skip
        have eg : a'.eval (.tmp 35) = .bool true := KS_val (hd.val 9 35 (by decide +kernel)) rfl
        refine ⟨35, true, rfl, eg, fun _ Q => ?_, fun h => absurd rfl h⟩
        have e2 : a'.eval (.tmp 2) = .pointer (some ⟨N, 0, none⟩) := hk.at 2 (by decide +kernel)
        exact wp_load_row 25 _ rfl _ _ e2 (RC r) _ ((B10.out.kept hg).range0) Try.underlying25 rfl (Try.size25) (KS_mkv rfl rfl)
      · skip
        have eg : a'.eval (.tmp 35) = .bool true := KS_val (hd.val 9 35 (by decide +kernel)) rfl
        refine ⟨35, true, rfl, eg, fun _ Q => ?_, fun h => absurd rfl h⟩
        have e3 : a'.eval (.tmp 3) = .pointer (some ⟨N + 1, 0, none⟩) := hk.at 3 (by decide +kernel)
        exact wp_load_row 27 _ rfl _ _ e3 (XC x) _ ((X10.out.kept hg).range0) Try.underlying27 rfl (Try.size27) (KS_mkv rfl rfl)
      · skip
        have eg : a'.eval (.tmp 35) = .bool true := KS_val (hd.val 9 35 (by decide +kernel)) rfl
        refine ⟨35, true, rfl, eg, fun _ Q => ?_, fun h => absurd rfl h⟩
        have e39 : a'.eval (.tmp 39) = .agg (RC r).toArray := KS_val (hd.val 13 39 (by decide +kernel)) rfl
        have e40 : a'.eval (.tmp 40) = .agg (XC x).toArray := KS_val (hd.val 14 40 (by decide +kernel)) rfl
        refine wp_call 14 _ (run_enter 14 _ _ rfl (by kernel_rfl)) ?_
        simp only [List.map_toArray, List.map_nil, List.map_cons, e39, e40]
        refine (touchesR_any (RO10.out.kept hg).ws x).mono ?_
        rintro e w5 ⟨rfl, hb5⟩
        exact ⟨_, rfl, KS_mkv rfl (by rw [HTC.out]), hb5⟩
      · skip
        have eg : a'.eval (.tmp 35) = .bool true := KS_val (hd.val 9 35 (by decide +kernel)) rfl
        refine ⟨35, true, rfl, eg, fun _ Q => ?_, fun h => absurd rfl h⟩
        have e38 : a'.eval (.tmp 38) = .bool tc := KS_val (hd.val 12 38 (by decide +kernel)) rfl
        have e41 : a'.eval (.tmp 41) = .bool tc := KS_val (hd.val 15 41 (by decide +kernel)) rfl
        clear hd hk
        exact wp_value (.bool true) (by simp only [execOp, e38, e41]; go_simp) (KS_mkv rfl rfl)
      · skip
        intro Q
        have e35 : a'.eval (.tmp 35) = .bool true := KS_val (hd.val 9 35 (by decide +kernel)) rfl
        have e42 : a'.eval (.tmp 42) = .bool true := KS_val (hd.val 16 42 (by decide +kernel)) rfl
        clear hd hk
        exact wp_value (.bool true) (by simp only [execOp, e35, e42]; go_simp) (KS_mkv rfl rfl)
      · skip
        intro Q
        have e43 : a'.eval (.tmp 43) = .bool true := KS_val (hd.val 17 43 (by decide +kernel)) rfl
        exact wp_value _ (by simp only [execOp, e43]; rfl) (KS_mkv rfl rfl)
      · skip
        have eg : a'.eval (.tmp 44) = .bool true := KS_val (hd.val 18 44 (by decide +kernel)) rfl
        refine ⟨44, true, rfl, eg, fun _ Q => ?_, fun h => absurd rfl h⟩
        have e2 : a'.eval (.tmp 2) = .pointer (some ⟨N, 0, none⟩) := hk.at 2 (by decide +kernel)
        exact wp_load_row 25 _ rfl _ _ e2 (RC r) _ ((B10.out.kept hg).range0) Try.underlying25 rfl (Try.size25) (KS_mkv rfl rfl)
      · skip
        have eg : a'.eval (.tmp 44) = .bool true := KS_val (hd.val 18 44 (by decide +kernel)) rfl
        refine ⟨44, true, rfl, eg, fun _ Q => ?_, fun h => absurd rfl h⟩
        have e45 : a'.eval (.tmp 45) = .agg (RC r).toArray := KS_val (hd.val 19 45 (by decide +kernel)) rfl
        refine wp_call 16 _ (run_enter 16 _ _ rfl (by kernel_rfl)) ?_
        simp only [List.map_toArray, List.map_nil, List.map_cons, e45]
        refine (ownV_any (RO10.out.kept hg) HKS9.out (by have := LT.out.rl; omega) (fun y hy => by have := LT.out.ps y hy; omega)).mono ?_
        rintro e w5 ⟨v5, Q5, rfl, o5, e5, hb5⟩
        exact ⟨_, rfl, KS_mko rfl ⟨Q5, o5.rd, e5⟩, hb5⟩
      · skip
        have eg : a'.eval (.tmp 44) = .bool true := KS_val (hd.val 18 44 (by decide +kernel)) rfl
        refine ⟨44, true, rfl, eg, fun _ Q => ?_, fun h => absurd rfl h⟩
        have e2 : a'.eval (.tmp 2) = .pointer (some ⟨N, 0, none⟩) := hk.at 2 (by decide +kernel)
        exact wp_load_row 25 _ rfl _ _ e2 (RC r) _ ((B10.out.kept hg).range0) Try.underlying25 rfl (Try.size25) (KS_mkv rfl rfl)
      · skip
        have eg : a'.eval (.tmp 44) = .bool true := KS_val (hd.val 18 44 (by decide +kernel)) rfl
        refine ⟨44, true, rfl, eg, fun _ Q => ?_, fun h => absurd rfl h⟩
        have e47 : a'.eval (.tmp 47) = .agg (RC r).toArray := KS_val (hd.val 21 47 (by decide +kernel)) rfl
        refine wp_call 17 _ (run_enter 17 _ _ rfl (by kernel_rfl)) ?_
        simp only [List.map_toArray, List.map_nil, List.map_cons, e47]
        refine (ownR_any (RO10.out.kept hg) (by have := LT.out.rl; omega)).mono ?_
        rintro e w5 ⟨v5, rfl, o5, hb5⟩
        exact ⟨_, rfl, KS_mko rfl o5, hb5⟩
      · skip
        have eg : a'.eval (.tmp 44) = .bool true := KS_val (hd.val 18 44 (by decide +kernel)) rfl
        refine ⟨44, true, rfl, eg, fun _ Q => ?_, fun h => absurd rfl h⟩
        have r46 := KS_of (hd.val 20 46 (by decide +kernel)) rfl
        have r48 := KS_of (hd.val 22 48 (by decide +kernel)) rfl
        refine wp_call 15 _ (run_enter 15 _ _ rfl (by kernel_rfl)) ?_
        simp only [List.map_toArray, List.map_nil, List.map_cons]
        obtain ⟨Q_, h46, e46_⟩ := r46
        refine (sameX_any h46 r48 true ⟨fun _ => e46_, fun _ => rfl⟩).mono ?_
        rintro e w5 ⟨rfl, hb5⟩
        exact ⟨_, rfl, KS_mkv rfl rfl, hb5⟩
      · skip
        intro Q
        have e44 : a'.eval (.tmp 44) = .bool true := KS_val (hd.val 18 44 (by decide +kernel)) rfl
        have e49 : a'.eval (.tmp 49) = .bool true := KS_val (hd.val 23 49 (by decide +kernel)) rfl
        clear hd hk
        exact wp_value (.bool true) (by simp only [execOp, e44, e49]; go_simp) (KS_mkv rfl rfl)
      · skip
        intro Q
        have e50 : a'.eval (.tmp 50) = .bool true := KS_val (hd.val 24 50 (by decide +kernel)) rfl
        exact wp_value _ (by simp only [execOp, e50]; rfl) (KS_mkv rfl rfl)
      · skip
        have eg : a'.eval (.tmp 51) = .bool true := KS_val (hd.val 25 51 (by decide +kernel)) rfl
        refine ⟨51, true, rfl, eg, fun _ Q => ?_, fun h => absurd rfl h⟩
        refine wp_call 10 _ (run_enter 10 _ _ rfl (by kernel_rfl)) ?_
        simp only [List.map_toArray, List.map_nil]
        refine (lives_any _).mono ?_
        rintro e w5 ⟨rfl, hb5⟩
        exact ⟨_, rfl, KS_mkv rfl rfl, hb5⟩
      · skip
        intro Q
        have e51 : a'.eval (.tmp 51) = .bool true := KS_val (hd.val 25 51 (by decide +kernel)) rfl
        have e52 : a'.eval (.tmp 52) = .bool true := KS_val (hd.val 26 52 (by decide +kernel)) rfl
        clear hd hk
        exact wp_value (.bool true) (by simp only [execOp, e51, e52]; go_simp) (KS_mkv rfl rfl)
      · skip
        intro Q
        have e53 : a'.eval (.tmp 53) = .bool true := KS_val (hd.val 27 53 (by decide +kernel)) rfl
        exact wp_value _ (by simp only [execOp, e53]; rfl) (KS_mkv rfl rfl)
    · intro a' w' hsz hdf hk hall hg
      have L19 : Hid (Below w.heap.size w w') := (show _ from L0.out.trans (hg.mono L0.out.size))
      have e26 : a'.eval (.tmp 26) = .agg (RC r).toArray := KS_val (hall 0 _ 26 rfl rfl) rfl
      have e27 : a'.eval (.tmp 27) = .pointer (some ⟨N + 1, 1, none⟩) := KS_val (hall 1 _ 27 rfl rfl) rfl
      have e28 : a'.eval (.tmp 28) = .string x.k := KS_val (hall 2 _ 28 rfl rfl) rfl
      have e29 : a'.eval (.tmp 29) = .bool wr := KS_val (hall 3 _ 29 rfl rfl) rfl
      have e30 : a'.eval (.tmp 30) = .agg (RC r).toArray := KS_val (hall 4 _ 30 rfl rfl) rfl
      have e31 : a'.eval (.tmp 31) = .pointer (some ⟨N + 1, 1, none⟩) := KS_val (hall 5 _ 31 rfl rfl) rfl
      have e32 : a'.eval (.tmp 32) = .string x.k := KS_val (hall 6 _ 32 rfl rfl) rfl
      have e33 : a'.eval (.tmp 33) = .bool wr := KS_val (hall 7 _ 33 rfl rfl) rfl
      have e34 : a'.eval (.tmp 34) = .bool true := KS_val (hall 8 _ 34 rfl rfl) rfl
      have e35 : a'.eval (.tmp 35) = .bool true := KS_val (hall 9 _ 35 rfl rfl) rfl
      have e36 : a'.eval (.tmp 36) = .agg (RC r).toArray := KS_val (hall 10 _ 36 rfl rfl) rfl
      have e37 : a'.eval (.tmp 37) = .agg (XC x).toArray := KS_val (hall 11 _ 37 rfl rfl) rfl
      have e38 : a'.eval (.tmp 38) = .bool tc := KS_val (hall 12 _ 38 rfl rfl) rfl
      have e39 : a'.eval (.tmp 39) = .agg (RC r).toArray := KS_val (hall 13 _ 39 rfl rfl) rfl
      have e40 : a'.eval (.tmp 40) = .agg (XC x).toArray := KS_val (hall 14 _ 40 rfl rfl) rfl
      have e41 : a'.eval (.tmp 41) = .bool tc := KS_val (hall 15 _ 41 rfl rfl) rfl
      have e42 : a'.eval (.tmp 42) = .bool true := KS_val (hall 16 _ 42 rfl rfl) rfl
      have e43 : a'.eval (.tmp 43) = .bool true := KS_val (hall 17 _ 43 rfl rfl) rfl
      have e44 : a'.eval (.tmp 44) = .bool true := KS_val (hall 18 _ 44 rfl rfl) rfl
      have e45 : a'.eval (.tmp 45) = .agg (RC r).toArray := KS_val (hall 19 _ 45 rfl rfl) rfl
      have r46 : (fun W v_ => ∃ Q_ : List Rz, RdX W v_ Q_ ∧ Q_.map plR = (ownP r.rs).map plR) w' (a'.eval (.tmp 46)) := KS_of (hall 20 _ 46 rfl rfl) rfl
      obtain ⟨x46, hx46⟩ : ∃ v, a'.eval (.tmp 46) = v := ⟨_, rfl⟩
      rw [hx46] at r46
      have e47 : a'.eval (.tmp 47) = .agg (RC r).toArray := KS_val (hall 21 _ 47 rfl rfl) rfl
      have r48 : (fun W v_ => RdX W v_ (ownP r.rs)) w' (a'.eval (.tmp 48)) := KS_of (hall 22 _ 48 rfl rfl) rfl
      obtain ⟨x48, hx48⟩ : ∃ v, a'.eval (.tmp 48) = v := ⟨_, rfl⟩
      rw [hx48] at r48
      have e49 : a'.eval (.tmp 49) = .bool true := KS_val (hall 23 _ 49 rfl rfl) rfl
      have e50 : a'.eval (.tmp 50) = .bool true := KS_val (hall 24 _ 50 rfl rfl) rfl
      have e51 : a'.eval (.tmp 51) = .bool true := KS_val (hall 25 _ 51 rfl rfl) rfl
      have e52 : a'.eval (.tmp 52) = .bool true := KS_val (hall 26 _ 52 rfl rfl) rfl
      have e53 : a'.eval (.tmp 53) = .bool true := KS_val (hall 27 _ 53 rfl rfl) rfl
      have e4 : a'.eval (.tmp 4) = .bool true := KS_val (hall 28 _ 4 rfl rfl) rfl
      have ha := act_puts 54 rfl hsz hdf hk [26, 27, 28, 29, 30, 31, 32, 33, 34, 35, 36, 37, 38, 39, 40, 41, 42, 43, 44, 45, 46, 47, 48, 49, 50, 51, 52, 53, 4] (by decide +kernel)
      simp only [puts, List.foldl_cons, List.foldl_nil, e26, e27, e28, e29, e30, e31, e32, e33, e34, e35, e36, e37, e38, e39, e40, e41, e42, e43, e44, e45, hx46, e47, hx48, e49, e50, e51, e52, e53, e4] at ha
      simp only [Act.put, List.setIfInBounds_toArray, List.set_cons_succ, List.set_cons_zero] at ha
      clear hall hk hsz hdf e26 e27 e28 e29 e30 e31 e32 e33 e34 e35 e36 e37 e38 e39 e40 e41 e42 e43 e44 e45 hx46 e47 hx48 e49 e50 e51 e52 e53 e4
      subst ha
      go_wp2_with fail
      go_ret
      exact ⟨rfl, L19.out⟩
#print axioms certifyAsks_any
end Go.Proofs.Ythniaoacanabdaa
