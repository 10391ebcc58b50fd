/-
  The law CertifyMays: what the call does.
-/
import Derived.Test.YthniaoacanabdaaCtU
namespace Go.Proofs.Ythniaoacanabdaa
open Go.RowKit
set_option maxHeartbeats 4000000 in
set_option maxRecDepth 100000 in
theorem certifyMays_any {w : World} {r : Rc} {vl : Value} {L : List Rc} (hr : ROk w r) (hbr : RB 140737488351232 r) (hl : RdR9 w vl L) (hll : L.length * 72 ≤ 140737488351232) (hbl : ∀ x ∈ L, RB 140737488351232 x) : Calls Try.prog 4 #[.agg (RC r).toArray, vl] w fun e w' => e = .returned (.bool true) ∧ Below w.heap.size w w' := by
  obtain ⟨la, lc, rfl⟩ := hl.rd.slice
  obtain ⟨ln, HLN⟩ : ∃ n, Hid (L.length = n) := ⟨_, rfl⟩
  rw [HLN.out] at hl ⊢
  obtain ⟨N, HN⟩ : ∃ N, Hid (w.heap.size = N) := ⟨_, rfl⟩
  obtain ⟨w1, hw1⟩ : ∃ y, y = w.alloc (.cells (RC r).toArray 25 (0, 0)) := ⟨_, rfl⟩
  obtain ⟨b1, l1⟩ := newB HN hw1
  have HW := hide hw1
  have RO := hide (hr.kept l1.out)
  have RL := hide (hl.kept l1.out)
  obtain ⟨N1, HN1⟩ : ∃ N, Hid (w1.heap.size = N) := ⟨_, rfl⟩
  obtain ⟨w2, hw2⟩ : ∃ y, y = w1.alloc (.cells (RC r).toArray 25 (0, 0)) := ⟨_, rfl⟩
  obtain ⟨b2, l2⟩ := newB HN1 hw2
  have HW2 := hide hw2
  have O2 : Hid (OwnG RE w2 N1 25 (.slice (some ⟨N1, 0, none⟩) 1 1) [r]) := (show OwnG _ _ _ _ _ _ by rw [hw2, ← HN1.out]; exact ownE_one (E := RE) w1 _ 25 r (Nat.le_refl _))
  have RL2 := hide (RL.out.kept l2.out)
  have HL9 : Hid (([r].length + L.length) * 72 ≤ 140737488355328) := (show _ ≤ _ by rw [List.length_singleton]; omega)
  have HLM : Hid ([r].length + L.length ≤ maxLen) := (show _ ≤ _ by rw [List.length_singleton]; unfold maxLen; omega)
  have HBR := hide hbr
  have HBL := hide hbl
  have hN12 : Hid (N1 ≤ w2.heap.size) := (show _ ≤ _ from Nat.le_of_lt b2.out.lt)
  clear hr hl hw1 hw2 hbr hbl hll
  go_enter Try.func4, Try.ntmps4
  go_upto_region 1 with fail
  change Code.wp _ _ _ _ (w.alloc (.cells (RC r).toArray 25 (0, 0)))
  rw [← HW.out, HN.out]
  go_wp2_with (first
    | (refine wpList_load_mid rfl 25 _ rfl N 0 rfl (RC r) _ b1.out.range0 Try.underlying25 rfl Try.size25 ?_)
    | (refine wpList_build1E (E := RE) build_rec1 rfl _ rfl r rfl ?_; show wpList _ _ _ _ _ (w1.alloc (.cells (RC r).toArray 25 (0, 0))); rw [← HW2.out, HN1.out])
    | (refine wpList_append_B (E := RE) Try.underlying34 infoR rfl (.tmp 6) (.tmp 7) rfl N1 (.slice (some ⟨N1, 0, none⟩) 1 1) [r] rfl O2.out _ L rfl RL2.out.rd HL9.out HLM.out hN12.out ?_; intro v9 w9 o9 g9)
    | fail)
  obtain ⟨p9, c9, hv9⟩ := o9.form
  obtain ⟨n9, hn9⟩ : ∃ z, ([r] ++ L).length = z := ⟨_, rfl⟩
  rw [hn9] at hv9
  subst hv9
  have L9 : Hid (Below w1.heap.size w1 w9) := (show Below _ _ _ from l2.out.trans ((Chg.of_grown (F := fun k => k = N1) g9 (fun k e _ => by simpa [Value.ownBlock] using e.symm)).below l2.out.size (fun k hk e => by have := HN1.out; omega)))
  have CG := hide (lightL_any (rdR_cons RO.out o9 L9.out RL.out.rs) (fun x hx => by
    rcases List.mem_cons.1 hx with rfl | hx
    · exact HBR.out
    · exact HBL.out x hx))
  clear o9 g9 hn9
  refine CG.out.mono ?_
  rintro e w10 ⟨hpost, hb10⟩
  have L10 : Hid (Below w1.heap.size w1 w10) := (show Below _ _ _ from L9.out.trans (hb10.mono L9.out.size))
  clear hb10 CG
  rcases hpost with rfl | ⟨rfl, hl40, hlt⟩
  · have CV := hide (lives_any w10)
    go_wp2_with fail
    refine CV.out.mono ?_
    rintro e w11 ⟨rfl, hb11⟩
    have L11 : Hid (Below w.heap.size w w11) := (show Below _ _ _ from l1.out.trans ((L10.out.trans (hb11.mono L10.out.size)).mono l1.out.size))
    clear hb11 CV
    go_wp2_with fail
    go_ret
    exact ⟨rfl, L11.out⟩
  · have LT := hide (hlt r (List.mem_cons_self ..))
    have KO := hide (kok_of HBR.out (by omega) LT.out)
    have LTL : Hid (∀ x ∈ L, LtR x) := (show _ from fun x hx => hlt x (List.mem_cons_of_mem _ hx))
    have hl40' : ln ≤ 40 := by rw [← HLN.out]; simp at hl40; omega
    have RO10 := hide (RO.out.kept L10.out)
    have RL10 := hide (RL.out.kept L10.out)
    have B10 := hide (b1.out.kept L10.out)
    have L0 : Hid (Below w.heap.size w w10) := (show Below _ _ _ from l1.out.trans (L10.out.mono l1.out.size))
    clear hlt hl40 RL2 O2 HL9 HLM b2
    obtain ⟨cl, HCL⟩ : ∃ z, Hid (clashP r L = z) := ⟨_, rfl⟩
    obtain ⟨st, HST⟩ : ∃ z, Hid (staleP r L = z) := ⟨_, rfl⟩
    obtain ⟨my, HMY⟩ : ∃ z : Int, Hid ((if mayP r L = true then 10 else 0) = z) := ⟨_, rfl⟩
    go_upto_region 3 with fail
    refine wp_region_inv Try.mixed (KS (fun i_ => match i_ with | 0 | 3 | 8 | 11 | 17 | 20 => .val (.agg (RC r).toArray) | 1 | 4 | 9 | 12 | 18 | 21 => .val (.slice la ln lc) | 2 | 5 => .val (.int .i64 cl) | 6 | 7 | 14 | 15 | 16 | 23 | 24 | 25 | 26 | 27 | 28 => .val (.bool true) | 10 | 13 => .val (.int .i64 st) | 19 | 22 => .val (.int .i64 my) | _ => .free)) 40 rfl (by decide +kernel) (KS_mono _) ?_ ?_
    · refine AllFrom.cons (fun a' w' hg hk hd => ?_) (AllFrom.cons (fun a' w' hg hk hd => ?_) (AllFrom.cons (fun a' w' hg hk hd => ?_) (AllFrom.cons (fun a' w' hg hk hd => ?_) (AllFrom.cons (fun a' w' hg hk hd => ?_) (AllFrom.cons (fun a' w' hg hk hd => ?_) (AllFrom.cons (fun a' w' hg hk hd => ?_) (AllFrom.cons (fun a' w' hg hk hd => ?_) (AllFrom.cons (fun a' w' hg hk hd => ?_) (AllFrom.cons (fun a' w' hg hk hd => ?_) (AllFrom.cons (fun a' w' hg hk hd => ?_) (AllFrom.cons (fun a' w' hg hk hd => ?_) (AllFrom.cons (fun a' w' hg hk hd => ?_) (AllFrom.cons (fun a' w' hg hk hd => ?_) (AllFrom.cons (fun a' w' hg hk hd => ?_) (AllFrom.cons (fun a' w' hg hk hd => ?_) (AllFrom.cons (fun a' w' hg hk hd => ?_) (AllFrom.cons (fun a' w' hg hk hd => ?_) (AllFrom.cons (fun a' w' hg hk hd => ?_) (AllFrom.cons (fun a' w' hg hk hd => ?_) (AllFrom.cons (fun a' w' hg hk hd => ?_) (AllFrom.cons (fun a' w' hg hk hd => ?_) (AllFrom.cons (fun a' w' hg hk hd => ?_) (AllFrom.cons (fun a' w' hg hk hd => ?_) (AllFrom.cons (fun a' w' hg hk hd => ?_) (AllFrom.cons (fun a' w' hg hk hd => ?_) (AllFrom.cons (fun a' w' hg hk hd => ?_) (AllFrom.cons (fun a' w' hg hk hd => ?_) (AllFrom.cons (fun a' w' hg hk hd => ?_) AllFrom.nil))))))))))))))))))))))))))))
      · skip
        intro Q
        have e2 : a'.eval (.tmp 2) = .pointer (some ⟨N, 0, none⟩) := hk.at 2 (by decide +kernel)
        exact wp_load_row 25 _ rfl _ _ e2 (RC r) _ ((B10.out.kept hg).range0) Try.underlying25 rfl (Try.size25) (KS_mkv rfl rfl)
      · skip
        intro Q
        have e1 : a'.eval (.tmp 1) = .slice la ln lc := hk.at 1 (by decide +kernel)
        exact wp_value _ (by simp only [execOp, e1]; rfl) (KS_mkv rfl rfl)
      · skip
        intro Q
        have e12 : a'.eval (.tmp 12) = .agg (RC r).toArray := KS_val (hd.val 0 12 (by decide +kernel)) rfl
        have e13 : a'.eval (.tmp 13) = .slice la ln lc := KS_val (hd.val 1 13 (by decide +kernel)) rfl
        refine wp_call 18 _ (run_enter 18 _ _ rfl (by kernel_rfl)) ?_
        simp only [List.map_toArray, List.map_nil, List.map_cons, e12, e13]
        refine (clashV_any (RO10.out.kept hg) KO.out (RL10.out.kept hg)).mono ?_
        rintro e w5 ⟨rfl, hb5⟩
        exact ⟨_, rfl, KS_mkv rfl (by rw [HCL.out]), hb5⟩
      · skip
        intro Q
        have e2 : a'.eval (.tmp 2) = .pointer (some ⟨N, 0, none⟩) := hk.at 2 (by decide +kernel)
        exact wp_load_row 25 _ rfl _ _ e2 (RC r) _ ((B10.out.kept hg).range0) Try.underlying25 rfl (Try.size25) (KS_mkv rfl rfl)
      · skip
        intro Q
        have e1 : a'.eval (.tmp 1) = .slice la ln lc := hk.at 1 (by decide +kernel)
        exact wp_value _ (by simp only [execOp, e1]; rfl) (KS_mkv rfl rfl)
      · skip
        intro Q
        have e15 : a'.eval (.tmp 15) = .agg (RC r).toArray := KS_val (hd.val 3 15 (by decide +kernel)) rfl
        have e16 : a'.eval (.tmp 16) = .slice la ln lc := KS_val (hd.val 4 16 (by decide +kernel)) rfl
        refine wp_call 19 _ (run_enter 19 _ _ rfl (by kernel_rfl)) ?_
        simp only [List.map_toArray, List.map_nil, List.map_cons, e15, e16]
        refine (clashR_any (RO10.out.kept hg) (RL10.out.kept hg)).mono ?_
        rintro e w5 ⟨rfl, hb5⟩
        exact ⟨_, rfl, KS_mkv rfl (by rw [HCL.out]), hb5⟩
      · skip
        intro Q
        have e14 : a'.eval (.tmp 14) = .int .i64 cl := KS_val (hd.val 2 14 (by decide +kernel)) rfl
        have e17 : a'.eval (.tmp 17) = .int .i64 cl := KS_val (hd.val 5 17 (by decide +kernel)) rfl
        clear hd hk
        exact wp_value (.bool true) (by simp only [execOp, e14, e17]; go_simp) (KS_mkv rfl rfl)
      · skip
        intro Q
        have e18 : a'.eval (.tmp 18) = .bool true := KS_val (hd.val 6 18 (by decide +kernel)) rfl
        exact wp_value _ (by simp only [execOp, e18]; rfl) (KS_mkv rfl rfl)
      · skip
        have eg : a'.eval (.tmp 19) = .bool true := KS_val (hd.val 7 19 (by decide +kernel)) rfl
        refine ⟨19, true, rfl, eg, fun _ Q => ?_, fun h => absurd rfl h⟩
        have e2 : a'.eval (.tmp 2) = .pointer (some ⟨N, 0, none⟩) := hk.at 2 (by decide +kernel)
        exact wp_load_row 25 _ rfl _ _ e2 (RC r) _ ((B10.out.kept hg).range0) Try.underlying25 rfl (Try.size25) (KS_mkv rfl rfl)
      · skip
        have eg : a'.eval (.tmp 19) = .bool true := KS_val (hd.val 7 19 (by decide +kernel)) rfl
        refine ⟨19, true, rfl, eg, fun _ Q => ?_, fun h => absurd rfl h⟩
        have e1 : a'.eval (.tmp 1) = .slice la ln lc := hk.at 1 (by decide +kernel)
        exact wp_value _ (by simp only [execOp, e1]; rfl) (KS_mkv rfl rfl)
      · skip
        have eg : a'.eval (.tmp 19) = .bool true := KS_val (hd.val 7 19 (by decide +kernel)) rfl
        refine ⟨19, true, rfl, eg, fun _ Q => ?_, fun h => absurd rfl h⟩
        have e20 : a'.eval (.tmp 20) = .agg (RC r).toArray := KS_val (hd.val 8 20 (by decide +kernel)) rfl
        have e21 : a'.eval (.tmp 21) = .slice la ln lc := KS_val (hd.val 9 21 (by decide +kernel)) rfl
        refine wp_call 20 _ (run_enter 20 _ _ rfl (by kernel_rfl)) ?_
        simp only [List.map_toArray, List.map_nil, List.map_cons, e20, e21]
        refine (staleV_any (RO10.out.kept hg) KO.out (RL10.out.kept hg)).mono ?_
        rintro e w5 ⟨rfl, hb5⟩
        exact ⟨_, rfl, KS_mkv rfl (by rw [HST.out]), hb5⟩
      · skip
        have eg : a'.eval (.tmp 19) = .bool true := KS_val (hd.val 7 19 (by decide +kernel)) rfl
        refine ⟨19, true, rfl, eg, fun _ Q => ?_, fun h => absurd rfl h⟩
        have e2 : a'.eval (.tmp 2) = .pointer (some ⟨N, 0, none⟩) := hk.at 2 (by decide +kernel)
        exact wp_load_row 25 _ rfl _ _ e2 (RC r) _ ((B10.out.kept hg).range0) Try.underlying25 rfl (Try.size25) (KS_mkv rfl rfl)
      · skip
        have eg : a'.eval (.tmp 19) = .bool true := KS_val (hd.val 7 19 (by decide +kernel)) rfl
        refine ⟨19, true, rfl, eg, fun _ Q => ?_, fun h => absurd rfl h⟩
        have e1 : a'.eval (.tmp 1) = .slice la ln lc := hk.at 1 (by decide +kernel)
        exact wp_value _ (by simp only [execOp, e1]; rfl) (KS_mkv rfl rfl)
      · skip
        have eg : a'.eval (.tmp 19) = .bool true := KS_val (hd.val 7 19 (by decide +kernel)) rfl
        refine ⟨19, true, rfl, eg, fun _ Q => ?_, fun h => absurd rfl h⟩
        have e23 : a'.eval (.tmp 23) = .agg (RC r).toArray := KS_val (hd.val 11 23 (by decide +kernel)) rfl
        have e24 : a'.eval (.tmp 24) = .slice la ln lc := KS_val (hd.val 12 24 (by decide +kernel)) rfl
        refine wp_call 21 _ (run_enter 21 _ _ rfl (by kernel_rfl)) ?_
        simp only [List.map_toArray, List.map_nil, List.map_cons, e23, e24]
        refine (staleR_any (RO10.out.kept hg) (RL10.out.kept hg)).mono ?_
        rintro e w5 ⟨rfl, hb5⟩
        exact ⟨_, rfl, KS_mkv rfl (by rw [HST.out]), hb5⟩
      · skip
        have eg : a'.eval (.tmp 19) = .bool true := KS_val (hd.val 7 19 (by decide +kernel)) rfl
        refine ⟨19, true, rfl, eg, fun _ Q => ?_, fun h => absurd rfl h⟩
        have e22 : a'.eval (.tmp 22) = .int .i64 st := KS_val (hd.val 10 22 (by decide +kernel)) rfl
        have e25 : a'.eval (.tmp 25) = .int .i64 st := KS_val (hd.val 13 25 (by decide +kernel)) rfl
        clear hd hk
        exact wp_value (.bool true) (by simp only [execOp, e22, e25]; go_simp) (KS_mkv rfl rfl)
      · skip
        intro Q
        have e19 : a'.eval (.tmp 19) = .bool true := KS_val (hd.val 7 19 (by decide +kernel)) rfl
        have e26 : a'.eval (.tmp 26) = .bool true := KS_val (hd.val 14 26 (by decide +kernel)) rfl
        clear hd hk
        exact wp_value (.bool true) (by simp only [execOp, e19, e26]; go_simp) (KS_mkv rfl rfl)
      · skip
        intro Q
        have e27 : a'.eval (.tmp 27) = .bool true := KS_val (hd.val 15 27 (by decide +kernel)) rfl
        exact wp_value _ (by simp only [execOp, e27]; rfl) (KS_mkv rfl rfl)
      · skip
        have eg : a'.eval (.tmp 28) = .bool true := KS_val (hd.val 16 28 (by decide +kernel)) rfl
        refine ⟨28, true, rfl, eg, fun _ Q => ?_, fun h => absurd rfl h⟩
        have e2 : a'.eval (.tmp 2) = .pointer (some ⟨N, 0, none⟩) := hk.at 2 (by decide +kernel)
        exact wp_load_row 25 _ rfl _ _ e2 (RC r) _ ((B10.out.kept hg).range0) Try.underlying25 rfl (Try.size25) (KS_mkv rfl rfl)
      · skip
        have eg : a'.eval (.tmp 28) = .bool true := KS_val (hd.val 16 28 (by decide +kernel)) rfl
        refine ⟨28, true, rfl, eg, fun _ Q => ?_, fun h => absurd rfl h⟩
        have e1 : a'.eval (.tmp 1) = .slice la ln lc := hk.at 1 (by decide +kernel)
        exact wp_value _ (by simp only [execOp, e1]; rfl) (KS_mkv rfl rfl)
      · skip
        have eg : a'.eval (.tmp 28) = .bool true := KS_val (hd.val 16 28 (by decide +kernel)) rfl
        refine ⟨28, true, rfl, eg, fun _ Q => ?_, fun h => absurd rfl h⟩
        have e29 : a'.eval (.tmp 29) = .agg (RC r).toArray := KS_val (hd.val 17 29 (by decide +kernel)) rfl
        have e30 : a'.eval (.tmp 30) = .slice la ln lc := KS_val (hd.val 18 30 (by decide +kernel)) rfl
        refine wp_call 22 _ (run_enter 22 _ _ rfl (by kernel_rfl)) ?_
        simp only [List.map_toArray, List.map_nil, List.map_cons, e29, e30]
        refine (mayV_any (RO10.out.kept hg) KO.out (RL10.out.kept hg)).mono ?_
        rintro e w5 ⟨rfl, hb5⟩
        exact ⟨_, rfl, KS_mkv rfl (by rw [HMY.out]), hb5⟩
      · skip
        have eg : a'.eval (.tmp 28) = .bool true := KS_val (hd.val 16 28 (by decide +kernel)) rfl
        refine ⟨28, true, rfl, eg, fun _ Q => ?_, fun h => absurd rfl h⟩
        have e2 : a'.eval (.tmp 2) = .pointer (some ⟨N, 0, none⟩) := hk.at 2 (by decide +kernel)
        exact wp_load_row 25 _ rfl _ _ e2 (RC r) _ ((B10.out.kept hg).range0) Try.underlying25 rfl (Try.size25) (KS_mkv rfl rfl)
      · skip
        have eg : a'.eval (.tmp 28) = .bool true := KS_val (hd.val 16 28 (by decide +kernel)) rfl
        refine ⟨28, true, rfl, eg, fun _ Q => ?_, fun h => absurd rfl h⟩
        have e1 : a'.eval (.tmp 1) = .slice la ln lc := hk.at 1 (by decide +kernel)
        exact wp_value _ (by simp only [execOp, e1]; rfl) (KS_mkv rfl rfl)
      · skip
        have eg : a'.eval (.tmp 28) = .bool true := KS_val (hd.val 16 28 (by decide +kernel)) rfl
        refine ⟨28, true, rfl, eg, fun _ Q => ?_, fun h => absurd rfl h⟩
        have e32 : a'.eval (.tmp 32) = .agg (RC r).toArray := KS_val (hd.val 20 32 (by decide +kernel)) rfl
        have e33 : a'.eval (.tmp 33) = .slice la ln lc := KS_val (hd.val 21 33 (by decide +kernel)) rfl
        refine wp_call 23 _ (run_enter 23 _ _ rfl (by kernel_rfl)) ?_
        simp only [List.map_toArray, List.map_nil, List.map_cons, e32, e33]
        refine (mayR_any (RO10.out.kept hg) (RL10.out.kept hg)).mono ?_
        rintro e w5 ⟨rfl, hb5⟩
        exact ⟨_, rfl, KS_mkv rfl (by rw [HMY.out]), hb5⟩
      · skip
        have eg : a'.eval (.tmp 28) = .bool true := KS_val (hd.val 16 28 (by decide +kernel)) rfl
        refine ⟨28, true, rfl, eg, fun _ Q => ?_, fun h => absurd rfl h⟩
        have e31 : a'.eval (.tmp 31) = .int .i64 my := KS_val (hd.val 19 31 (by decide +kernel)) rfl
        have e34 : a'.eval (.tmp 34) = .int .i64 my := KS_val (hd.val 22 34 (by decide +kernel)) rfl
        clear hd hk
        exact wp_value (.bool true) (by simp only [execOp, e31, e34]; go_simp) (KS_mkv rfl rfl)
      · skip
        intro Q
        have e28 : a'.eval (.tmp 28) = .bool true := KS_val (hd.val 16 28 (by decide +kernel)) rfl
        have e35 : a'.eval (.tmp 35) = .bool true := KS_val (hd.val 23 35 (by decide +kernel)) rfl
        clear hd hk
        exact wp_value (.bool true) (by simp only [execOp, e28, e35]; go_simp) (KS_mkv rfl rfl)
      · skip
        intro Q
        have e36 : a'.eval (.tmp 36) = .bool true := KS_val (hd.val 24 36 (by decide +kernel)) rfl
        exact wp_value _ (by simp only [execOp, e36]; rfl) (KS_mkv rfl rfl)
      · skip
        have eg : a'.eval (.tmp 37) = .bool true := KS_val (hd.val 25 37 (by decide +kernel)) rfl
        refine ⟨37, true, rfl, eg, fun _ Q => ?_, fun h => absurd rfl h⟩
        refine wp_call 10 _ (run_enter 10 _ _ rfl (by kernel_rfl)) ?_
        simp only [List.map_toArray, List.map_nil]
        refine (lives_any _).mono ?_
        rintro e w5 ⟨rfl, hb5⟩
        exact ⟨_, rfl, KS_mkv rfl rfl, hb5⟩
      · skip
        intro Q
        have e37 : a'.eval (.tmp 37) = .bool true := KS_val (hd.val 25 37 (by decide +kernel)) rfl
        have e38 : a'.eval (.tmp 38) = .bool true := KS_val (hd.val 26 38 (by decide +kernel)) rfl
        clear hd hk
        exact wp_value (.bool true) (by simp only [execOp, e37, e38]; go_simp) (KS_mkv rfl rfl)
      · skip
        intro Q
        have e39 : a'.eval (.tmp 39) = .bool true := KS_val (hd.val 27 39 (by decide +kernel)) rfl
        exact wp_value _ (by simp only [execOp, e39]; rfl) (KS_mkv rfl rfl)
    · intro a' w' hsz hdf hk hall hg
      have L19 : Hid (Below w.heap.size w w') := (show _ from L0.out.trans (hg.mono L0.out.size))
      have e12 : a'.eval (.tmp 12) = .agg (RC r).toArray := KS_val (hall 0 _ 12 rfl rfl) rfl
      have e13 : a'.eval (.tmp 13) = .slice la ln lc := KS_val (hall 1 _ 13 rfl rfl) rfl
      have e14 : a'.eval (.tmp 14) = .int .i64 cl := KS_val (hall 2 _ 14 rfl rfl) rfl
      have e15 : a'.eval (.tmp 15) = .agg (RC r).toArray := KS_val (hall 3 _ 15 rfl rfl) rfl
      have e16 : a'.eval (.tmp 16) = .slice la ln lc := KS_val (hall 4 _ 16 rfl rfl) rfl
      have e17 : a'.eval (.tmp 17) = .int .i64 cl := KS_val (hall 5 _ 17 rfl rfl) rfl
      have e18 : a'.eval (.tmp 18) = .bool true := KS_val (hall 6 _ 18 rfl rfl) rfl
      have e19 : a'.eval (.tmp 19) = .bool true := KS_val (hall 7 _ 19 rfl rfl) rfl
      have e20 : a'.eval (.tmp 20) = .agg (RC r).toArray := KS_val (hall 8 _ 20 rfl rfl) rfl
      have e21 : a'.eval (.tmp 21) = .slice la ln lc := KS_val (hall 9 _ 21 rfl rfl) rfl
      have e22 : a'.eval (.tmp 22) = .int .i64 st := KS_val (hall 10 _ 22 rfl rfl) rfl
      have e23 : a'.eval (.tmp 23) = .agg (RC r).toArray := KS_val (hall 11 _ 23 rfl rfl) rfl
      have e24 : a'.eval (.tmp 24) = .slice la ln lc := KS_val (hall 12 _ 24 rfl rfl) rfl
      have e25 : a'.eval (.tmp 25) = .int .i64 st := KS_val (hall 13 _ 25 rfl rfl) rfl
      have e26 : a'.eval (.tmp 26) = .bool true := KS_val (hall 14 _ 26 rfl rfl) rfl
      have e27 : a'.eval (.tmp 27) = .bool true := KS_val (hall 15 _ 27 rfl rfl) rfl
      have e28 : a'.eval (.tmp 28) = .bool true := KS_val (hall 16 _ 28 rfl rfl) rfl
      have e29 : a'.eval (.tmp 29) = .agg (RC r).toArray := KS_val (hall 17 _ 29 rfl rfl) rfl
      have e30 : a'.eval (.tmp 30) = .slice la ln lc := KS_val (hall 18 _ 30 rfl rfl) rfl
      have e31 : a'.eval (.tmp 31) = .int .i64 my := KS_val (hall 19 _ 31 rfl rfl) rfl
      have e32 : a'.eval (.tmp 32) = .agg (RC r).toArray := KS_val (hall 20 _ 32 rfl rfl) rfl
      have e33 : a'.eval (.tmp 33) = .slice la ln lc := KS_val (hall 21 _ 33 rfl rfl) rfl
      have e34 : a'.eval (.tmp 34) = .int .i64 my := KS_val (hall 22 _ 34 rfl rfl) rfl
      have e35 : a'.eval (.tmp 35) = .bool true := KS_val (hall 23 _ 35 rfl rfl) rfl
      have e36 : a'.eval (.tmp 36) = .bool true := KS_val (hall 24 _ 36 rfl rfl) rfl
      have e37 : a'.eval (.tmp 37) = .bool true := KS_val (hall 25 _ 37 rfl rfl) rfl
      have e38 : a'.eval (.tmp 38) = .bool true := KS_val (hall 26 _ 38 rfl rfl) rfl
      have e39 : a'.eval (.tmp 39) = .bool true := KS_val (hall 27 _ 39 rfl rfl) rfl
      have e4 : a'.eval (.tmp 4) = .bool true := KS_val (hall 28 _ 4 rfl rfl) rfl
      have ha := act_puts 40 rfl hsz hdf hk [12, 13, 14, 15, 16, 17, 18, 19, 20, 21, 22, 23, 24, 25, 26, 27, 28, 29, 30, 31, 32, 33, 34, 35, 36, 37, 38, 39, 4] (by decide +kernel)
      simp only [puts, List.foldl_cons, List.foldl_nil, e12, e13, e14, e15, e16, e17, e18, e19, e20, e21, e22, e23, e24, e25, e26, e27, e28, e29, e30, e31, e32, e33, e34, e35, e36, e37, e38, e39, e4] at ha
      simp only [Act.put, List.setIfInBounds_toArray, List.set_cons_succ, List.set_cons_zero] at ha
      clear hall hk hsz hdf e12 e13 e14 e15 e16 e17 e18 e19 e20 e21 e22 e23 e24 e25 e26 e27 e28 e29 e30 e31 e32 e33 e34 e35 e36 e37 e38 e39 e4
      subst ha
      go_wp2_with fail
      go_ret
      exact ⟨rfl, L19.out⟩
#print axioms certifyMays_any
end Go.Proofs.Ythniaoacanabdaa
