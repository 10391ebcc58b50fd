/-
  package buffer: write, Put, Drop: what the calls do.
-/
import Derived.Test.YtfjlkncliljjnaaBfC
namespace Go.Proofs.Ytfjlkncliljjnaa
open Go.RowKit
theorem wp_run_u {P : Program} {o : Oper} {a : Act} {w w' : World} {K : Act → World → Prop} {Q : Exit → Act → World → Prop} (h : (execOp a.eval o).run P w = .ok .skip w') (hK : K (a.put o.dst undef) w') : o.wp P a w K Q := by
  unfold Oper.wp
  rw [h]
  exact hK
set_option maxHeartbeats 2000000 in
set_option maxRecDepth 100000 in
theorem bWrite_any {w : World} {D M : Nat} {L : List Pr} (h : BAt w D M L) (p : Pr) (hk0 : p.1.size ≤ maxLen) : Calls Try.prog 37 #[PT D, .agg (PC p).toArray] w fun e w' => e = .returned (.int .i64 (wrE L p)) ∧ BAt w' D M (wrB L p) ∧ Chg (fun b => b = M) w w' := by
  have H := hide h
  clear h
  obtain ⟨E, HN⟩ : ∃ N, Hid (w.heap.size = N) := ⟨_, rfl⟩
  obtain ⟨ks, HKS⟩ : ∃ N, Hid (p.1.size = N) := ⟨_, rfl⟩
  obtain ⟨vs, HVS⟩ : ∃ N, Hid (p.2.1.size = N) := ⟨_, rfl⟩
  have HW : Hid (∀ e, wrE L p = e → e ≠ 0 → wrB L p = L) := (show _ from fun e he hn => by unfold wrB; rw [if_neg (by rw [he]; exact hn)])
  obtain ⟨w1, hw1⟩ : ∃ y, y = w.alloc (.cells (PC p).toArray 38 (0, 0)) := ⟨_, rfl⟩
  have hb1 : Below w.heap.size w w1 := by rw [hw1]; exact (Below.refl _ _).alloc (Nat.le_refl _) _
  have B1 : Hid (Blk w1 E 38 (PC p)) := (show Blk _ _ _ _ by rw [hw1, ← HN.out]; exact Blk.new w 38 (PC p))
  have H1 := hide (H.out.kept hb1)
  have L1 := hide hb1
  have HW1 := hide hw1
  clear hw1 hb1
  have c0 := B1.out.key
  have c1 := B1.out.val
  have hls : ∀ W, (Builtin.len_ #[9] 3 #[.string p.1]).run Try.prog W = .ok (.int .i64 (ks : Int)) W := fun W => by rw [← HKS.out]; simp [Builtin.len_, go_sem]
  have hlv : ∀ W, (Builtin.len_ #[9] 3 #[.string p.2.1]).run Try.prog W = .ok (.int .i64 (vs : Int)) W := fun W => by rw [← HVS.out]; simp [Builtin.len_, go_sem]
  have CM := hide (bMade_any H1.out.d)
  have CR := hide (bRoom_any H1.out p.1 hk0)
  go_enter Try.func37, Try.ntmps37
  go_wp2_with fail
  rw [HN.out]
  change Calls _ _ _ (w.alloc (.cells (PC p).toArray 38 (0, 0))) _
  rw [← HW1.out]
  refine CM.out.mono ?_
  rintro e w_ ⟨rfl, hw⟩
  subst w_
  by_cases h1 : ks < 1
  · have q1 : decide ((ks : Int) < 1) = true := by simp; omega
    have HE : Hid (wrE L p = 2) := (show _ = _ by unfold wrE; rw [HKS.out, if_pos (.inl h1)])
    go_wp2_with fail
    go_ret
    exact ⟨by rw [HE.out]; rfl, by rw [HW.out _ HE.out (by decide)]; exact H1.out, Chg.of_below L1.out⟩
  · have q1 : decide ((ks : Int) < 1) = false := by simp; omega
    by_cases h2 : 64 < ks
    · have q2 : decide (64 < (ks : Int)) = true := by simp; omega
      have HE : Hid (wrE L p = 2) := (show _ = _ by unfold wrE; rw [HKS.out, if_pos (.inr h2)])
      go_wp2_with fail
      go_ret
      exact ⟨by rw [HE.out]; rfl, by rw [HW.out _ HE.out (by decide)]; exact H1.out, Chg.of_below L1.out⟩
    · have q2 : decide (64 < (ks : Int)) = false := by simp; omega
      by_cases h3 : 256 < vs
      · have q3 : decide (256 < (vs : Int)) = true := by simp; omega
        have HE : Hid (wrE L p = 12) := (show _ = _ by unfold wrE; rw [HKS.out, HVS.out, if_neg (by omega), if_pos h3])
        go_wp2_with fail
        go_ret
        exact ⟨by rw [HE.out]; rfl, by rw [HW.out _ HE.out (by decide)]; exact H1.out, Chg.of_below L1.out⟩
      · have q3 : decide (256 < (vs : Int)) = false := by simp; omega
        obtain ⟨rm, HR⟩ : ∃ b, Hid (((getB L p.1).isSome || decide (L.length < 64)) = b) := ⟨_, rfl⟩
        rw [HR.out] at CR
        go_wp2_with fail
        refine CR.out.mono ?_
        rintro e w2 ⟨rfl, hb2⟩
        have H2 := hide (H1.out.kept hb2)
        have B2 := hide (B1.out.kept hb2)
        have L2 : Hid (Below w.heap.size w w2) := (show _ from L1.out.trans (hb2.mono L1.out.size))
        clear hb2 c0 c1 CM CR
        cases rm with
        | false =>
          have HE : Hid (wrE L p = 13) := (show _ = _ by
            unfold wrE
            rw [HKS.out, HVS.out, if_neg (by omega), if_neg h3, if_pos]
            have hr := HR.out
            simp only [Bool.or_eq_false_iff, decide_eq_false_iff_not] at hr
            exact ⟨by simpa using hr.1, by omega⟩)
          go_wp2_with fail
          go_ret
          exact ⟨by rw [HE.out]; rfl, by rw [HW.out _ HE.out (by decide)]; exact H2.out, Chg.of_below L2.out⟩
        | true =>
          have HE0 : Hid (wrE L p = 0) := (show _ = _ by
            unfold wrE
            rw [HKS.out, HVS.out, if_neg (by omega), if_neg h3, if_neg]
            rintro ⟨g1, g2⟩
            have hr := HR.out
            simp only [Bool.or_eq_true, decide_eq_true_eq] at hr
            rcases hr with hr | hr
            · rw [Option.isNone_iff_eq_none] at g1
              rw [g1] at hr
              cases hr
            · omega)
          go_upto_region 9 with fail
          refine wp_region_tails Try.mixed (KS (fun i_ => match i_ with | 0 => .val (PT D) | 1 | 2 => .val (.pointer (some ⟨D, 0, none⟩)) | 3 => .val (.map (some M)) | 4 => .val (.pointer (some ⟨E, 0, none⟩)) | 5 => .val (.string p.1) | 6 => .val (.agg (PC p).toArray) | _ => .free)) 38 rfl (by decide +kernel) 7 (by decide) (by decide +kernel) (KS_mono _) ?_ ?_
          · refine AllFrom.cons ⟨rfl, fun a' w' hg hk hd => ?_⟩ (AllFrom.cons ⟨rfl, fun a' w' hg hk hd => ?_⟩ (AllFrom.cons ⟨rfl, fun a' w' hg hk hd => ?_⟩ (AllFrom.cons ⟨rfl, fun a' w' hg hk hd => ?_⟩ (AllFrom.cons ⟨rfl, fun a' w' hg hk hd => ?_⟩ (AllFrom.cons ⟨rfl, fun a' w' hg hk hd => ?_⟩ (AllFrom.cons ⟨rfl, fun a' w' hg hk hd => ?_⟩ AllFrom.nil))))))
            · skip
              intro Q
              have e0 : a'.eval (.tmp 0) = PT D := hk.at 0 (by decide +kernel)
              exact wp_value _ (by simp only [execOp, e0]; rfl) (KS_mkv rfl rfl)
            · skip
              intro Q
              have e31 : a'.eval (.tmp 31) = PT D := KS_val (hd.val 0 31 (by decide +kernel)) rfl
              clear hd hk
              exact wp_value (.pointer (some ⟨D, 0, none⟩)) (by simp only [execOp, e31]; go_simp) (KS_mkv rfl rfl)
            · skip
              intro Q
              have e32 : a'.eval (.tmp 32) = .pointer (some ⟨D, 0, none⟩) := KS_val (hd.val 1 32 (by decide +kernel)) rfl
              clear hd hk
              exact wp_value (.pointer (some ⟨D, 0, none⟩)) (by simp only [execOp, e32]; go_simp) (KS_mkv rfl rfl)
            · skip
              intro Q
              have e33 : a'.eval (.tmp 33) = .pointer (some ⟨D, 0, none⟩) := KS_val (hd.val 2 33 (by decide +kernel)) rfl
              have hc := (H2.out.kept hg).d.cell (j := 0) rfl
              clear hd hk
              exact wp_value (.map (some M)) (by simp only [execOp, e33]; go_simp) (KS_mkv rfl rfl)
            · skip
              intro Q
              have e3 : a'.eval (.tmp 3) = .pointer (some ⟨E, 0, none⟩) := hk.at 3 (by decide +kernel)
              clear hd hk
              exact wp_value (.pointer (some ⟨E, 0, none⟩)) (by simp only [execOp, e3]; go_simp) (KS_mkv rfl rfl)
            · skip
              intro Q
              have e35 : a'.eval (.tmp 35) = .pointer (some ⟨E, 0, none⟩) := KS_val (hd.val 4 35 (by decide +kernel)) rfl
              have hc := (B2.out.kept hg).key
              clear hd hk
              exact wp_value (.string p.1) (by simp only [execOp, e35]; go_simp) (KS_mkv rfl rfl)
            · skip
              intro Q
              have e3 : a'.eval (.tmp 3) = .pointer (some ⟨E, 0, none⟩) := hk.at 3 (by decide +kernel)
              exact wp_load_row 38 _ rfl _ _ e3 (PC (p)) _ ((B2.out.kept hg).range0) Try.underlying38 rfl (Try.size38) (KS_mkv rfl rfl)
          · intro a' w3 hsz hdf hk hall hg
            have e34 : a'.eval (.tmp 34) = .map (some M) := KS_val (hall 3 _ 34 (by decide) rfl rfl) rfl
            have e36 : a'.eval (.tmp 36) = .string p.1 := KS_val (hall 5 _ 36 (by decide) rfl rfl) rfl
            have e37 : a'.eval (.tmp 37) = .agg (PC p).toArray := KS_val (hall 6 _ 37 (by decide) rfl rfl) rfl
            refine ⟨rfl, ?_⟩
            have H3 := H2.out.kept hg
            obtain ⟨w4, hrun, hm4, ht4⟩ := H3.mp.put H3.srt (by have := H3.len; omega) p hk0
            refine wp_run_u (by simp only [execOp, e34, e36, e37, hrun, Sem.run_bind, Sem.run_pure, Result.andThen_ok]; rfl) ?_
            refine ⟨_, rfl, ?_⟩
            have C4 : Chg (fun b => b = M) w3 w4 := Chg.turned ht4 rfl
            have H4 : Hid (BAt w4 D M (insB p L)) := (show BAt _ _ _ _ from ⟨H3.d.chg C4 (fun e => H3.ne e), hm4, insB_srt H3.srt, by have := wrB_len (p := p) H3.srt H3.len; unfold wrB at this; rwa [if_pos HE0.out] at this⟩)
            have L4 : Hid (Chg (fun b => b = M) w w4) := (show _ from ((Chg.of_below L2.out).trans (Chg.of_below hg)).trans C4)
            obtain ⟨z1, f1⟩ : ∃ v, a'.eval (.tmp 31) = v := ⟨_, rfl⟩
            obtain ⟨z2, f2⟩ : ∃ v, a'.eval (.tmp 32) = v := ⟨_, rfl⟩
            obtain ⟨z3, f3⟩ : ∃ v, a'.eval (.tmp 33) = v := ⟨_, rfl⟩
            obtain ⟨z5, f5⟩ : ∃ v, a'.eval (.tmp 35) = v := ⟨_, rfl⟩
            have ha := act_puts 38 rfl hsz hdf hk [31, 32, 33, 34, 35, 36, 37] (by decide +kernel)
            simp only [puts, List.foldl_cons, List.foldl_nil, f1, f2, f3, e34, f5, e36, e37] at ha
            simp only [Act.put, List.setIfInBounds_toArray, List.set_cons_succ, List.set_cons_zero] at ha
            show Exit.then _ _ Exit.normal { tmps := a'.tmps, defers := a'.defers } w4
            subst ha
            clear hall hk hsz hdf hg H3 hrun hm4 ht4 C4 e34 e36 e37 f1 f2 f3 f5 H2 B2 L2
            go_wp2_with fail
            go_ret
            exact ⟨by rw [HE0.out]; rfl, by unfold wrB; rw [if_pos HE0.out]; exact H4.out, L4.out⟩
set_option maxRecDepth 100000 in
theorem bPut_any {w : World} {D M : Nat} {L : List Pr} (h : BAt w D M L) (k v : ByteArray) (hk0 : k.size ≤ maxLen) : Calls Try.prog 25 #[PT D, .string k, .string v] w fun e w' => e = .returned (.int .i64 (wrE L (k, v, false))) ∧ BAt w' D M (wrB L (k, v, false)) ∧ Chg (fun b => b = M) w w' := by
  have hz := Zpair
  have CW := hide (bWrite_any h (k, v, false) hk0)
  obtain ⟨r, HR⟩ : ∃ r, Hid (wrE L (k, v, false) = r) := ⟨_, rfl⟩
  rw [HR.out] at CW ⊢
  go_enter Try.func25, Try.ntmps25
  go_wp2_with fail
  refine CW.out.mono ?_
  rintro e w2 ⟨rfl, h2, c2⟩
  have H2 := hide h2
  have C2 := hide c2
  clear h2 c2
  go_wp2_with fail
  go_ret
  exact ⟨rfl, H2.out, C2.out⟩
set_option maxRecDepth 100000 in
theorem bDrop_any {w : World} {D M : Nat} {L : List Pr} (h : BAt w D M L) (k : ByteArray) (hk0 : k.size ≤ maxLen) : Calls Try.prog 26 #[PT D, .string k] w fun e w' => e = .returned (.int .i64 (wrE L (k, em, true))) ∧ BAt w' D M (wrB L (k, em, true)) ∧ Chg (fun b => b = M) w w' := by
  have hz := Zpair
  have CW := hide (bWrite_any h (k, em, true) hk0)
  obtain ⟨r, HR⟩ : ∃ r, Hid (wrE L (k, em, true) = r) := ⟨_, rfl⟩
  rw [HR.out] at CW ⊢
  go_enter Try.func26, Try.ntmps26
  go_wp2_with fail
  refine CW.out.mono ?_
  rintro e w2 ⟨rfl, h2, c2⟩
  have H2 := hide h2
  have C2 := hide c2
  clear h2 c2
  go_wp2_with fail
  go_ret
  exact ⟨rfl, H2.out, C2.out⟩
set_option maxRecDepth 100000 in
theorem uWrite_any {w : World} {v : Value} (h : Un w v) (p : Pr) : Calls Try.prog 37 #[v, .agg (PC p).toArray] w fun e w' => e = .returned (.int .i64 1) ∧ Below w.heap.size w w' := by
  have hb1 : Below w.heap.size w (w.alloc (.cells (PC p).toArray 38 (0, 0))) := (Below.refl _ _).alloc (Nat.le_refl _) _
  have CM := hide (uMade_any (h.kept hb1))
  have HB := hide hb1
  clear hb1 h
  go_enter Try.func37, Try.ntmps37
  go_wp2_with fail
  refine CM.out.mono ?_
  rintro e w_ ⟨rfl, hw⟩
  subst w_
  go_wp2_with fail
  go_ret
  exact ⟨rfl, HB.out⟩
set_option maxRecDepth 100000 in
theorem uPut_any {w : World} {u : Value} (h : Un w u) (k v : ByteArray) : Calls Try.prog 25 #[u, .string k, .string v] w fun e w' => e = .returned (.int .i64 1) ∧ Below w.heap.size w w' := by
  have hz := Zpair
  have CW := hide (uWrite_any h (k, v, false))
  clear h
  go_enter Try.func25, Try.ntmps25
  go_wp2_with fail
  refine CW.out.mono ?_
  rintro e w2 ⟨rfl, h2⟩
  have H2 := hide h2
  clear h2
  go_wp2_with fail
  go_ret
  exact ⟨rfl, H2.out⟩
set_option maxRecDepth 100000 in
theorem uDrop_any {w : World} {u : Value} (h : Un w u) (k : ByteArray) : Calls Try.prog 26 #[u, .string k] w fun e w' => e = .returned (.int .i64 1) ∧ Below w.heap.size w w' := by
  have hz := Zpair
  have CW := hide (uWrite_any h (k, em, true))
  clear h
  go_enter Try.func26, Try.ntmps26
  go_wp2_with fail
  refine CW.out.mono ?_
  rintro e w2 ⟨rfl, h2⟩
  have H2 := hide h2
  clear h2
  go_wp2_with fail
  go_ret
  exact ⟨rfl, H2.out⟩
end Go.Proofs.Ytfjlkncliljjnaa
