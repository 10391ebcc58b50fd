/-
  Texts that ride together: BfC BfW BfO BfS BfX BfL.
-/
import Derived.Test.YtcicekggeampcaaGreatGG
import Derived.Shelf.SlSortCmp.NoneTotal
import Derived.Lib.Bytealg
import Derived.Laws.Externs
import Derived.Lib.Walk
import Derived.Test.YtcicekggeampcaaGreatGK
import Derived.Deep.Slices
import Derived.Lib.SmallJoins
/-
  package buffer: New, isMade, Len, Get, write, Put, Drop: what the calls do.
-/
namespace Go.Proofs.YtcicekggeampcaaGreat
open Go.RowKit
set_option maxRecDepth 100000 in
theorem bNew_any (w : World) : Calls Tryz.prog 42 #[] w fun e w' => ∃ D M, e = .returned (PT D) ∧ BAt w' D M [] ∧ w.heap.size ≤ D ∧ w.heap.size ≤ M ∧ Below w.heap.size w w' := by
  have hmm := @run_makeMap Tryz.prog
  have HM := hide (MapP_made w)
  have HB : Hid (Below w.heap.size w (w.alloc (.map #[] 0))) := (Below.refl _ _).alloc (Nat.le_refl _) _
  go_enter Tryz.func42, Tryz.ntmps42
  go_wp2
  go_ret
  refine ⟨_, w.heap.size, rfl, ⟨by have := Blk.new (w.alloc (.map #[] 0)) 130 [.map (some w.heap.size)]; rw [World.size_alloc] at this; exact this, ?_, List.Pairwise.nil, by simp⟩, by simp, Nat.le_refl _, ?_⟩
  · exact HM.out.chg (F := fun _ => False) (Chg.of_below ((Below.refl _ _).alloc (Nat.le_refl _) _)) id
  · exact HB.out.alloc HB.out.size _
theorem ne_map (M : Nat) : ∀ W : World, (binOp .neq 128 (.map (some M)) (.map none)).run Tryz.prog W = .ok (.bool true) W := fun W => by kernel_rfl
set_option maxRecDepth 100000 in
theorem bMade_any {w : World} {D M : Nat} (hB : Blk w D 130 [.map (some M)]) : Calls Tryz.prog 69 #[PT D] w fun e w' => e = .returned (.bool true) ∧ w' = w := by
  have c0 := hB.cell (j := 0) rfl
  clear hB
  have hne := ne_map M
  go_enter Tryz.func69, Tryz.ntmps69
  go_wp2
  go_ret
  exact ⟨rfl, rfl⟩
/-- A Buffer that no call made. -/
def Un (w : World) (v : Value) : Prop := v = .pointer none ∨ ∃ D, v = PT D ∧ Blk w D 130 [.map none]
set_option maxHeartbeats 1000000 in
set_option maxRecDepth 100000 in
theorem bGet_any {w : World} {D M : Nat} {L : List Pr} (h : BAt w D M L) (k : ByteArray) (hk : k.size ≤ maxLen) : Calls Tryz.prog 45 #[PT D, .string k] w fun e w' => e = .returned (.tuple #[.agg (PC ((getB L k).getD zp)).toArray, .bool (getB L k).isSome]) ∧ Below w.heap.size w w' := by
  have hz := Zpair
  have H := hide h
  clear h
  obtain ⟨q, HQ⟩ : ∃ q, Hid ((getB L k).getD zp = q) := ⟨_, rfl⟩
  obtain ⟨ok, HO⟩ : ∃ q, Hid ((getB L k).isSome = q) := ⟨_, rfl⟩
  rw [HQ.out, HO.out]
  obtain ⟨N, HN⟩ : ∃ N, Hid (w.heap.size = N) := ⟨_, rfl⟩
  go_enter Tryz.func45, Tryz.ntmps45
  go_wp2_with fail
  obtain ⟨w1, hw1⟩ : ∃ y, y = w.alloc (.cells #[.string ⟨#[]⟩, .string ⟨#[]⟩, .bool false] 51 (0, 0)) := ⟨_, rfl⟩
  rw [← hw1, HN.out]
  obtain ⟨B1, hb1⟩ := room_pair HN hw1
  have H1 := H.out.kept hb1
  have L1 := hide hb1
  have B1 := hide B1
  clear hw1 hb1
  have c0 := H1.d.cell (j := 0) rfl
  have hlk := H1.mp.look k hk
  rw [HQ.out, HO.out] at hlk
  refine (bMade_any H1.d).mono ?_
  rintro e w_ ⟨rfl, hw⟩
  subst w_
  clear H1
  go_wp2_with (first
    | (refine wpList_store_new rfl 51 _ _ rfl w1 _ (PC q).toArray _ rfl rfl rfl Tryz.size51 rfl (all_one (PC_one q)) ?_)
    | (refine wpList_load_mid rfl 51 _ rfl w1.heap.size 0 rfl (PC q) _ (Blk.new w1 51 (PC q)).range0 Tryz.underlying51 rfl Tryz.size51 ?_)
    | (refine wpList_store_blk rfl 51 _ _ rfl N (PC zp) (PC q) 51 rfl rfl (B1.out.alloc _) rfl Tryz.size51 (PC_one q) ?_; intro w5 hb5 hu5)
    | fail)
  refine bodyPost_ret (results_pair rfl _ _ N q ok 51 _ rfl rfl hb5 Tryz.underlying51 rfl Tryz.size51) rfl ⟨rfl, ?_⟩
  rw [HN.out]
  exact (L1.out.mono (Nat.le_of_eq HN.out.symm)).trans (((Below.refl _ _).alloc (Nat.le_of_lt B1.out.lt) _).trans (hu5.below (Nat.le_refl _) (by have := B1.out.lt; simp; omega)))
set_option maxHeartbeats 1000000 in
set_option maxRecDepth 100000 in
theorem bRoom_any {w : World} {D M : Nat} {L : List Pr} (h : BAt w D M L) (k : ByteArray) (hk : k.size ≤ maxLen) : Calls Tryz.prog 103 #[PT D, .string k] w fun e w' => e = .returned (.bool ((getB L k).isSome || decide (L.length < 64))) ∧ Below w.heap.size w w' := by
  have hz := Zpair
  have H := hide h
  have c0 := h.d.cell (j := 0) rfl
  have hlk := h.mp.look k hk
  clear h
  obtain ⟨q, HQ⟩ : ∃ q, Hid ((getB L k).getD zp = q) := ⟨_, rfl⟩
  obtain ⟨ok, HO⟩ : ∃ q, Hid ((getB L k).isSome = q) := ⟨_, rfl⟩
  rw [HQ.out, HO.out] at hlk
  rw [HO.out]
  obtain ⟨n, HLn⟩ : ∃ n, Hid (L.length = n) := ⟨_, rfl⟩
  rw [HLn.out]
  obtain ⟨w2, hw2⟩ : ∃ y, y = w.alloc (.cells (PC q).toArray 51 (0, 0)) := ⟨_, rfl⟩
  have hb2 : Below w.heap.size w w2 := by rw [hw2]; exact (Below.refl _ _).alloc (Nat.le_refl _) _
  have H2 := H.out.kept hb2
  have c2 := H2.d.cell (j := 0) rfl
  have hl2 := H2.mp.len 3
  rw [HLn.out] at hl2
  have HB := hide hb2
  have HW2 := hide hw2
  clear hw2
  obtain ⟨b, HBb⟩ : ∃ b, Hid (decide (n < 64) = b) := ⟨_, rfl⟩
  have hb' : decide ((n : Int) < 64) = b := by rw [← HBb.out]; simp; omega
  rw [HBb.out]
  clear H2 hb2
  go_enter Tryz.func103, Tryz.ntmps103
  cases ok
  · go_wp2_with (first
      | (refine wpList_store_new rfl 51 _ _ rfl w _ (PC q).toArray _ rfl rfl rfl Tryz.size51 rfl (all_one (PC_one q)) ?_; rw [← HW2.out])
      | fail)
    go_ret
    exact ⟨rfl, HB.out⟩
  · go_wp2_with (first
      | (refine wpList_store_new rfl 51 _ _ rfl w _ (PC q).toArray _ rfl rfl rfl Tryz.size51 rfl (all_one (PC_one q)) ?_; rw [← HW2.out])
      | fail)
    go_ret
    exact ⟨rfl, HB.out⟩
end Go.Proofs.YtcicekggeampcaaGreat

/-
  package buffer: write, Put, Drop: what the calls do.
-/
namespace Go.Proofs.YtcicekggeampcaaGreat
open Go.RowKit
theorem wp_run_u {P : Program} {o : Oper} {a : Act} {w w' : World} {K : Act → World → Prop} {Q : Exit → Act → World → Prop} (h : (execOp a.eval o).run P w = .ok .skip w') (hK : K (a.put o.dst undef) w') : o.wp P a w K Q := by
  unfold Oper.wp
  rw [h]
  exact hK
set_option maxHeartbeats 2000000 in
set_option maxRecDepth 100000 in
theorem bWrite_any {w : World} {D M : Nat} {L : List Pr} (h : BAt w D M L) (p : Pr) (hk0 : p.1.size ≤ maxLen) : Calls Tryz.prog 76 #[PT D, .agg (PC p).toArray] w fun e w' => e = .returned (.int .i64 (wrE L p)) ∧ BAt w' D M (wrB L p) ∧ Chg (fun b => b = M) w w' := by
  have H := hide h
  clear h
  obtain ⟨E, HN⟩ : ∃ N, Hid (w.heap.size = N) := ⟨_, rfl⟩
  obtain ⟨ks, HKS⟩ : ∃ N, Hid (p.1.size = N) := ⟨_, rfl⟩
  obtain ⟨vs, HVS⟩ : ∃ N, Hid (p.2.1.size = N) := ⟨_, rfl⟩
  have HW : Hid (∀ e, wrE L p = e → e ≠ 0 → wrB L p = L) := (show _ from fun e he hn => by unfold wrB; rw [if_neg (by rw [he]; exact hn)])
  obtain ⟨w1, hw1⟩ : ∃ y, y = w.alloc (.cells (PC p).toArray 51 (0, 0)) := ⟨_, rfl⟩
  have hb1 : Below w.heap.size w w1 := by rw [hw1]; exact (Below.refl _ _).alloc (Nat.le_refl _) _
  have B1 : Hid (Blk w1 E 51 (PC p)) := (show Blk _ _ _ _ by rw [hw1, ← HN.out]; exact Blk.new w 51 (PC p))
  have H1 := hide (H.out.kept hb1)
  have L1 := hide hb1
  have HW1 := hide hw1
  clear hw1 hb1
  have c0 := B1.out.key
  have c1 := B1.out.val
  have hls : ∀ W, (Builtin.len_ #[9] 3 #[.string p.1]).run Tryz.prog W = .ok (.int .i64 (ks : Int)) W := fun W => by rw [← HKS.out]; simp [Builtin.len_, go_sem]
  have hlv : ∀ W, (Builtin.len_ #[9] 3 #[.string p.2.1]).run Tryz.prog W = .ok (.int .i64 (vs : Int)) W := fun W => by rw [← HVS.out]; simp [Builtin.len_, go_sem]
  have CM := hide (bMade_any H1.out.d)
  have CR := hide (bRoom_any H1.out p.1 hk0)
  go_enter Tryz.func76, Tryz.ntmps76
  go_wp2_with fail
  rw [HN.out]
  change Calls _ _ _ (w.alloc (.cells (PC p).toArray 51 (0, 0))) _
  rw [← HW1.out]
  refine CM.out.mono ?_
  rintro e w_ ⟨rfl, hw⟩
  subst w_
  by_cases h1 : ks < 1
  · have q1 : decide ((ks : Int) < 1) = true := by simp; omega
    have HE : Hid (wrE L p = 2) := (show _ = _ by unfold wrE; rw [HKS.out, if_pos (.inl h1)])
    go_wp2_with fail
    go_ret
    exact ⟨by rw [HE.out]; rfl, by rw [HW.out _ HE.out (by decide)]; exact H1.out, Chg.of_below L1.out⟩
  · have q1 : decide ((ks : Int) < 1) = false := by simp; omega
    by_cases h2 : 64 < ks
    · have q2 : decide (64 < (ks : Int)) = true := by simp; omega
      have HE : Hid (wrE L p = 2) := (show _ = _ by unfold wrE; rw [HKS.out, if_pos (.inr h2)])
      go_wp2_with fail
      go_ret
      exact ⟨by rw [HE.out]; rfl, by rw [HW.out _ HE.out (by decide)]; exact H1.out, Chg.of_below L1.out⟩
    · have q2 : decide (64 < (ks : Int)) = false := by simp; omega
      by_cases h3 : 256 < vs
      · have q3 : decide (256 < (vs : Int)) = true := by simp; omega
        have HE : Hid (wrE L p = 12) := (show _ = _ by unfold wrE; rw [HKS.out, HVS.out, if_neg (by omega), if_pos h3])
        go_wp2_with fail
        go_ret
        exact ⟨by rw [HE.out]; rfl, by rw [HW.out _ HE.out (by decide)]; exact H1.out, Chg.of_below L1.out⟩
      · have q3 : decide (256 < (vs : Int)) = false := by simp; omega
        obtain ⟨rm, HR⟩ : ∃ b, Hid (((getB L p.1).isSome || decide (L.length < 64)) = b) := ⟨_, rfl⟩
        rw [HR.out] at CR
        go_wp2_with fail
        refine CR.out.mono ?_
        rintro e w2 ⟨rfl, hb2⟩
        have H2 := hide (H1.out.kept hb2)
        have B2 := hide (B1.out.kept hb2)
        have L2 : Hid (Below w.heap.size w w2) := (show _ from L1.out.trans (hb2.mono L1.out.size))
        clear hb2 c0 c1 CM CR
        cases rm with
        | false =>
          have HE : Hid (wrE L p = 13) := (show _ = _ by
            unfold wrE
            rw [HKS.out, HVS.out, if_neg (by omega), if_neg h3, if_pos]
            have hr := HR.out
            simp only [Bool.or_eq_false_iff, decide_eq_false_iff_not] at hr
            exact ⟨by simpa using hr.1, by omega⟩)
          go_wp2_with fail
          go_ret
          exact ⟨by rw [HE.out]; rfl, by rw [HW.out _ HE.out (by decide)]; exact H2.out, Chg.of_below L2.out⟩
        | true =>
          have HE0 : Hid (wrE L p = 0) := (show _ = _ by
            unfold wrE
            rw [HKS.out, HVS.out, if_neg (by omega), if_neg h3, if_neg]
            rintro ⟨g1, g2⟩
            have hr := HR.out
            simp only [Bool.or_eq_true, decide_eq_true_eq] at hr
            rcases hr with hr | hr
            · rw [Option.isNone_iff_eq_none] at g1
              rw [g1] at hr
              cases hr
            · omega)
          go_upto_region 9 with fail
          refine wp_region_tails Tryz.mixed (KS (fun i_ => match i_ with | 0 => .val (PT D) | 1 | 2 => .val (.pointer (some ⟨D, 0, none⟩)) | 3 => .val (.map (some M)) | 4 => .val (.pointer (some ⟨E, 0, none⟩)) | 5 => .val (.string p.1) | 6 => .val (.agg (PC p).toArray) | _ => .free)) 38 rfl (by decide +kernel) 7 (by decide) (by decide +kernel) (KS_mono _) ?_ ?_
          · refine AllFrom.cons ⟨rfl, fun a' w' hg hk hd => ?_⟩ (AllFrom.cons ⟨rfl, fun a' w' hg hk hd => ?_⟩ (AllFrom.cons ⟨rfl, fun a' w' hg hk hd => ?_⟩ (AllFrom.cons ⟨rfl, fun a' w' hg hk hd => ?_⟩ (AllFrom.cons ⟨rfl, fun a' w' hg hk hd => ?_⟩ (AllFrom.cons ⟨rfl, fun a' w' hg hk hd => ?_⟩ (AllFrom.cons ⟨rfl, fun a' w' hg hk hd => ?_⟩ AllFrom.nil))))))
            · skip
              intro Q
              have e0 : a'.eval (.tmp 0) = PT D := hk.at 0 (by decide +kernel)
              exact wp_value _ (by simp only [execOp, e0]; rfl) (KS_mkv rfl rfl)
            · skip
              intro Q
              have e31 : a'.eval (.tmp 31) = PT D := KS_val (hd.val 0 31 (by decide +kernel)) rfl
              clear hd hk
              exact wp_value (.pointer (some ⟨D, 0, none⟩)) (by simp only [execOp, e31]; go_simp) (KS_mkv rfl rfl)
            · skip
              intro Q
              have e32 : a'.eval (.tmp 32) = .pointer (some ⟨D, 0, none⟩) := KS_val (hd.val 1 32 (by decide +kernel)) rfl
              clear hd hk
              exact wp_value (.pointer (some ⟨D, 0, none⟩)) (by simp only [execOp, e32]; go_simp) (KS_mkv rfl rfl)
            · skip
              intro Q
              have e33 : a'.eval (.tmp 33) = .pointer (some ⟨D, 0, none⟩) := KS_val (hd.val 2 33 (by decide +kernel)) rfl
              have hc := (H2.out.kept hg).d.cell (j := 0) rfl
              clear hd hk
              exact wp_value (.map (some M)) (by simp only [execOp, e33]; go_simp) (KS_mkv rfl rfl)
            · skip
              intro Q
              have e3 : a'.eval (.tmp 3) = .pointer (some ⟨E, 0, none⟩) := hk.at 3 (by decide +kernel)
              clear hd hk
              exact wp_value (.pointer (some ⟨E, 0, none⟩)) (by simp only [execOp, e3]; go_simp) (KS_mkv rfl rfl)
            · skip
              intro Q
              have e35 : a'.eval (.tmp 35) = .pointer (some ⟨E, 0, none⟩) := KS_val (hd.val 4 35 (by decide +kernel)) rfl
              have hc := (B2.out.kept hg).key
              clear hd hk
              exact wp_value (.string p.1) (by simp only [execOp, e35]; go_simp) (KS_mkv rfl rfl)
            · skip
              intro Q
              have e3 : a'.eval (.tmp 3) = .pointer (some ⟨E, 0, none⟩) := hk.at 3 (by decide +kernel)
              exact wp_load_row 51 _ rfl _ _ e3 (PC (p)) _ ((B2.out.kept hg).range0) Tryz.underlying51 rfl (Tryz.size51) (KS_mkv rfl rfl)
          · intro a' w3 hsz hdf hk hall hg
            have e34 : a'.eval (.tmp 34) = .map (some M) := KS_val (hall 3 _ 34 (by decide) rfl rfl) rfl
            have e36 : a'.eval (.tmp 36) = .string p.1 := KS_val (hall 5 _ 36 (by decide) rfl rfl) rfl
            have e37 : a'.eval (.tmp 37) = .agg (PC p).toArray := KS_val (hall 6 _ 37 (by decide) rfl rfl) rfl
            refine ⟨rfl, ?_⟩
            have H3 := H2.out.kept hg
            obtain ⟨w4, hrun, hm4, ht4⟩ := H3.mp.put H3.srt (by have := H3.len; omega) p hk0
            refine wp_run_u (by simp only [execOp, e34, e36, e37, hrun, Sem.run_bind, Sem.run_pure, Result.andThen_ok]; rfl) ?_
            refine ⟨_, rfl, ?_⟩
            have C4 : Chg (fun b => b = M) w3 w4 := Chg.turned ht4 rfl
            have H4 : Hid (BAt w4 D M (insB p L)) := (show BAt _ _ _ _ from ⟨H3.d.chg C4 (fun e => H3.ne e), hm4, insB_srt H3.srt, by have := wrB_len (p := p) H3.srt H3.len; unfold wrB at this; rwa [if_pos HE0.out] at this⟩)
            have L4 : Hid (Chg (fun b => b = M) w w4) := (show _ from ((Chg.of_below L2.out).trans (Chg.of_below hg)).trans C4)
            obtain ⟨z1, f1⟩ : ∃ v, a'.eval (.tmp 31) = v := ⟨_, rfl⟩
            obtain ⟨z2, f2⟩ : ∃ v, a'.eval (.tmp 32) = v := ⟨_, rfl⟩
            obtain ⟨z3, f3⟩ : ∃ v, a'.eval (.tmp 33) = v := ⟨_, rfl⟩
            obtain ⟨z5, f5⟩ : ∃ v, a'.eval (.tmp 35) = v := ⟨_, rfl⟩
            have ha := act_puts 38 rfl hsz hdf hk [31, 32, 33, 34, 35, 36, 37] (by decide +kernel)
            simp only [puts, List.foldl_cons, List.foldl_nil, f1, f2, f3, e34, f5, e36, e37] at ha
            simp only [Act.put, List.setIfInBounds_toArray, List.set_cons_succ, List.set_cons_zero] at ha
            show Exit.then _ _ Exit.normal { tmps := a'.tmps, defers := a'.defers } w4
            subst ha
            clear hall hk hsz hdf hg H3 hrun hm4 ht4 C4 e34 e36 e37 f1 f2 f3 f5 H2 B2 L2
            go_wp2_with fail
            go_ret
            exact ⟨by rw [HE0.out]; rfl, by unfold wrB; rw [if_pos HE0.out]; exact H4.out, L4.out⟩
set_option maxRecDepth 100000 in
theorem bPut_any {w : World} {D M : Nat} {L : List Pr} (h : BAt w D M L) (k v : ByteArray) (hk0 : k.size ≤ maxLen) : Calls Tryz.prog 44 #[PT D, .string k, .string v] w fun e w' => e = .returned (.int .i64 (wrE L (k, v, false))) ∧ BAt w' D M (wrB L (k, v, false)) ∧ Chg (fun b => b = M) w w' := by
  have hz := Zpair
  have CW := hide (bWrite_any h (k, v, false) hk0)
  obtain ⟨r, HR⟩ : ∃ r, Hid (wrE L (k, v, false) = r) := ⟨_, rfl⟩
  rw [HR.out] at CW ⊢
  go_enter Tryz.func44, Tryz.ntmps44
  go_wp2_with fail
  refine CW.out.mono ?_
  rintro e w2 ⟨rfl, h2, c2⟩
  have H2 := hide h2
  have C2 := hide c2
  clear h2 c2
  go_wp2_with fail
  go_ret
  exact ⟨rfl, H2.out, C2.out⟩
set_option maxRecDepth 100000 in
theorem bDrop_any {w : World} {D M : Nat} {L : List Pr} (h : BAt w D M L) (k : ByteArray) (hk0 : k.size ≤ maxLen) : Calls Tryz.prog 53 #[PT D, .string k] w fun e w' => e = .returned (.int .i64 (wrE L (k, em, true))) ∧ BAt w' D M (wrB L (k, em, true)) ∧ Chg (fun b => b = M) w w' := by
  have hz := Zpair
  have CW := hide (bWrite_any h (k, em, true) hk0)
  obtain ⟨r, HR⟩ : ∃ r, Hid (wrE L (k, em, true) = r) := ⟨_, rfl⟩
  rw [HR.out] at CW ⊢
  go_enter Tryz.func53, Tryz.ntmps53
  go_wp2_with fail
  refine CW.out.mono ?_
  rintro e w2 ⟨rfl, h2, c2⟩
  have H2 := hide h2
  have C2 := hide c2
  clear h2 c2
  go_wp2_with fail
  go_ret
  exact ⟨rfl, H2.out, C2.out⟩
end Go.Proofs.YtcicekggeampcaaGreat

/-
  slices.SortFunc over pairs: the library's contract laid at this program.
-/
namespace Go.Proofs.YtcicekggeampcaaGreat
open Go.Shelf
def Tryz.sortP_ren : Go.Shelf.Ren := ⟨fun | 6 => 99 | 15 => 115 | 14 => 114 | 28 => 126 | 29 => 127 | 20 => 118 | 21 => 119 | 22 => 120 | 23 => 121 | 24 => 122 | 25 => 123 | 26 => 124 | 27 => 125 | 46 => 128 | 47 => 129 | 48 => 130 | 49 => 131 | 50 => 132 | 57 => 133 | n => n, fun | 22 => 35 | 24 => 51 | 25 => 131 | 3 => 3 | 39 => 171 | 0 => 0 | 53 => 186 | 55 => 188 | 4 => 4 | 46 => 180 | 45 => 179 | 50 => 159 | 5 => 5 | 9 => 9 | 66 => 189 | 70 => 193 | 76 => 195 | 77 => 196 | n => n, fun | n => n⟩
theorem Tryz.sortP : Go.Proofs.SlLaysF0.n6 Tryz.prog Tryz.sortP_ren :=
  { mixed := by kernel_rfl,
    f6 := ⟨Tryz.f99.name, by decide, Tryz.func99.trans (congrArg some (by kernel_rfl))⟩,
    f14 := ⟨Tryz.f114.name, by decide, Tryz.func114.trans (congrArg some (by kernel_rfl))⟩,
    f15 := Tryz.func115.trans (congrArg some (by kernel_rfl)),
    f20 := ⟨Tryz.f118.name, by decide, Tryz.func118.trans (congrArg some (by kernel_rfl))⟩,
    f21 := ⟨Tryz.f119.name, by decide, Tryz.func119.trans (congrArg some (by kernel_rfl))⟩,
    f22 := ⟨Tryz.f120.name, by decide, Tryz.func120.trans (congrArg some (by kernel_rfl))⟩,
    f23 := ⟨Tryz.f121.name, by decide, Tryz.func121.trans (congrArg some (by kernel_rfl))⟩,
    f24 := ⟨Tryz.f122.name, by decide, Tryz.func122.trans (congrArg some (by kernel_rfl))⟩,
    f25 := ⟨Tryz.f123.name, by decide, Tryz.func123.trans (congrArg some (by kernel_rfl))⟩,
    f26 := ⟨Tryz.f124.name, by decide, Tryz.func124.trans (congrArg some (by kernel_rfl))⟩,
    f27 := ⟨Tryz.f125.name, by decide, Tryz.func125.trans (congrArg some (by kernel_rfl))⟩,
    f28 := Tryz.func126.trans (congrArg some (by kernel_rfl)),
    f29 := Tryz.func127.trans (congrArg some (by kernel_rfl)),
    f46 := ⟨Tryz.f128.name, by decide, Tryz.func128.trans (congrArg some (by kernel_rfl))⟩,
    f47 := Tryz.func129.trans (congrArg some (by kernel_rfl)),
    f48 := Tryz.func130.trans (congrArg some (by kernel_rfl)),
    f49 := ⟨Tryz.f131.name, by decide, Tryz.func131.trans (congrArg some (by kernel_rfl))⟩,
    f50 := ⟨Tryz.f132.name, by decide, Tryz.func132.trans (congrArg some (by kernel_rfl))⟩,
    f57 := ⟨Tryz.f133.name, by decide, Tryz.func133.trans (congrArg some (by kernel_rfl))⟩,
    t0 := Tryz.underlying0,
    a0 := Tryz.isAgg0,
    z0 := Tryz.sizeOf0,
    v0 := Tryz.zeroValue0,
    t3 := Tryz.underlying3,
    a3 := Tryz.isAgg3,
    z3 := Tryz.sizeOf3,
    v3 := Tryz.zeroValue3,
    t4 := Tryz.underlying4,
    a4 := Tryz.isAgg4,
    z4 := Tryz.sizeOf4,
    v4 := Tryz.zeroValue4,
    t5 := Tryz.underlying5,
    a5 := Tryz.isAgg5,
    z5 := Tryz.sizeOf5,
    v5 := Tryz.zeroValue5,
    t9 := Tryz.underlying9,
    a9 := Tryz.isAgg9,
    z9 := Tryz.sizeOf9,
    v9 := Tryz.zeroValue9,
    t22 := Tryz.underlying35,
    a22 := Tryz.isAgg35,
    z22 := Tryz.sizeOf35,
    v22 := Tryz.zeroValue35,
    t25 := Tryz.underlying131,
    a25 := Tryz.isAgg131,
    z25 := Tryz.sizeOf131,
    v25 := Tryz.zeroValue131,
    t39 := Tryz.underlying171,
    a39 := Tryz.isAgg171,
    z39 := Tryz.sizeOf171,
    v39 := Tryz.zeroValue171,
    t45 := Tryz.underlying179,
    a45 := Tryz.isAgg179,
    z45 := Tryz.sizeOf179,
    v45 := Tryz.zeroValue179,
    t46 := Tryz.underlying180,
    a46 := Tryz.isAgg180,
    z46 := Tryz.sizeOf180,
    v46 := Tryz.zeroValue180,
    t50 := Tryz.underlying159,
    a50 := Tryz.isAgg159,
    z50 := Tryz.sizeOf159,
    v50 := Tryz.zeroValue159,
    t53 := Tryz.underlying186,
    a53 := Tryz.isAgg186,
    z53 := Tryz.sizeOf186,
    v53 := Tryz.zeroValue186,
    t55 := Tryz.underlying188,
    a55 := Tryz.isAgg188,
    z55 := Tryz.sizeOf188,
    v55 := Tryz.zeroValue188,
    t66 := Tryz.underlying189,
    a66 := Tryz.isAgg189,
    z66 := Tryz.sizeOf189,
    v66 := Tryz.zeroValue189,
    t70 := Tryz.underlying193,
    a70 := Tryz.isAgg193,
    z70 := Tryz.sizeOf193,
    v70 := Tryz.zeroValue193,
    t76 := Tryz.underlying195,
    a76 := Tryz.isAgg195,
    z76 := Tryz.sizeOf195,
    v76 := Tryz.zeroValue195,
    t77 := Tryz.underlying196,
    a77 := Tryz.isAgg196,
    z77 := Tryz.sizeOf196,
    v77 := Tryz.zeroValue196 }
end Go.Proofs.YtcicekggeampcaaGreat

/-
  strings.Compare, the order of Writes, slices.SortFunc over pairs: what the calls do.
-/
namespace Go.Proofs.YtcicekggeampcaaGreat
open Go.RowKit Go.Shelf
set_option maxRecDepth 100000 in
theorem cmps_any (a b : ByteArray) (w : World) : Calls Tryz.prog 101 #[.string a, .string b] w fun e w' => e = .returned (.int .i64 (Lib.compareBytes a.data.toList b.data.toList)) ∧ w' = w := by
  go_enter Tryz.func101, Tryz.ntmps101
  go_wp2
  rw [run_callFunc_extern Tryz.func116 (by kernel_rfl) (by kernel_rfl) (by kernel_rfl) (e := Extern.BytealgCompare.compare) (by kernel_rfl), Lib.run_compareString]
  simp only [Result.andThen]
  rw [Oper.upon_value]
  go_wp2
  go_ret
  exact ⟨rfl, rfl⟩
set_option maxRecDepth 100000 in
theorem compare_any (a b : ByteArray) (w : World) : Calls Tryz.prog 73 #[.string a, .string b] w fun e w' => e = .returned (.int .i64 (Lib.compareBytes a.data.toList b.data.toList)) ∧ w' = w := by
  have C := hide (cmps_any a b w)
  go_enter Tryz.func73, Tryz.ntmps73
  go_wp2_with fail
  refine C.out.mono ?_
  rintro e w_ ⟨rfl, hw⟩
  subst w_
  go_wp2_with fail
  go_ret
  exact ⟨rfl, rfl⟩
/-- How two pairs are held against each other. -/
def cfP (x y : Pr) : Int := Lib.compareBytes x.1.data.toList y.1.data.toList
theorem cmp_less : ∀ (x y : List UInt8), decide (Lib.compareBytes x y < 0) = Op.bytesLess x y
  | [], [] => rfl
  | [], b :: y => rfl
  | a :: x, [] => rfl
  | a :: x, b :: y => by
    unfold Lib.compareBytes
    by_cases h1 : a < b
    · rw [if_pos h1]
      simp [Op.bytesLess, h1]
    · rw [if_neg h1]
      by_cases h2 : b < a
      · rw [if_pos h2]
        have : a ≠ b := fun e => by subst e; exact h1 h2
        simp [Op.bytesLess, h1, this]
      · rw [if_neg h2, cmp_less x y]
        have e : a = b := by
          rw [UInt8.lt_iff_toNat_lt] at h1 h2
          exact UInt8.toNat_inj.1 (by omega)
        subst e
        simp [Op.bytesLess, h1]
theorem ltP (x y : Pr) : ltOf cfP x y = lt x.1 y.1 := by
  unfold ltOf cfP lt
  rw [cmp_less, ByteArray.toList_eq, ByteArray.toList_eq]
theorem swoP : Go.Sort.SWO (ltOf cfP) where
  irrefl x := by rw [ltP]; exact lt_irrefl _
  trans x y z h1 h2 := by rw [ltP] at *; exact lt_trans h1 h2
  ntrans x y z h1 h2 := by
    rw [ltP] at *
    cases h : lt x.1 z.1 with
    | false => rfl
    | true => rw [lt_of_not h h2] at h1; cases h1
set_option maxRecDepth 100000 in
theorem order_any (x y : Pr) (W : World) : Calls Tryz.prog 72 #[.agg (PC x).toArray, .agg (PC y).toArray] W fun e w' => e = .returned (.int .i64 (cfP x y)) ∧ ∃ q os', w' = Go.Sort.grow (W.drewN q) os' := by
  have C := fun W' => compare_any x.1 y.1 W'
  obtain ⟨r, HR⟩ : ∃ r, Hid (cfP x y = r) := ⟨_, rfl⟩
  rw [HR.out]
  have C' : ∀ W', Calls Tryz.prog 73 #[.string x.1, .string y.1] W' fun e w' => e = .returned (.int .i64 r) ∧ w' = W' := fun W' => by
    have := C W'
    rw [show Lib.compareBytes x.1.data.toList y.1.data.toList = r from HR.out] at this
    exact this
  have HC := hide C'
  clear C C'
  obtain ⟨xk, xv, xd⟩ := x
  obtain ⟨yk, yv, yd⟩ := y
  simp only [PC] at *
  go_enter Tryz.func72, Tryz.ntmps72
  go_wp2_with fail
  refine (HC.out _).mono ?_
  rintro e w_ ⟨rfl, hw⟩
  subst w_
  go_wp2_with fail
  go_ret
  exact ⟨rfl, 0, _, by rw [Go.Sort.alloc_eq_grow, Go.Sort.alloc_eq_grow, Go.Sort.grow_grow]; rfl⟩
theorem cmpLays_P (blk off size : Nat) (w : World) : CmpLays Tryz.prog 72 #[] PC 3 cfP blk off size w := fun _ _ _ _ x y => order_any x y _
theorem flat_cs (d : Array Pr) : (Go.Sort.flatK PC 3 d).toList = PE.cs d.toList := by
  apply List.ext_getElem?
  intro t
  by_cases ht : t < d.size * 3
  · have hj : t / 3 < d.toList.length := by simp; omega
    have hi : t % 3 < (PC d.toList[t / 3]).length := by show _ < 3; omega
    have h1 := Enc.cs_get (E := PE) (L := d.toList) hj (i := t % 3) (List.getElem?_eq_getElem hi)
    have e : t / 3 * PE.n + t % 3 = t := by show t / 3 * 3 + t % 3 = t; omega
    rw [e] at h1
    rw [h1]
    have h2 := Go.Sort.get_flatK PC 3 d t ht
    have hs : t < (Go.Sort.flatK PC 3 d).size := by simpa using ht
    rw [getElem!_pos _ t hs] at h2
    rw [Array.getElem?_toList, Array.getElem?_eq_getElem hs, h2]
    have h3 : t / 3 < d.size := by simpa using hj
    rw [getElem!_pos d _ h3]
    have h4 : t % 3 < (PC d[t / 3]).length := by show _ < 3; omega
    rw [getElem!_pos (PC d[t / 3]) _ h4]
    rfl
  · rw [List.getElem?_eq_none (by simp; omega), List.getElem?_eq_none (by rw [Enc.cs_length]; show d.toList.length * 3 ≤ t; simp; omega)]
/-- What a row is behind a sort. -/
theorem sorted_own {w : World} {B g cap m : Nat} {e : TypeId} {L : List Pr} {d' : Array Pr} {os : Array Obj} (ho : OwnG PE w B e (.slice (some ⟨g, 0, none⟩) L.length cap) L) (hs : d'.size = L.length) :
    OwnG PE (sortWorldK PC 3 w g 0 m d' os) B e (.slice (some ⟨g, 0, none⟩) L.length cap) d'.toList ∧ Chg (fun b => b = g) w (sortWorldK PC 3 w g 0 m d' os) := by
  obtain ⟨h1, h2⟩ := ho
  have hl : d'.toList.length = L.length := by simpa using hs
  rcases h2 with ⟨h, _⟩ | ⟨g', cap', cur, hv, hg, hh, hnc, hcm, hcs, htk⟩
  · cases h
  · cases hv
    have hlt : g < w.heap.size := (Array.getElem?_eq_some_iff.1 hh).1
    have hsz : (Go.Sort.mapBlock (Go.Sort.ahead w m) g (Go.Sort.putCells id 0 (Go.Sort.flatK PC 3 d'))).heap.size = w.heap.size := by simp [Go.Sort.mapBlock, Go.Sort.ahead]
    have hb : (sortWorldK PC 3 w g 0 m d' os).heap[g]? = some (.cells (Go.Sort.putCells id 0 (Go.Sort.flatK PC 3 d') cur) e (0, 0)) := by
      unfold sortWorldK Go.Sort.putRowK Go.Sort.putRow Go.Sort.grow
      simp only
      rw [Array.getElem?_append_left (by rw [hsz]; exact hlt)]
      simp only [Go.Sort.mapBlock, Go.Sort.ahead, Array.getElem?_modify, if_true, hh, Option.map_some, Go.Sort.onCells]
    have hF : (Go.Sort.putCells id 0 (Go.Sort.flatK PC 3 d') cur).toList.take (L.length * 3) = PE.cs d'.toList := by
      rw [← flat_cs]
      have hcap : L.length * 3 ≤ cur.size := by rw [hcs]; exact Nat.mul_le_mul_right _ hnc
      have hfs : (Go.Sort.flatK PC 3 d').size = L.length * 3 := by rw [Go.Sort.size_flatK, hs]
      apply List.ext_getElem?
      intro t
      by_cases ht : t < L.length * 3
      · rw [List.getElem?_take_of_lt ht, Array.getElem?_toList, Array.getElem?_toList]
        have htc : t < cur.size := by omega
        have htf : t < (Go.Sort.flatK PC 3 d').size := by omega
        simp only [Go.Sort.putCells, Array.getElem?_mapIdx, Array.getElem?_eq_getElem htc, Option.map_some, Array.getElem?_eq_getElem htf]
        rw [if_pos (by omega), Nat.sub_zero, getElem!_pos _ t htf]
        rfl
      · rw [List.getElem?_eq_none (by rw [List.length_take]; omega), List.getElem?_eq_none (by rw [Array.length_toList, hfs]; omega)]
    refine ⟨⟨?_, .inr ⟨g, cap, _, by rw [hl], hg, hb, by omega, hcm, by simpa [Go.Sort.putCells] using hcs, by rw [hl]; exact hF⟩⟩, ?_⟩
    · rw [Enc.cs_length]
    · refine ⟨rfl, rfl, rfl, ?_, fun k hk hn => ?_⟩
      · unfold sortWorldK Go.Sort.grow Go.Sort.putRowK Go.Sort.putRow
        rw [Array.size_append, hsz]
        omega
      · unfold sortWorldK Go.Sort.grow Go.Sort.putRowK Go.Sort.putRow
        simp only
        rw [Array.getElem?_append_left (by rw [hsz]; exact hk)]
        simp only [Go.Sort.mapBlock, Go.Sort.ahead, Array.getElem?_modify]
        rw [if_neg (fun e => hn e.symm)]
theorem sorts_any {w : World} {B : Nat} {v : Value} {L : List Pr} (ho : OwnG PE w B 51 v L) (hl : L.length ≤ 1000000) :
    Calls Tryz.prog 99 #[v, .func (.func 72) #[] #[]] w fun e w' => e = .returned (.tuple #[]) ∧ ∃ L', L'.Perm L ∧ L'.Pairwise (fun a b => lt b.1 a.1 = false) ∧ OwnG PE w' B 51 v L' ∧ Chg (fun b => v.ownBlock = some b) w w' := by
  by_cases h0 : L.length = 0
  · obtain ⟨a, cap, rfl⟩ := ho.form
    have hL : L = [] := List.eq_nil_of_length_eq_zero h0
    subst hL
    refine (AnyF.slices_SortFunc_none { Tryz.sortP with } a cap (.func (.func 72) #[] #[]) w).mono ?_
    rintro e w' ⟨rfl, rfl⟩
    exact ⟨rfl, [], List.Perm.refl _, List.Pairwise.nil, ho, Chg.refl _ _⟩
  · obtain ⟨g, cap, cur, rfl, hg, hB, -, -, -, -⟩ := ho.blk (by omega)
    have hH : Go.Sort.HoldsK PC 3 w g 0 L.toArray := by
      intro j hj
      have hj' : j < L.length * 3 := by simpa using hj
      have hjF : j < (Go.Sort.flatK PC 3 L.toArray).size := hj
      have e1 : (Go.Sort.flatK PC 3 L.toArray).toList[j]? = some (Go.Sort.flatK PC 3 L.toArray)[j]! := by
        rw [Array.getElem?_toList, Array.getElem?_eq_getElem hjF, getElem!_pos _ j hjF]
      rw [flat_cs] at e1
      have hc := World.ownsRow.cells ho (g := g) rfl j _ (by simpa using e1)
      rw [Nat.zero_add]
      rw [Addr.add_lit, Nat.zero_add] at hc
      exact ⟨hc, hB.frozen j⟩
    refine (AnyQ.slices_SortFunc Tryz.sortP 3 Tryz.isAgg51 Tryz.sizeOf51 PC (fun _ => rfl) PC_one cfP swoP 72 #[] g 0 cap L.toArray w (enters_of Tryz.func72 (by kernel_rfl) rfl) (cmpLays_P _ _ _ _) hH hB.lt (by simp; omega)).mono ?_
    rintro e w' ⟨rfl, d', n, os, hp, hs, rfl⟩
    obtain ⟨hp1, -, hp2⟩ := hp
    have hd : d'.size = L.length := by simpa using hp1
    obtain ⟨h1, h2⟩ := sorted_own (m := n) (os := os) ho hd
    refine ⟨rfl, d'.toList, ?_, ?_, h1, h2.mono (fun i _ e => by subst e; rfl)⟩
    · have e1 : d'.extract 0 L.toArray.size = d' := by rw [← hp1]; exact Array.extract_size
      have e2 : L.toArray.extract 0 L.toArray.size = L.toArray := Array.extract_size
      rw [e1, e2] at hp2
      exact hp2
    · rw [List.pairwise_iff_getElem]
      intro i j hi hj hij
      have hi' : i < d'.size := by simpa using hi
      have hj' : j < d'.size := by simpa using hj
      have := hs i j (Nat.zero_le _) hij (by simp; omega)
      rw [ltP, getElem!_pos d' j hj', getElem!_pos d' i hi'] at this
      simpa using this
end Go.Proofs.YtcicekggeampcaaGreat

/-
  What comes in, as the walks ask it: pairs, acts, a range.
-/
namespace Go.Proofs.YtcicekggeampcaaGreat
open Go.RowKit Go.ChangeShapes Go.WideShapes Go.ChangeAt Go.Deep
set_option maxRecDepth 4000
section
variable {H : Type} {enc : TypeId × Value → H} {W : World}
set_option maxRecDepth 4000
theorem weightsAll_mem {H : Type} {P : Program} {e : TypeId} : ∀ {l : List (DataW H)} {d : DataW H}, d ∈ l → ∀ n ∈ d.weights P e, n ∈ DataW.weightsAll P e l
  | d0 :: r, d, hd, n, hn => by
    simp only [DataW.weightsAll, List.mem_append]
    rcases List.mem_cons.1 hd with rfl | hd
    · exact .inl hn
    · exact .inr (weightsAll_mem hd n hn)
/-- A slice that came in, element by element. -/
theorem slice_open {α : Type} {E : Enc α} {t e : TypeId} (hn0 : 0 < E.n) (hu : Tryz.prog.underlying t = some (.slice e)) (hce : Tryz.prog.cellsOf e = E.n) {Q : α → DataW H → Prop} (z : α)
    (hinv : ∀ n cs y, DataW.trod enc Tryz.prog W 0 (fun _ => true) true n e cs = some y → ∃ x, cs = E.c x ∧ Q x y.1)
    {n0 : Nat} {a : Option Addr} {len cap : Nat} {y : DataW H × List MemPlace} (hf : DataW.trod enc Tryz.prog W 0 (fun _ => true) true n0 t [.slice a len cap] = some y) :
    ∃ L : List α, RdG E W (.slice a len cap) L ∧ ∀ x ∈ L, ∃ dx, Q x dx ∧ ∀ m ∈ dx.weights Tryz.prog e, m ∈ y.1.weights Tryz.prog t := by
  rcases open_slice hu hf with ⟨hcs, _⟩ | ⟨x, l, c, m, n, D, Pl, hcs, _, hl, hm, hmm, hxd, hx⟩
  · simp at hcs
    obtain ⟨rfl, rfl, rfl⟩ := hcs
    exact ⟨[], RdG_nil W, by simp⟩
  · simp at hcs
    obtain ⟨rfl, rfl, rfl⟩ := hcs
    have hlm : len ≤ m := by rw [hmm]; simp; exact hl
    have hall : ∀ j, j < len → ∃ v : α, W.cells? 0 (x.add (j * E.n)) E.n = some (E.c v) ∧ Q v (D j) := fun j hj => by
      obtain ⟨cs, h1, h2⟩ := hx j (by omega)
      rw [hce] at h1
      obtain ⟨v, rfl, hD⟩ := hinv _ _ _ h2
      exact ⟨v, h1, hD⟩
    obtain ⟨L, hLl, hL⟩ : ∃ L : List α, L.length = len ∧ ∀ j (hj : j < L.length), W.cells? 0 (x.add (j * E.n)) E.n = some (E.c L[j]) ∧ Q L[j] (D j) := by
      refine ⟨(List.range len).map fun j => if h : j < len then (hall j h).choose else z, by simp, fun j hj => ?_⟩
      simp only [List.length_map, List.length_range] at hj
      simp only [List.getElem_map, List.getElem_range, hj, dif_pos]
      exact (hall j hj).choose_spec
    refine ⟨L, ⟨some x, cap, by rw [hLl], by rw [hLl]; exact hl, hm, fun h => by simp at h, fun hp => ?_⟩, fun y' hy => ?_⟩
    · obtain ⟨b, off, spot⟩ := x
      have hcells : ∀ j (hj : j < L.length), ∀ i u, (E.c L[j])[i]? = some u → W.cell? (((⟨b, off, spot⟩ : Addr).add (j * E.n)).add i) = some u := fun j hj i u hu => by
        obtain ⟨_, hlen, hc⟩ := World.cells?_some (hL j hj).1
        have hi : i < E.n := by have := (List.getElem?_eq_some_iff.1 hu).1; rw [E.len] at this; exact this
        rw [hc i hi, hu]
      have hl0 : 0 < (E.c L[0]).length := by rw [E.len]; exact hn0
      have h0 : W.cell? ⟨b, off, spot⟩ = some ((E.c L[0])[0]) := by
        have := hcells 0 hp 0 _ (List.getElem?_eq_getElem hl0)
        simpa [Addr.add] using this
      have hspot : spot = none := by simpa using World.cell?_spot h0
      subst hspot
      refine ⟨b, off, rfl, World.block_lt_of_cell? _ _ h0, fun j u hj => ?_⟩
      have hjl : j < (E.cs L).length := (List.getElem?_eq_some_iff.1 hj).1
      rw [Enc.cs_length] at hjl
      have h3 : j / E.n < L.length := (Nat.div_lt_iff_lt_mul hn0).2 hjl
      have hm3 : j % E.n < (E.c L[j / E.n]).length := by rw [E.len]; exact Nat.mod_lt _ hn0
      have e1 := Enc.cs_get h3 (i := j % E.n) (u := (E.c L[j / E.n])[j % E.n]) (List.getElem?_eq_getElem hm3)
      have e2 : j / E.n * E.n + j % E.n = j := Nat.div_add_mod' j E.n
      rw [e2, hj] at e1
      have := hcells (j / E.n) h3 (j % E.n) u (by rw [List.getElem?_eq_getElem hm3]; exact e1.symm)
      rwa [Addr.add_lit, Addr.add_lit, Nat.add_assoc, e2] at this
    · obtain ⟨i, hi, rfl⟩ := List.getElem_of_mem hy
      refine ⟨D i, (hL i hi).2, fun m' hm' => ?_⟩
      rw [hxd]
      simp only [DataW.weights, hu, List.mem_cons, List.mem_append]
      exact .inr (.inl (weightsAll_mem (d := D i) (List.mem_map.2 ⟨i, by simp; omega, rfl⟩) _ hm'))
def prD (p : Pr) : DataW H := .agg [.lit (.string p.1.data.toList), .lit (.string p.2.1.data.toList), .lit (.bool p.2.2)]
theorem pair_cells (n : Nat) (cs : List Value) (y : DataW H × List MemPlace) (h : DataW.trod enc Tryz.prog W 0 (fun _ => true) true n 51 cs = some y) : ∃ p : Pr, cs = PC p ∧ y.1 = prD p := by
  obtain ⟨xs, k, _, rfl, hl, hlen, hf⟩ := DataW.trod_struct Tryz.underlying51 h
  have hcl : cs.length = 3 := by rw [hl]; kernel_rfl
  match cs, hcl with
  | [c0, c1, c2], _ =>
    have k9 : Tryz.prog.cellsOf 9 = 1 := by kernel_rfl
    have k4 : Tryz.prog.cellsOf 4 = 1 := by kernel_rfl
    have hx3 : xs.length = 3 := hlen
    match xs, hx3 with
    | [x0, x1, x2], _ =>
      have g0 : DataW.trod enc Tryz.prog W 0 (fun _ => true) true k 9 [c0] = some x0 := by simpa [k9] using hf 0 _ rfl
      have g1 : DataW.trod enc Tryz.prog W 0 (fun _ => true) true k 9 [c1] = some x1 := by simpa [k9] using hf 1 _ rfl
      have g2 : DataW.trod enc Tryz.prog W 0 (fun _ => true) true k 4 [c2] = some x2 := by simpa [k4] using hf 2 _ rfl
      obtain ⟨s0, e0, rfl, _⟩ := DataW.trod_string Tryz.underlying9 g0
      obtain ⟨s1, e1, rfl, _⟩ := DataW.trod_string Tryz.underlying9 g1
      obtain ⟨b, e2, rfl⟩ := DataW.trod_bool Tryz.underlying4 g2
      simp only [List.cons.injEq, and_true] at e0 e1 e2
      subst e0 e1 e2
      exact ⟨(s0, s1, b), rfl, rfl⟩
theorem prD_weight (p : Pr) : p.1.size ∈ (prD (H := H) p).weights Tryz.prog 51 ∧ p.2.1.size ∈ (prD (H := H) p).weights Tryz.prog 51 := by
  have e : p.1.data.toList.length = p.1.size := Array.length_toList
  have e' : p.2.1.data.toList.length = p.2.1.size := Array.length_toList
  simp [prD, DataW.weights, Tryz.underlying51, DataW.weightsEach, e, e']
/-- Strings that came in are no longer than may be. -/
def PrOk (p : Pr) : Prop := p.1.size ≤ 140737488355328 ∧ p.2.1.size ≤ 140737488355328
theorem le_reach {ws : List Nat} (hsz : ws.all (· ≤ reachBytes) = true) {m : Nat} (h : m ∈ ws) : m ≤ 140737488355328 := by
  have := of_decide_eq_true (List.all_eq_true.1 hsz m h)
  simp only [reachBytes] at this
  omega
end
end Go.Proofs.YtcicekggeampcaaGreat

/-
  Rows of pairs: literals, stores of their slices.
-/
namespace Go.Proofs.YtcicekggeampcaaGreat
open Go.RowKit
theorem build_row1 (p : Pr) (w : World) : (Instr.buildSlice 35 1 #[(0, .agg (PC p).toArray)]).run Tryz.prog w = .ok (.slice (some ⟨w.heap.size, 0, none⟩) 1 1) (w.alloc (.cells (PC p).toArray 51 (0, 0))) := by kernel_rfl
theorem build_row0 (w : World) : (Instr.buildSlice 35 0 #[]).run Tryz.prog w = .ok (.slice (some ⟨w.heap.size, 0, none⟩) 0 0) (w.alloc (.cells #[] 51 (0, 0))) := by kernel_rfl
theorem wp_build_row {o : Oper} {a : Act} {w : World} {K : Act → World → Prop} {Q : Exit → Act → World → Prop} (x : Operand) (ho : o.op = .buildSlice 35 1 #[(0, x)]) (p : Pr) (hx : a.eval x = .agg (PC p).toArray)
    (h : K (a.put o.dst (.slice (some ⟨w.heap.size, 0, none⟩) 1 1)) (w.alloc (.cells (PC p).toArray 51 (0, 0)))) : o.wp Tryz.prog a w K Q := by
  have hr := build_row1 p w
  unfold Oper.wp execOp
  simp only [ho, hx, hr, List.map_toArray, List.map_cons, List.map_nil, Sem.run_bind, Sem.run_pure, Result.andThen_ok]
  exact h
theorem wp_store_ps {w : World} {o : Oper} {a : Act} {K : Act → World → Prop} {Q : Exit → Act → World → Prop} (x y : Operand) (ho : o.op = .store 35 x y) (b : Nat) (T : TypeId) (u : Value) (p : Option Addr) (n c : Nat)
    (hx : a.eval x = .pointer (some ⟨b, 0, none⟩)) (hy : a.eval y = .slice p n c) (hB : Blk w b T [u]) (h : ∀ w', Blk w' b T [.slice p n c] → But b w w' → K (a.put o.dst undef) w') : o.wp Tryz.prog a w K Q := by
  have hc := hB.cell (j := 0) (v := u) rfl
  have hf := hB.frozen 0
  have hrun : (execOp a.eval o).run Tryz.prog w = .ok .skip (w.setCell ⟨b, 0, none⟩ (.slice p n c)) := by
    simp only [execOp, ho, hx, hy]
    go_simp
  unfold Oper.wp
  rw [hrun]
  exact h _ (hB.set 0 (.slice p n c)) (But.setCell b w 0 _)
theorem wpList_build_row {ops : Array Oper} {rest : List Oper} {o : Oper} {a : Act} {w : World} {Q : Exit → Act → World → Prop} (hgd : o.guard = none) (x : Operand) (ho : o.op = .buildSlice 35 1 #[(0, x)]) (p : Pr) (hx : a.eval x = .agg (PC p).toArray)
    (h : wpList Tryz.prog ops Q rest (a.put o.dst (.slice (some ⟨w.heap.size, 0, none⟩) 1 1)) (w.alloc (.cells (PC p).toArray 51 (0, 0)))) : wpList Tryz.prog ops Q (o :: rest) a w :=
  wpList_plain hgd fun _ hK => wp_build_row x ho p hx (hK _ _ h)
theorem wpList_store_ps {w : World} {ops : Array Oper} {rest : List Oper} {o : Oper} {a : Act} {Q : Exit → Act → World → Prop} (hgd : o.guard = none) (x y : Operand) (ho : o.op = .store 35 x y) (b : Nat) (T : TypeId) (u : Value) (p : Option Addr) (n c : Nat)
    (hx : a.eval x = .pointer (some ⟨b, 0, none⟩)) (hy : a.eval y = .slice p n c) (hB : Blk w b T [u]) (h : ∀ w', Blk w' b T [.slice p n c] → But b w w' → wpList Tryz.prog ops Q rest (a.put o.dst undef) w') : wpList Tryz.prog ops Q (o :: rest) a w :=
  wpList_plain hgd fun _ hK => wp_store_ps x y ho b T u p n c hx hy hB (fun w' h1 h2 => hK _ _ (h w' h1 h2))
end Go.Proofs.YtcicekggeampcaaGreat
