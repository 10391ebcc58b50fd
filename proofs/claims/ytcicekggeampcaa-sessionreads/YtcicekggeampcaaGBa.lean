/-
  Texts that ride together: BfC BfW BfO BfS BfX BfL.
-/
import Derived.Test.YtcicekggeampcaaGG
import Derived.Shelf.SlSortCmp.NoneTotal
import Derived.Lib.Bytealg
import Derived.Laws.Externs
import Derived.Lib.Walk
import Derived.Test.YtcicekggeampcaaGK
import Derived.Deep.Slices
import Derived.Lib.SmallJoins
/-
  package buffer: New, isMade, Len, Get, write, Put, Drop: what the calls do.
-/
namespace Go.Proofs.Ytcicekggeampcaa
open Go.RowKit
set_option maxRecDepth 100000 in
theorem bNew_any (w : World) : Calls Try.prog 37 #[] w fun e w' => ∃ D M, e = .returned (PT D) ∧ BAt w' D M [] ∧ w.heap.size ≤ D ∧ w.heap.size ≤ M ∧ Below w.heap.size w w' := by
  have hmm := @run_makeMap Try.prog
  have HM := hide (MapP_made w)
  have HB : Hid (Below w.heap.size w (w.alloc (.map #[] 0))) := (Below.refl _ _).alloc (Nat.le_refl _) _
  go_enter Try.func37, Try.ntmps37
  go_wp2
  go_ret
  refine ⟨_, w.heap.size, rfl, ⟨by have := Blk.new (w.alloc (.map #[] 0)) 117 [.map (some w.heap.size)]; rw [World.size_alloc] at this; exact this, ?_, List.Pairwise.nil, by simp⟩, by simp, Nat.le_refl _, ?_⟩
  · exact HM.out.chg (F := fun _ => False) (Chg.of_below ((Below.refl _ _).alloc (Nat.le_refl _) _)) id
  · exact HB.out.alloc HB.out.size _
theorem ne_map (M : Nat) : ∀ W : World, (binOp .neq 115 (.map (some M)) (.map none)).run Try.prog W = .ok (.bool true) W := fun W => by kernel_rfl
theorem ne_map0 : ∀ W : World, (binOp .neq 115 (.map none) (.map none)).run Try.prog W = .ok (.bool false) W := fun W => by kernel_rfl
set_option maxRecDepth 100000 in
theorem bMade_any {w : World} {D M : Nat} (hB : Blk w D 117 [.map (some M)]) : Calls Try.prog 61 #[PT D] w fun e w' => e = .returned (.bool true) ∧ w' = w := by
  have c0 := hB.cell (j := 0) rfl
  clear hB
  have hne := ne_map M
  go_enter Try.func61, Try.ntmps61
  go_wp2
  go_ret
  exact ⟨rfl, rfl⟩
/-- A Buffer that no call made. -/
def Un (w : World) (v : Value) : Prop := v = .pointer none ∨ ∃ D, v = PT D ∧ Blk w D 117 [.map none]
theorem Un.chg {w w' : World} {v : Value} (h : Un w v) {F : Nat → Prop} (hc : Chg F w w') (hF : ∀ D, v = PT D → ¬ F D) : Un w' v := by
  rcases h with rfl | ⟨D, rfl, hB⟩
  · exact .inl rfl
  · exact .inr ⟨D, rfl, hB.chg hc (hF D rfl)⟩
theorem Un.kept {w w' : World} {v : Value} (h : Un w v) (hb : Below w.heap.size w w') : Un w' v := h.chg (F := fun _ => False) (Chg.of_below hb) (fun _ _ => id)
set_option maxRecDepth 100000 in
theorem uMade_any {w : World} {v : Value} (h : Un w v) : Calls Try.prog 61 #[v] w fun e w' => e = .returned (.bool false) ∧ w' = w := by
  have hne := ne_map0
  rcases h with rfl | ⟨D, rfl, hB⟩
  · go_enter Try.func61, Try.ntmps61
    go_wp2
    go_ret
    exact ⟨rfl, rfl⟩
  · have c0 := hB.cell (j := 0) rfl
    clear hB
    go_enter Try.func61, Try.ntmps61
    go_wp2
    go_ret
    exact ⟨rfl, rfl⟩
set_option maxRecDepth 100000 in
theorem uWrites_any {w : World} {v : Value} (h : Un w v) : Calls Try.prog 49 #[v] w fun e w' => e = .returned (.slice none 0 0) ∧ w' = w := by
  have CM := hide (uMade_any h)
  clear h
  go_enter Try.func49, Try.ntmps49
  go_wp2_with fail
  refine CM.out.mono ?_
  rintro e w_ ⟨rfl, hw⟩
  subst w_
  go_wp2_with fail
  go_ret
  exact ⟨rfl, rfl⟩
set_option maxHeartbeats 1000000 in
set_option maxRecDepth 100000 in
theorem bGet_any {w : World} {D M : Nat} {L : List Pr} (h : BAt w D M L) (k : ByteArray) (hk : k.size ≤ maxLen) : Calls Try.prog 42 #[PT D, .string k] w fun e w' => e = .returned (.tuple #[.agg (PC ((getB L k).getD zp)).toArray, .bool (getB L k).isSome]) ∧ Below w.heap.size w w' := by
  have hz := Zpair
  have H := hide h
  clear h
  obtain ⟨q, HQ⟩ : ∃ q, Hid ((getB L k).getD zp = q) := ⟨_, rfl⟩
  obtain ⟨ok, HO⟩ : ∃ q, Hid ((getB L k).isSome = q) := ⟨_, rfl⟩
  rw [HQ.out, HO.out]
  obtain ⟨N, HN⟩ : ∃ N, Hid (w.heap.size = N) := ⟨_, rfl⟩
  go_enter Try.func42, Try.ntmps42
  go_wp2_with fail
  obtain ⟨w1, hw1⟩ : ∃ y, y = w.alloc (.cells #[.string ⟨#[]⟩, .string ⟨#[]⟩, .bool false] 48 (0, 0)) := ⟨_, rfl⟩
  rw [← hw1, HN.out]
  obtain ⟨B1, hb1⟩ := room_pair HN hw1
  have H1 := H.out.kept hb1
  have L1 := hide hb1
  have B1 := hide B1
  clear hw1 hb1
  have c0 := H1.d.cell (j := 0) rfl
  have hlk := H1.mp.look k hk
  rw [HQ.out, HO.out] at hlk
  refine (bMade_any H1.d).mono ?_
  rintro e w_ ⟨rfl, hw⟩
  subst w_
  clear H1
  go_wp2_with (first
    | (refine wpList_store_new rfl 48 _ _ rfl w1 _ (PC q).toArray _ rfl rfl rfl Try.size48 rfl (all_one (PC_one q)) ?_)
    | (refine wpList_load_mid rfl 48 _ rfl w1.heap.size 0 rfl (PC q) _ (Blk.new w1 48 (PC q)).range0 Try.underlying48 rfl Try.size48 ?_)
    | (refine wpList_store_blk rfl 48 _ _ rfl N (PC zp) (PC q) 48 rfl rfl (B1.out.alloc _) rfl Try.size48 (PC_one q) ?_; intro w5 hb5 hu5)
    | fail)
  refine bodyPost_ret (results_pair rfl _ _ N q ok 48 _ rfl rfl hb5 Try.underlying48 rfl Try.size48) rfl ⟨rfl, ?_⟩
  rw [HN.out]
  exact (L1.out.mono (Nat.le_of_eq HN.out.symm)).trans (((Below.refl _ _).alloc (Nat.le_of_lt B1.out.lt) _).trans (hu5.below (Nat.le_refl _) (by have := B1.out.lt; simp; omega)))
set_option maxHeartbeats 1000000 in
set_option maxRecDepth 100000 in
theorem uGet_any {w : World} {v : Value} (h : Un w v) (k : ByteArray) : Calls Try.prog 42 #[v, .string k] w fun e w' => e = .returned (.tuple #[.agg (PC zp).toArray, .bool false]) ∧ Below w.heap.size w w' := by
  have hz := Zpair
  have H := hide h
  clear h
  have hbd : ∀ W, (Instr.build 48 #[]).run Try.prog W = .ok (.agg (PC zp).toArray) W := fun W => by kernel_rfl
  obtain ⟨N, HN⟩ : ∃ N, Hid (w.heap.size = N) := ⟨_, rfl⟩
  go_enter Try.func42, Try.ntmps42
  go_wp2_with fail
  obtain ⟨w1, hw1⟩ : ∃ y, y = w.alloc (.cells #[.string ⟨#[]⟩, .string ⟨#[]⟩, .bool false] 48 (0, 0)) := ⟨_, rfl⟩
  rw [← hw1, HN.out]
  obtain ⟨B1, hb1⟩ := room_pair HN hw1
  have H1 := H.out.kept hb1
  have L1 := hide hb1
  have B1 := hide B1
  clear hw1 hb1
  refine (uMade_any H1).mono ?_
  rintro e w_ ⟨rfl, hw⟩
  subst w_
  clear H1
  go_wp2_with (first
    | (refine wpList_store_blk rfl 48 _ _ rfl N (PC zp) (PC zp) 48 rfl rfl B1.out rfl Try.size48 (PC_one zp) ?_; intro w5 hb5 hu5)
    | fail)
  refine bodyPost_ret (results_pair rfl _ _ N zp false 48 _ rfl rfl hb5 Try.underlying48 rfl Try.size48) rfl ⟨rfl, ?_⟩
  rw [HN.out]
  exact (L1.out.mono (Nat.le_of_eq HN.out.symm)).trans (hu5.below (Nat.le_refl _) (by have := B1.out.lt; omega))
set_option maxHeartbeats 1000000 in
set_option maxRecDepth 100000 in
theorem bRoom_any {w : World} {D M : Nat} {L : List Pr} (h : BAt w D M L) (k : ByteArray) (hk : k.size ≤ maxLen) : Calls Try.prog 80 #[PT D, .string k] w fun e w' => e = .returned (.bool ((getB L k).isSome || decide (L.length < 64))) ∧ Below w.heap.size w w' := by
  have hz := Zpair
  have H := hide h
  have c0 := h.d.cell (j := 0) rfl
  have hlk := h.mp.look k hk
  clear h
  obtain ⟨q, HQ⟩ : ∃ q, Hid ((getB L k).getD zp = q) := ⟨_, rfl⟩
  obtain ⟨ok, HO⟩ : ∃ q, Hid ((getB L k).isSome = q) := ⟨_, rfl⟩
  rw [HQ.out, HO.out] at hlk
  rw [HO.out]
  obtain ⟨n, HLn⟩ : ∃ n, Hid (L.length = n) := ⟨_, rfl⟩
  rw [HLn.out]
  obtain ⟨w2, hw2⟩ : ∃ y, y = w.alloc (.cells (PC q).toArray 48 (0, 0)) := ⟨_, rfl⟩
  have hb2 : Below w.heap.size w w2 := by rw [hw2]; exact (Below.refl _ _).alloc (Nat.le_refl _) _
  have H2 := H.out.kept hb2
  have c2 := H2.d.cell (j := 0) rfl
  have hl2 := H2.mp.len 3
  rw [HLn.out] at hl2
  have HB := hide hb2
  have HW2 := hide hw2
  clear hw2
  obtain ⟨b, HBb⟩ : ∃ b, Hid (decide (n < 64) = b) := ⟨_, rfl⟩
  have hb' : decide ((n : Int) < 64) = b := by rw [← HBb.out]; simp; omega
  rw [HBb.out]
  clear H2 hb2
  go_enter Try.func80, Try.ntmps80
  cases ok
  · go_wp2_with (first
      | (refine wpList_store_new rfl 48 _ _ rfl w _ (PC q).toArray _ rfl rfl rfl Try.size48 rfl (all_one (PC_one q)) ?_; rw [← HW2.out])
      | fail)
    go_ret
    exact ⟨rfl, HB.out⟩
  · go_wp2_with (first
      | (refine wpList_store_new rfl 48 _ _ rfl w _ (PC q).toArray _ rfl rfl rfl Try.size48 rfl (all_one (PC_one q)) ?_; rw [← HW2.out])
      | fail)
    go_ret
    exact ⟨rfl, HB.out⟩
end Go.Proofs.Ytcicekggeampcaa

/-
  package buffer: write, Put, Drop: what the calls do.
-/
namespace Go.Proofs.Ytcicekggeampcaa
open Go.RowKit
theorem wp_run_u {P : Program} {o : Oper} {a : Act} {w w' : World} {K : Act → World → Prop} {Q : Exit → Act → World → Prop} (h : (execOp a.eval o).run P w = .ok .skip w') (hK : K (a.put o.dst undef) w') : o.wp P a w K Q := by
  unfold Oper.wp
  rw [h]
  exact hK
set_option maxHeartbeats 2000000 in
set_option maxRecDepth 100000 in
theorem bWrite_any {w : World} {D M : Nat} {L : List Pr} (h : BAt w D M L) (p : Pr) (hk0 : p.1.size ≤ maxLen) : Calls Try.prog 63 #[PT D, .agg (PC p).toArray] w fun e w' => e = .returned (.int .i64 (wrE L p)) ∧ BAt w' D M (wrB L p) ∧ Chg (fun b => b = M) w w' := by
  have H := hide h
  clear h
  obtain ⟨E, HN⟩ : ∃ N, Hid (w.heap.size = N) := ⟨_, rfl⟩
  obtain ⟨ks, HKS⟩ : ∃ N, Hid (p.1.size = N) := ⟨_, rfl⟩
  obtain ⟨vs, HVS⟩ : ∃ N, Hid (p.2.1.size = N) := ⟨_, rfl⟩
  have HW : Hid (∀ e, wrE L p = e → e ≠ 0 → wrB L p = L) := (show _ from fun e he hn => by unfold wrB; rw [if_neg (by rw [he]; exact hn)])
  obtain ⟨w1, hw1⟩ : ∃ y, y = w.alloc (.cells (PC p).toArray 48 (0, 0)) := ⟨_, rfl⟩
  have hb1 : Below w.heap.size w w1 := by rw [hw1]; exact (Below.refl _ _).alloc (Nat.le_refl _) _
  have B1 : Hid (Blk w1 E 48 (PC p)) := (show Blk _ _ _ _ by rw [hw1, ← HN.out]; exact Blk.new w 48 (PC p))
  have H1 := hide (H.out.kept hb1)
  have L1 := hide hb1
  have HW1 := hide hw1
  clear hw1 hb1
  have c0 := B1.out.key
  have c1 := B1.out.val
  have hls : ∀ W, (Builtin.len_ #[9] 3 #[.string p.1]).run Try.prog W = .ok (.int .i64 (ks : Int)) W := fun W => by rw [← HKS.out]; simp [Builtin.len_, go_sem]
  have hlv : ∀ W, (Builtin.len_ #[9] 3 #[.string p.2.1]).run Try.prog W = .ok (.int .i64 (vs : Int)) W := fun W => by rw [← HVS.out]; simp [Builtin.len_, go_sem]
  have CM := hide (bMade_any H1.out.d)
  have CR := hide (bRoom_any H1.out p.1 hk0)
  go_enter Try.func63, Try.ntmps63
  go_wp2_with fail
  rw [HN.out]
  change Calls _ _ _ (w.alloc (.cells (PC p).toArray 48 (0, 0))) _
  rw [← HW1.out]
  refine CM.out.mono ?_
  rintro e w_ ⟨rfl, hw⟩
  subst w_
  by_cases h1 : ks < 1
  · have q1 : decide ((ks : Int) < 1) = true := by simp; omega
    have HE : Hid (wrE L p = 2) := (show _ = _ by unfold wrE; rw [HKS.out, if_pos (.inl h1)])
    go_wp2_with fail
    go_ret
    exact ⟨by rw [HE.out]; rfl, by rw [HW.out _ HE.out (by decide)]; exact H1.out, Chg.of_below L1.out⟩
  · have q1 : decide ((ks : Int) < 1) = false := by simp; omega
    by_cases h2 : 64 < ks
    · have q2 : decide (64 < (ks : Int)) = true := by simp; omega
      have HE : Hid (wrE L p = 2) := (show _ = _ by unfold wrE; rw [HKS.out, if_pos (.inr h2)])
      go_wp2_with fail
      go_ret
      exact ⟨by rw [HE.out]; rfl, by rw [HW.out _ HE.out (by decide)]; exact H1.out, Chg.of_below L1.out⟩
    · have q2 : decide (64 < (ks : Int)) = false := by simp; omega
      by_cases h3 : 256 < vs
      · have q3 : decide (256 < (vs : Int)) = true := by simp; omega
        have HE : Hid (wrE L p = 12) := (show _ = _ by unfold wrE; rw [HKS.out, HVS.out, if_neg (by omega), if_pos h3])
        go_wp2_with fail
        go_ret
        exact ⟨by rw [HE.out]; rfl, by rw [HW.out _ HE.out (by decide)]; exact H1.out, Chg.of_below L1.out⟩
      · have q3 : decide (256 < (vs : Int)) = false := by simp; omega
        obtain ⟨rm, HR⟩ : ∃ b, Hid (((getB L p.1).isSome || decide (L.length < 64)) = b) := ⟨_, rfl⟩
        rw [HR.out] at CR
        go_wp2_with fail
        refine CR.out.mono ?_
        rintro e w2 ⟨rfl, hb2⟩
        have H2 := hide (H1.out.kept hb2)
        have B2 := hide (B1.out.kept hb2)
        have L2 : Hid (Below w.heap.size w w2) := (show _ from L1.out.trans (hb2.mono L1.out.size))
        clear hb2 c0 c1 CM CR
        cases rm with
        | false =>
          have HE : Hid (wrE L p = 13) := (show _ = _ by
            unfold wrE
            rw [HKS.out, HVS.out, if_neg (by omega), if_neg h3, if_pos]
            have hr := HR.out
            simp only [Bool.or_eq_false_iff, decide_eq_false_iff_not] at hr
            exact ⟨by simpa using hr.1, by omega⟩)
          go_wp2_with fail
          go_ret
          exact ⟨by rw [HE.out]; rfl, by rw [HW.out _ HE.out (by decide)]; exact H2.out, Chg.of_below L2.out⟩
        | true =>
          have HE0 : Hid (wrE L p = 0) := (show _ = _ by
            unfold wrE
            rw [HKS.out, HVS.out, if_neg (by omega), if_neg h3, if_neg]
            rintro ⟨g1, g2⟩
            have hr := HR.out
            simp only [Bool.or_eq_true, decide_eq_true_eq] at hr
            rcases hr with hr | hr
            · rw [Option.isNone_iff_eq_none] at g1
              rw [g1] at hr
              cases hr
            · omega)
          go_upto_region 9 with fail
          refine wp_region_tails Try.mixed (KS (fun i_ => match i_ with | 0 => .val (PT D) | 1 | 2 => .val (.pointer (some ⟨D, 0, none⟩)) | 3 => .val (.map (some M)) | 4 => .val (.pointer (some ⟨E, 0, none⟩)) | 5 => .val (.string p.1) | 6 => .val (.agg (PC p).toArray) | _ => .free)) 38 rfl (by decide +kernel) 7 (by decide) (by decide +kernel) (KS_mono _) ?_ ?_
          · refine AllFrom.cons ⟨rfl, fun a' w' hg hk hd => ?_⟩ (AllFrom.cons ⟨rfl, fun a' w' hg hk hd => ?_⟩ (AllFrom.cons ⟨rfl, fun a' w' hg hk hd => ?_⟩ (AllFrom.cons ⟨rfl, fun a' w' hg hk hd => ?_⟩ (AllFrom.cons ⟨rfl, fun a' w' hg hk hd => ?_⟩ (AllFrom.cons ⟨rfl, fun a' w' hg hk hd => ?_⟩ (AllFrom.cons ⟨rfl, fun a' w' hg hk hd => ?_⟩ AllFrom.nil))))))
            · skip
              intro Q
              have e0 : a'.eval (.tmp 0) = PT D := hk.at 0 (by decide +kernel)
              exact wp_value _ (by simp only [execOp, e0]; rfl) (KS_mkv rfl rfl)
            · skip
              intro Q
              have e31 : a'.eval (.tmp 31) = PT D := KS_val (hd.val 0 31 (by decide +kernel)) rfl
              clear hd hk
              exact wp_value (.pointer (some ⟨D, 0, none⟩)) (by simp only [execOp, e31]; go_simp) (KS_mkv rfl rfl)
            · skip
              intro Q
              have e32 : a'.eval (.tmp 32) = .pointer (some ⟨D, 0, none⟩) := KS_val (hd.val 1 32 (by decide +kernel)) rfl
              clear hd hk
              exact wp_value (.pointer (some ⟨D, 0, none⟩)) (by simp only [execOp, e32]; go_simp) (KS_mkv rfl rfl)
            · skip
              intro Q
              have e33 : a'.eval (.tmp 33) = .pointer (some ⟨D, 0, none⟩) := KS_val (hd.val 2 33 (by decide +kernel)) rfl
              have hc := (H2.out.kept hg).d.cell (j := 0) rfl
              clear hd hk
              exact wp_value (.map (some M)) (by simp only [execOp, e33]; go_simp) (KS_mkv rfl rfl)
            · skip
              intro Q
              have e3 : a'.eval (.tmp 3) = .pointer (some ⟨E, 0, none⟩) := hk.at 3 (by decide +kernel)
              clear hd hk
              exact wp_value (.pointer (some ⟨E, 0, none⟩)) (by simp only [execOp, e3]; go_simp) (KS_mkv rfl rfl)
            · skip
              intro Q
              have e35 : a'.eval (.tmp 35) = .pointer (some ⟨E, 0, none⟩) := KS_val (hd.val 4 35 (by decide +kernel)) rfl
              have hc := (B2.out.kept hg).key
              clear hd hk
              exact wp_value (.string p.1) (by simp only [execOp, e35]; go_simp) (KS_mkv rfl rfl)
            · skip
              intro Q
              have e3 : a'.eval (.tmp 3) = .pointer (some ⟨E, 0, none⟩) := hk.at 3 (by decide +kernel)
              exact wp_load_row 48 _ rfl _ _ e3 (PC (p)) _ ((B2.out.kept hg).range0) Try.underlying48 rfl (Try.size48) (KS_mkv rfl rfl)
          · intro a' w3 hsz hdf hk hall hg
            have e34 : a'.eval (.tmp 34) = .map (some M) := KS_val (hall 3 _ 34 (by decide) rfl rfl) rfl
            have e36 : a'.eval (.tmp 36) = .string p.1 := KS_val (hall 5 _ 36 (by decide) rfl rfl) rfl
            have e37 : a'.eval (.tmp 37) = .agg (PC p).toArray := KS_val (hall 6 _ 37 (by decide) rfl rfl) rfl
            refine ⟨rfl, ?_⟩
            have H3 := H2.out.kept hg
            obtain ⟨w4, hrun, hm4, ht4⟩ := H3.mp.put H3.srt (by have := H3.len; omega) p hk0
            refine wp_run_u (by simp only [execOp, e34, e36, e37, hrun, Sem.run_bind, Sem.run_pure, Result.andThen_ok]; rfl) ?_
            refine ⟨_, rfl, ?_⟩
            have C4 : Chg (fun b => b = M) w3 w4 := Chg.turned ht4 rfl
            have H4 : Hid (BAt w4 D M (insB p L)) := (show BAt _ _ _ _ from ⟨H3.d.chg C4 (fun e => H3.ne e), hm4, insB_srt H3.srt, by have := wrB_len (p := p) H3.srt H3.len; unfold wrB at this; rwa [if_pos HE0.out] at this⟩)
            have L4 : Hid (Chg (fun b => b = M) w w4) := (show _ from ((Chg.of_below L2.out).trans (Chg.of_below hg)).trans C4)
            obtain ⟨z1, f1⟩ : ∃ v, a'.eval (.tmp 31) = v := ⟨_, rfl⟩
            obtain ⟨z2, f2⟩ : ∃ v, a'.eval (.tmp 32) = v := ⟨_, rfl⟩
            obtain ⟨z3, f3⟩ : ∃ v, a'.eval (.tmp 33) = v := ⟨_, rfl⟩
            obtain ⟨z5, f5⟩ : ∃ v, a'.eval (.tmp 35) = v := ⟨_, rfl⟩
            have ha := act_puts 38 rfl hsz hdf hk [31, 32, 33, 34, 35, 36, 37] (by decide +kernel)
            simp only [puts, List.foldl_cons, List.foldl_nil, f1, f2, f3, e34, f5, e36, e37] at ha
            simp only [Act.put, List.setIfInBounds_toArray, List.set_cons_succ, List.set_cons_zero] at ha
            show Exit.then _ _ Exit.normal { tmps := a'.tmps, defers := a'.defers } w4
            subst ha
            clear hall hk hsz hdf hg H3 hrun hm4 ht4 C4 e34 e36 e37 f1 f2 f3 f5 H2 B2 L2
            go_wp2_with fail
            go_ret
            exact ⟨by rw [HE0.out]; rfl, by unfold wrB; rw [if_pos HE0.out]; exact H4.out, L4.out⟩
set_option maxRecDepth 100000 in
theorem bPut_any {w : World} {D M : Nat} {L : List Pr} (h : BAt w D M L) (k v : ByteArray) (hk0 : k.size ≤ maxLen) : Calls Try.prog 47 #[PT D, .string k, .string v] w fun e w' => e = .returned (.int .i64 (wrE L (k, v, false))) ∧ BAt w' D M (wrB L (k, v, false)) ∧ Chg (fun b => b = M) w w' := by
  have hz := Zpair
  have CW := hide (bWrite_any h (k, v, false) hk0)
  obtain ⟨r, HR⟩ : ∃ r, Hid (wrE L (k, v, false) = r) := ⟨_, rfl⟩
  rw [HR.out] at CW ⊢
  go_enter Try.func47, Try.ntmps47
  go_wp2_with fail
  refine CW.out.mono ?_
  rintro e w2 ⟨rfl, h2, c2⟩
  have H2 := hide h2
  have C2 := hide c2
  clear h2 c2
  go_wp2_with fail
  go_ret
  exact ⟨rfl, H2.out, C2.out⟩
set_option maxRecDepth 100000 in
theorem bDrop_any {w : World} {D M : Nat} {L : List Pr} (h : BAt w D M L) (k : ByteArray) (hk0 : k.size ≤ maxLen) : Calls Try.prog 46 #[PT D, .string k] w fun e w' => e = .returned (.int .i64 (wrE L (k, em, true))) ∧ BAt w' D M (wrB L (k, em, true)) ∧ Chg (fun b => b = M) w w' := by
  have hz := Zpair
  have CW := hide (bWrite_any h (k, em, true) hk0)
  obtain ⟨r, HR⟩ : ∃ r, Hid (wrE L (k, em, true) = r) := ⟨_, rfl⟩
  rw [HR.out] at CW ⊢
  go_enter Try.func46, Try.ntmps46
  go_wp2_with fail
  refine CW.out.mono ?_
  rintro e w2 ⟨rfl, h2, c2⟩
  have H2 := hide h2
  have C2 := hide c2
  clear h2 c2
  go_wp2_with fail
  go_ret
  exact ⟨rfl, H2.out, C2.out⟩
set_option maxRecDepth 100000 in
theorem uWrite_any {w : World} {v : Value} (h : Un w v) (p : Pr) : Calls Try.prog 63 #[v, .agg (PC p).toArray] w fun e w' => e = .returned (.int .i64 1) ∧ Below w.heap.size w w' := by
  have hb1 : Below w.heap.size w (w.alloc (.cells (PC p).toArray 48 (0, 0))) := (Below.refl _ _).alloc (Nat.le_refl _) _
  have CM := hide (uMade_any (h.kept hb1))
  have HB := hide hb1
  clear hb1 h
  go_enter Try.func63, Try.ntmps63
  go_wp2_with fail
  refine CM.out.mono ?_
  rintro e w_ ⟨rfl, hw⟩
  subst w_
  go_wp2_with fail
  go_ret
  exact ⟨rfl, HB.out⟩
set_option maxRecDepth 100000 in
theorem uPut_any {w : World} {u : Value} (h : Un w u) (k v : ByteArray) : Calls Try.prog 47 #[u, .string k, .string v] w fun e w' => e = .returned (.int .i64 1) ∧ Below w.heap.size w w' := by
  have hz := Zpair
  have CW := hide (uWrite_any h (k, v, false))
  clear h
  go_enter Try.func47, Try.ntmps47
  go_wp2_with fail
  refine CW.out.mono ?_
  rintro e w2 ⟨rfl, h2⟩
  have H2 := hide h2
  clear h2
  go_wp2_with fail
  go_ret
  exact ⟨rfl, H2.out⟩
set_option maxRecDepth 100000 in
theorem uDrop_any {w : World} {u : Value} (h : Un w u) (k : ByteArray) : Calls Try.prog 46 #[u, .string k] w fun e w' => e = .returned (.int .i64 1) ∧ Below w.heap.size w w' := by
  have hz := Zpair
  have CW := hide (uWrite_any h (k, em, true))
  clear h
  go_enter Try.func46, Try.ntmps46
  go_wp2_with fail
  refine CW.out.mono ?_
  rintro e w2 ⟨rfl, h2⟩
  have H2 := hide h2
  clear h2
  go_wp2_with fail
  go_ret
  exact ⟨rfl, H2.out⟩
end Go.Proofs.Ytcicekggeampcaa

/-
  slices.SortFunc over pairs: the library's contract laid at this program.
-/
namespace Go.Proofs.Ytcicekggeampcaa
open Go.Shelf
def Try.sortP_ren : Go.Shelf.Ren := ⟨fun | 6 => 82 | 15 => 90 | 14 => 89 | 28 => 100 | 29 => 101 | 20 => 92 | 21 => 93 | 22 => 94 | 23 => 95 | 24 => 96 | 25 => 97 | 26 => 98 | 27 => 99 | 46 => 102 | 47 => 103 | 48 => 104 | 49 => 105 | 50 => 106 | 57 => 107 | n => n, fun | 22 => 29 | 24 => 48 | 25 => 132 | 3 => 3 | 39 => 50 | 0 => 0 | 53 => 157 | 55 => 159 | 4 => 4 | 46 => 151 | 45 => 150 | 50 => 113 | 5 => 5 | 9 => 9 | 66 => 160 | 70 => 164 | 76 => 166 | 77 => 167 | n => n, fun | n => n⟩
theorem Try.sortP : Go.Proofs.SlLaysF0.n6 Try.prog Try.sortP_ren :=
  { mixed := by kernel_rfl,
    f6 := ⟨Try.f82.name, by decide, Try.func82.trans (congrArg some (by kernel_rfl))⟩,
    f14 := ⟨Try.f89.name, by decide, Try.func89.trans (congrArg some (by kernel_rfl))⟩,
    f15 := Try.func90.trans (congrArg some (by kernel_rfl)),
    f20 := ⟨Try.f92.name, by decide, Try.func92.trans (congrArg some (by kernel_rfl))⟩,
    f21 := ⟨Try.f93.name, by decide, Try.func93.trans (congrArg some (by kernel_rfl))⟩,
    f22 := ⟨Try.f94.name, by decide, Try.func94.trans (congrArg some (by kernel_rfl))⟩,
    f23 := ⟨Try.f95.name, by decide, Try.func95.trans (congrArg some (by kernel_rfl))⟩,
    f24 := ⟨Try.f96.name, by decide, Try.func96.trans (congrArg some (by kernel_rfl))⟩,
    f25 := ⟨Try.f97.name, by decide, Try.func97.trans (congrArg some (by kernel_rfl))⟩,
    f26 := ⟨Try.f98.name, by decide, Try.func98.trans (congrArg some (by kernel_rfl))⟩,
    f27 := ⟨Try.f99.name, by decide, Try.func99.trans (congrArg some (by kernel_rfl))⟩,
    f28 := Try.func100.trans (congrArg some (by kernel_rfl)),
    f29 := Try.func101.trans (congrArg some (by kernel_rfl)),
    f46 := ⟨Try.f102.name, by decide, Try.func102.trans (congrArg some (by kernel_rfl))⟩,
    f47 := Try.func103.trans (congrArg some (by kernel_rfl)),
    f48 := Try.func104.trans (congrArg some (by kernel_rfl)),
    f49 := ⟨Try.f105.name, by decide, Try.func105.trans (congrArg some (by kernel_rfl))⟩,
    f50 := ⟨Try.f106.name, by decide, Try.func106.trans (congrArg some (by kernel_rfl))⟩,
    f57 := ⟨Try.f107.name, by decide, Try.func107.trans (congrArg some (by kernel_rfl))⟩,
    t0 := Try.underlying0,
    a0 := Try.isAgg0,
    z0 := Try.sizeOf0,
    v0 := Try.zeroValue0,
    t3 := Try.underlying3,
    a3 := Try.isAgg3,
    z3 := Try.sizeOf3,
    v3 := Try.zeroValue3,
    t4 := Try.underlying4,
    a4 := Try.isAgg4,
    z4 := Try.sizeOf4,
    v4 := Try.zeroValue4,
    t5 := Try.underlying5,
    a5 := Try.isAgg5,
    z5 := Try.sizeOf5,
    v5 := Try.zeroValue5,
    t9 := Try.underlying9,
    a9 := Try.isAgg9,
    z9 := Try.sizeOf9,
    v9 := Try.zeroValue9,
    t22 := Try.underlying29,
    a22 := Try.isAgg29,
    z22 := Try.sizeOf29,
    v22 := Try.zeroValue29,
    t25 := Try.underlying132,
    a25 := Try.isAgg132,
    z25 := Try.sizeOf132,
    v25 := Try.zeroValue132,
    t39 := Try.underlying50,
    a39 := Try.isAgg50,
    z39 := Try.sizeOf50,
    v39 := Try.zeroValue50,
    t45 := Try.underlying150,
    a45 := Try.isAgg150,
    z45 := Try.sizeOf150,
    v45 := Try.zeroValue150,
    t46 := Try.underlying151,
    a46 := Try.isAgg151,
    z46 := Try.sizeOf151,
    v46 := Try.zeroValue151,
    t50 := Try.underlying113,
    a50 := Try.isAgg113,
    z50 := Try.sizeOf113,
    v50 := Try.zeroValue113,
    t53 := Try.underlying157,
    a53 := Try.isAgg157,
    z53 := Try.sizeOf157,
    v53 := Try.zeroValue157,
    t55 := Try.underlying159,
    a55 := Try.isAgg159,
    z55 := Try.sizeOf159,
    v55 := Try.zeroValue159,
    t66 := Try.underlying160,
    a66 := Try.isAgg160,
    z66 := Try.sizeOf160,
    v66 := Try.zeroValue160,
    t70 := Try.underlying164,
    a70 := Try.isAgg164,
    z70 := Try.sizeOf164,
    v70 := Try.zeroValue164,
    t76 := Try.underlying166,
    a76 := Try.isAgg166,
    z76 := Try.sizeOf166,
    v76 := Try.zeroValue166,
    t77 := Try.underlying167,
    a77 := Try.isAgg167,
    z77 := Try.sizeOf167,
    v77 := Try.zeroValue167 }
end Go.Proofs.Ytcicekggeampcaa

/-
  strings.Compare, the order of Writes, slices.SortFunc over pairs: what the calls do.
-/
namespace Go.Proofs.Ytcicekggeampcaa
open Go.RowKit Go.Shelf
set_option maxRecDepth 100000 in
theorem cmps_any (a b : ByteArray) (w : World) : Calls Try.prog 84 #[.string a, .string b] w fun e w' => e = .returned (.int .i64 (Lib.compareBytes a.data.toList b.data.toList)) ∧ w' = w := by
  go_enter Try.func84, Try.ntmps84
  go_wp2
  rw [run_callFunc_extern Try.func91 (by kernel_rfl) (by kernel_rfl) (by kernel_rfl) (e := Extern.BytealgCompare.compare) (by kernel_rfl), Lib.run_compareString]
  simp only [Result.andThen]
  rw [Oper.upon_value]
  go_wp2
  go_ret
  exact ⟨rfl, rfl⟩
set_option maxRecDepth 100000 in
theorem compare_any (a b : ByteArray) (w : World) : Calls Try.prog 69 #[.string a, .string b] w fun e w' => e = .returned (.int .i64 (Lib.compareBytes a.data.toList b.data.toList)) ∧ w' = w := by
  have C := hide (cmps_any a b w)
  go_enter Try.func69, Try.ntmps69
  go_wp2_with fail
  refine C.out.mono ?_
  rintro e w_ ⟨rfl, hw⟩
  subst w_
  go_wp2_with fail
  go_ret
  exact ⟨rfl, rfl⟩
/-- How two pairs are held against each other. -/
def cfP (x y : Pr) : Int := Lib.compareBytes x.1.data.toList y.1.data.toList
theorem cmp_less : ∀ (x y : List UInt8), decide (Lib.compareBytes x y < 0) = Op.bytesLess x y
  | [], [] => rfl
  | [], b :: y => rfl
  | a :: x, [] => rfl
  | a :: x, b :: y => by
    unfold Lib.compareBytes
    by_cases h1 : a < b
    · rw [if_pos h1]
      simp [Op.bytesLess, h1]
    · rw [if_neg h1]
      by_cases h2 : b < a
      · rw [if_pos h2]
        have : a ≠ b := fun e => by subst e; exact h1 h2
        simp [Op.bytesLess, h1, this]
      · rw [if_neg h2, cmp_less x y]
        have e : a = b := by
          rw [UInt8.lt_iff_toNat_lt] at h1 h2
          exact UInt8.toNat_inj.1 (by omega)
        subst e
        simp [Op.bytesLess, h1]
theorem ltP (x y : Pr) : ltOf cfP x y = lt x.1 y.1 := by
  unfold ltOf cfP lt
  rw [cmp_less, ByteArray.toList_eq, ByteArray.toList_eq]
theorem swoP : Go.Sort.SWO (ltOf cfP) where
  irrefl x := by rw [ltP]; exact lt_irrefl _
  trans x y z h1 h2 := by rw [ltP] at *; exact lt_trans h1 h2
  ntrans x y z h1 h2 := by
    rw [ltP] at *
    cases h : lt x.1 z.1 with
    | false => rfl
    | true => rw [lt_of_not h h2] at h1; cases h1
set_option maxRecDepth 100000 in
theorem order_any (x y : Pr) (W : World) : Calls Try.prog 68 #[.agg (PC x).toArray, .agg (PC y).toArray] W fun e w' => e = .returned (.int .i64 (cfP x y)) ∧ ∃ q os', w' = Go.Sort.grow (W.drewN q) os' := by
  have C := fun W' => compare_any x.1 y.1 W'
  obtain ⟨r, HR⟩ : ∃ r, Hid (cfP x y = r) := ⟨_, rfl⟩
  rw [HR.out]
  have C' : ∀ W', Calls Try.prog 69 #[.string x.1, .string y.1] W' fun e w' => e = .returned (.int .i64 r) ∧ w' = W' := fun W' => by
    have := C W'
    rw [show Lib.compareBytes x.1.data.toList y.1.data.toList = r from HR.out] at this
    exact this
  have HC := hide C'
  clear C C'
  obtain ⟨xk, xv, xd⟩ := x
  obtain ⟨yk, yv, yd⟩ := y
  simp only [PC] at *
  go_enter Try.func68, Try.ntmps68
  go_wp2_with fail
  refine (HC.out _).mono ?_
  rintro e w_ ⟨rfl, hw⟩
  subst w_
  go_wp2_with fail
  go_ret
  exact ⟨rfl, 0, _, by rw [Go.Sort.alloc_eq_grow, Go.Sort.alloc_eq_grow, Go.Sort.grow_grow]; rfl⟩
theorem cmpLays_P (blk off size : Nat) (w : World) : CmpLays Try.prog 68 #[] PC 3 cfP blk off size w := fun _ _ _ _ x y => order_any x y _
theorem flat_cs (d : Array Pr) : (Go.Sort.flatK PC 3 d).toList = PE.cs d.toList := by
  apply List.ext_getElem?
  intro t
  by_cases ht : t < d.size * 3
  · have hj : t / 3 < d.toList.length := by simp; omega
    have hi : t % 3 < (PC d.toList[t / 3]).length := by show _ < 3; omega
    have h1 := Enc.cs_get (E := PE) (L := d.toList) hj (i := t % 3) (List.getElem?_eq_getElem hi)
    have e : t / 3 * PE.n + t % 3 = t := by show t / 3 * 3 + t % 3 = t; omega
    rw [e] at h1
    rw [h1]
    have h2 := Go.Sort.get_flatK PC 3 d t ht
    have hs : t < (Go.Sort.flatK PC 3 d).size := by simpa using ht
    rw [getElem!_pos _ t hs] at h2
    rw [Array.getElem?_toList, Array.getElem?_eq_getElem hs, h2]
    have h3 : t / 3 < d.size := by simpa using hj
    rw [getElem!_pos d _ h3]
    have h4 : t % 3 < (PC d[t / 3]).length := by show _ < 3; omega
    rw [getElem!_pos (PC d[t / 3]) _ h4]
    rfl
  · rw [List.getElem?_eq_none (by simp; omega), List.getElem?_eq_none (by rw [Enc.cs_length]; show d.toList.length * 3 ≤ t; simp; omega)]
/-- What a row is behind a sort. -/
theorem sorted_own {w : World} {B g cap m : Nat} {e : TypeId} {L : List Pr} {d' : Array Pr} {os : Array Obj} (ho : OwnG PE w B e (.slice (some ⟨g, 0, none⟩) L.length cap) L) (hs : d'.size = L.length) :
    OwnG PE (sortWorldK PC 3 w g 0 m d' os) B e (.slice (some ⟨g, 0, none⟩) L.length cap) d'.toList ∧ Chg (fun b => b = g) w (sortWorldK PC 3 w g 0 m d' os) := by
  obtain ⟨h1, h2⟩ := ho
  have hl : d'.toList.length = L.length := by simpa using hs
  rcases h2 with ⟨h, _⟩ | ⟨g', cap', cur, hv, hg, hh, hnc, hcm, hcs, htk⟩
  · cases h
  · cases hv
    have hlt : g < w.heap.size := (Array.getElem?_eq_some_iff.1 hh).1
    have hsz : (Go.Sort.mapBlock (Go.Sort.ahead w m) g (Go.Sort.putCells id 0 (Go.Sort.flatK PC 3 d'))).heap.size = w.heap.size := by simp [Go.Sort.mapBlock, Go.Sort.ahead]
    have hb : (sortWorldK PC 3 w g 0 m d' os).heap[g]? = some (.cells (Go.Sort.putCells id 0 (Go.Sort.flatK PC 3 d') cur) e (0, 0)) := by
      unfold sortWorldK Go.Sort.putRowK Go.Sort.putRow Go.Sort.grow
      simp only
      rw [Array.getElem?_append_left (by rw [hsz]; exact hlt)]
      simp only [Go.Sort.mapBlock, Go.Sort.ahead, Array.getElem?_modify, if_true, hh, Option.map_some, Go.Sort.onCells]
    have hF : (Go.Sort.putCells id 0 (Go.Sort.flatK PC 3 d') cur).toList.take (L.length * 3) = PE.cs d'.toList := by
      rw [← flat_cs]
      have hcap : L.length * 3 ≤ cur.size := by rw [hcs]; exact Nat.mul_le_mul_right _ hnc
      have hfs : (Go.Sort.flatK PC 3 d').size = L.length * 3 := by rw [Go.Sort.size_flatK, hs]
      apply List.ext_getElem?
      intro t
      by_cases ht : t < L.length * 3
      · rw [List.getElem?_take_of_lt ht, Array.getElem?_toList, Array.getElem?_toList]
        have htc : t < cur.size := by omega
        have htf : t < (Go.Sort.flatK PC 3 d').size := by omega
        simp only [Go.Sort.putCells, Array.getElem?_mapIdx, Array.getElem?_eq_getElem htc, Option.map_some, Array.getElem?_eq_getElem htf]
        rw [if_pos (by omega), Nat.sub_zero, getElem!_pos _ t htf]
        rfl
      · rw [List.getElem?_eq_none (by rw [List.length_take]; omega), List.getElem?_eq_none (by rw [Array.length_toList, hfs]; omega)]
    refine ⟨⟨?_, .inr ⟨g, cap, _, by rw [hl], hg, hb, by omega, hcm, by simpa [Go.Sort.putCells] using hcs, by rw [hl]; exact hF⟩⟩, ?_⟩
    · rw [Enc.cs_length]
    · refine ⟨rfl, rfl, rfl, ?_, fun k hk hn => ?_⟩
      · unfold sortWorldK Go.Sort.grow Go.Sort.putRowK Go.Sort.putRow
        rw [Array.size_append, hsz]
        omega
      · unfold sortWorldK Go.Sort.grow Go.Sort.putRowK Go.Sort.putRow
        simp only
        rw [Array.getElem?_append_left (by rw [hsz]; exact hk)]
        simp only [Go.Sort.mapBlock, Go.Sort.ahead, Array.getElem?_modify]
        rw [if_neg (fun e => hn e.symm)]
theorem sorts_any {w : World} {B : Nat} {v : Value} {L : List Pr} (ho : OwnG PE w B 48 v L) (hl : L.length ≤ 1000000) :
    Calls Try.prog 82 #[v, .func (.func 68) #[] #[]] w fun e w' => e = .returned (.tuple #[]) ∧ ∃ L', L'.Perm L ∧ L'.Pairwise (fun a b => lt b.1 a.1 = false) ∧ OwnG PE w' B 48 v L' ∧ Chg (fun b => v.ownBlock = some b) w w' := by
  by_cases h0 : L.length = 0
  · obtain ⟨a, cap, rfl⟩ := ho.form
    have hL : L = [] := List.eq_nil_of_length_eq_zero h0
    subst hL
    refine (AnyF.slices_SortFunc_none { Try.sortP with } a cap (.func (.func 68) #[] #[]) w).mono ?_
    rintro e w' ⟨rfl, rfl⟩
    exact ⟨rfl, [], List.Perm.refl _, List.Pairwise.nil, ho, Chg.refl _ _⟩
  · obtain ⟨g, cap, cur, rfl, hg, hB, -, -, -, -⟩ := ho.blk (by omega)
    have hH : Go.Sort.HoldsK PC 3 w g 0 L.toArray := by
      intro j hj
      have hj' : j < L.length * 3 := by simpa using hj
      have hjF : j < (Go.Sort.flatK PC 3 L.toArray).size := hj
      have e1 : (Go.Sort.flatK PC 3 L.toArray).toList[j]? = some (Go.Sort.flatK PC 3 L.toArray)[j]! := by
        rw [Array.getElem?_toList, Array.getElem?_eq_getElem hjF, getElem!_pos _ j hjF]
      rw [flat_cs] at e1
      have hc := World.ownsRow.cells ho (g := g) rfl j _ (by simpa using e1)
      rw [Nat.zero_add]
      rw [Addr.add_lit, Nat.zero_add] at hc
      exact ⟨hc, hB.frozen j⟩
    refine (AnyQ.slices_SortFunc Try.sortP 3 Try.isAgg48 Try.sizeOf48 PC (fun _ => rfl) PC_one cfP swoP 68 #[] g 0 cap L.toArray w (enters_of Try.func68 (by kernel_rfl) rfl) (cmpLays_P _ _ _ _) hH hB.lt (by simp; omega)).mono ?_
    rintro e w' ⟨rfl, d', n, os, hp, hs, rfl⟩
    obtain ⟨hp1, -, hp2⟩ := hp
    have hd : d'.size = L.length := by simpa using hp1
    obtain ⟨h1, h2⟩ := sorted_own (m := n) (os := os) ho hd
    refine ⟨rfl, d'.toList, ?_, ?_, h1, h2.mono (fun i _ e => by subst e; rfl)⟩
    · have e1 : d'.extract 0 L.toArray.size = d' := by rw [← hp1]; exact Array.extract_size
      have e2 : L.toArray.extract 0 L.toArray.size = L.toArray := Array.extract_size
      rw [e1, e2] at hp2
      exact hp2
    · rw [List.pairwise_iff_getElem]
      intro i j hi hj hij
      have hi' : i < d'.size := by simpa using hi
      have hj' : j < d'.size := by simpa using hj
      have := hs i j (Nat.zero_le _) hij (by simp; omega)
      rw [ltP, getElem!_pos d' j hj', getElem!_pos d' i hi'] at this
      simpa using this
#print axioms sorts_any
end Go.Proofs.Ytcicekggeampcaa

/-
  What comes in, as the walks ask it: pairs, acts, a range.
-/
namespace Go.Proofs.Ytcicekggeampcaa
open Go.RowKit Go.ChangeShapes Go.WideShapes Go.ChangeAt Go.Deep
set_option maxRecDepth 4000
section
variable {H : Type} {enc : TypeId × Value → H} {W : World}
set_option maxRecDepth 4000
theorem weightsAll_mem {H : Type} {P : Program} {e : TypeId} : ∀ {l : List (DataW H)} {d : DataW H}, d ∈ l → ∀ n ∈ d.weights P e, n ∈ DataW.weightsAll P e l
  | d0 :: r, d, hd, n, hn => by
    simp only [DataW.weightsAll, List.mem_append]
    rcases List.mem_cons.1 hd with rfl | hd
    · exact .inl hn
    · exact .inr (weightsAll_mem hd n hn)
/-- A slice that came in, element by element. -/
theorem slice_open {α : Type} {E : Enc α} {t e : TypeId} (hn0 : 0 < E.n) (hu : Try.prog.underlying t = some (.slice e)) (hce : Try.prog.cellsOf e = E.n) {Q : α → DataW H → Prop} (z : α)
    (hinv : ∀ n cs y, DataW.trod enc Try.prog W 0 (fun _ => true) true n e cs = some y → ∃ x, cs = E.c x ∧ Q x y.1)
    {n0 : Nat} {a : Option Addr} {len cap : Nat} {y : DataW H × List MemPlace} (hf : DataW.trod enc Try.prog W 0 (fun _ => true) true n0 t [.slice a len cap] = some y) :
    ∃ L : List α, RdG E W (.slice a len cap) L ∧ ∀ x ∈ L, ∃ dx, Q x dx ∧ ∀ m ∈ dx.weights Try.prog e, m ∈ y.1.weights Try.prog t := by
  rcases open_slice hu hf with ⟨hcs, _⟩ | ⟨x, l, c, m, n, D, Pl, hcs, _, hl, hm, hmm, hxd, hx⟩
  · simp at hcs
    obtain ⟨rfl, rfl, rfl⟩ := hcs
    exact ⟨[], RdG_nil W, by simp⟩
  · simp at hcs
    obtain ⟨rfl, rfl, rfl⟩ := hcs
    have hlm : len ≤ m := by rw [hmm]; simp; exact hl
    have hall : ∀ j, j < len → ∃ v : α, W.cells? 0 (x.add (j * E.n)) E.n = some (E.c v) ∧ Q v (D j) := fun j hj => by
      obtain ⟨cs, h1, h2⟩ := hx j (by omega)
      rw [hce] at h1
      obtain ⟨v, rfl, hD⟩ := hinv _ _ _ h2
      exact ⟨v, h1, hD⟩
    obtain ⟨L, hLl, hL⟩ : ∃ L : List α, L.length = len ∧ ∀ j (hj : j < L.length), W.cells? 0 (x.add (j * E.n)) E.n = some (E.c L[j]) ∧ Q L[j] (D j) := by
      refine ⟨(List.range len).map fun j => if h : j < len then (hall j h).choose else z, by simp, fun j hj => ?_⟩
      simp only [List.length_map, List.length_range] at hj
      simp only [List.getElem_map, List.getElem_range, hj, dif_pos]
      exact (hall j hj).choose_spec
    refine ⟨L, ⟨some x, cap, by rw [hLl], by rw [hLl]; exact hl, hm, fun h => by simp at h, fun hp => ?_⟩, fun y' hy => ?_⟩
    · obtain ⟨b, off, spot⟩ := x
      have hcells : ∀ j (hj : j < L.length), ∀ i u, (E.c L[j])[i]? = some u → W.cell? (((⟨b, off, spot⟩ : Addr).add (j * E.n)).add i) = some u := fun j hj i u hu => by
        obtain ⟨_, hlen, hc⟩ := World.cells?_some (hL j hj).1
        have hi : i < E.n := by have := (List.getElem?_eq_some_iff.1 hu).1; rw [E.len] at this; exact this
        rw [hc i hi, hu]
      have hl0 : 0 < (E.c L[0]).length := by rw [E.len]; exact hn0
      have h0 : W.cell? ⟨b, off, spot⟩ = some ((E.c L[0])[0]) := by
        have := hcells 0 hp 0 _ (List.getElem?_eq_getElem hl0)
        simpa [Addr.add] using this
      have hspot : spot = none := by simpa using World.cell?_spot h0
      subst hspot
      refine ⟨b, off, rfl, World.block_lt_of_cell? _ _ h0, fun j u hj => ?_⟩
      have hjl : j < (E.cs L).length := (List.getElem?_eq_some_iff.1 hj).1
      rw [Enc.cs_length] at hjl
      have h3 : j / E.n < L.length := (Nat.div_lt_iff_lt_mul hn0).2 hjl
      have hm3 : j % E.n < (E.c L[j / E.n]).length := by rw [E.len]; exact Nat.mod_lt _ hn0
      have e1 := Enc.cs_get h3 (i := j % E.n) (u := (E.c L[j / E.n])[j % E.n]) (List.getElem?_eq_getElem hm3)
      have e2 : j / E.n * E.n + j % E.n = j := Nat.div_add_mod' j E.n
      rw [e2, hj] at e1
      have := hcells (j / E.n) h3 (j % E.n) u (by rw [List.getElem?_eq_getElem hm3]; exact e1.symm)
      rwa [Addr.add_lit, Addr.add_lit, Nat.add_assoc, e2] at this
    · obtain ⟨i, hi, rfl⟩ := List.getElem_of_mem hy
      refine ⟨D i, (hL i hi).2, fun m' hm' => ?_⟩
      rw [hxd]
      simp only [DataW.weights, hu, List.mem_cons, List.mem_append]
      exact .inr (.inl (weightsAll_mem (d := D i) (List.mem_map.2 ⟨i, by simp; omega, rfl⟩) _ hm'))
def prD (p : Pr) : DataW H := .agg [.lit (.string p.1.data.toList), .lit (.string p.2.1.data.toList), .lit (.bool p.2.2)]
theorem pair_cells (n : Nat) (cs : List Value) (y : DataW H × List MemPlace) (h : DataW.trod enc Try.prog W 0 (fun _ => true) true n 48 cs = some y) : ∃ p : Pr, cs = PC p ∧ y.1 = prD p := by
  obtain ⟨xs, k, _, rfl, hl, hlen, hf⟩ := DataW.trod_struct Try.underlying48 h
  have hcl : cs.length = 3 := by rw [hl]; kernel_rfl
  match cs, hcl with
  | [c0, c1, c2], _ =>
    have k9 : Try.prog.cellsOf 9 = 1 := by kernel_rfl
    have k4 : Try.prog.cellsOf 4 = 1 := by kernel_rfl
    have hx3 : xs.length = 3 := hlen
    match xs, hx3 with
    | [x0, x1, x2], _ =>
      have g0 : DataW.trod enc Try.prog W 0 (fun _ => true) true k 9 [c0] = some x0 := by simpa [k9] using hf 0 _ rfl
      have g1 : DataW.trod enc Try.prog W 0 (fun _ => true) true k 9 [c1] = some x1 := by simpa [k9] using hf 1 _ rfl
      have g2 : DataW.trod enc Try.prog W 0 (fun _ => true) true k 4 [c2] = some x2 := by simpa [k4] using hf 2 _ rfl
      obtain ⟨s0, e0, rfl, _⟩ := DataW.trod_string Try.underlying9 g0
      obtain ⟨s1, e1, rfl, _⟩ := DataW.trod_string Try.underlying9 g1
      obtain ⟨b, e2, rfl⟩ := DataW.trod_bool Try.underlying4 g2
      simp only [List.cons.injEq, and_true] at e0 e1 e2
      subst e0 e1 e2
      exact ⟨(s0, s1, b), rfl, rfl⟩
theorem prD_weight (p : Pr) : p.1.size ∈ (prD (H := H) p).weights Try.prog 48 ∧ p.2.1.size ∈ (prD (H := H) p).weights Try.prog 48 := by
  have e : p.1.data.toList.length = p.1.size := Array.length_toList
  have e' : p.2.1.data.toList.length = p.2.1.size := Array.length_toList
  simp [prD, DataW.weights, Try.underlying48, DataW.weightsEach, e, e']
/-- Strings that came in are no longer than may be. -/
def PrOk (p : Pr) : Prop := p.1.size ≤ 140737488355328 ∧ p.2.1.size ≤ 140737488355328
theorem le_reach {ws : List Nat} (hsz : ws.all (· ≤ reachBytes) = true) {m : Nat} (h : m ∈ ws) : m ≤ 140737488355328 := by
  have := of_decide_eq_true (List.all_eq_true.1 hsz m h)
  simp only [reachBytes] at this
  omega
theorem pairs_arg {r : Reach} {base : Nat} {v : Value} {d : DataW H} {p : List MemPlace} {ts : List TypeId} {ds : List (DataW H)} {j : Nat} (hval : Value.okWide Try.prog W r base 29 v) (h : DataW.Trod enc Try.prog W 0 (fun _ => true) true 29 v d p)
    (hsz : (DataW.weightsEach Try.prog ts ds).all (· ≤ reachBytes) = true) (ht : ts[j]? = some 29) (hd : ds[j]? = some d) : ∃ L, RdG PE W v L ∧ ∀ x ∈ L, PrOk x := by
  obtain ⟨a, len, cap, rfl⟩ := okWide_slice Try.underlying29 hval
  obtain ⟨fuel, hf⟩ := h
  have ka : Try.prog.cellsOf 48 = PE.n := by kernel_rfl
  have hf' : DataW.trod enc Try.prog W 0 (fun _ => true) true fuel 29 [.slice a len cap] = some (d, p) := by simpa [Value.cells] using hf
  obtain ⟨L, hL, hw⟩ := slice_open (E := PE) (Q := fun x d => d = prD x) (by decide) Try.underlying29 ka zp pair_cells hf'
  refine ⟨L, hL, fun x hx => ?_⟩
  obtain ⟨dx, rfl, hm⟩ := hw x hx
  exact ⟨le_reach hsz (DataW.weights_mem_each ht hd _ (hm _ (prD_weight x).1)), le_reach hsz (DataW.weights_mem_each ht hd _ (hm _ (prD_weight x).2))⟩
end
end Go.Proofs.Ytcicekggeampcaa

/-
  Rows of pairs: literals, stores of their slices.
-/
namespace Go.Proofs.Ytcicekggeampcaa
open Go.RowKit
theorem build_row1 (p : Pr) (w : World) : (Instr.buildSlice 29 1 #[(0, .agg (PC p).toArray)]).run Try.prog w = .ok (.slice (some ⟨w.heap.size, 0, none⟩) 1 1) (w.alloc (.cells (PC p).toArray 48 (0, 0))) := by kernel_rfl
theorem build_row2 (p q : Pr) (w : World) : (Instr.buildSlice 29 2 #[(0, .agg (PC p).toArray), (1, .agg (PC q).toArray)]).run Try.prog w = .ok (.slice (some ⟨w.heap.size, 0, none⟩) 2 2) (w.alloc (.cells (PC p ++ PC q).toArray 48 (0, 0))) := by kernel_rfl
theorem build_row0 (w : World) : (Instr.buildSlice 29 0 #[]).run Try.prog w = .ok (.slice (some ⟨w.heap.size, 0, none⟩) 0 0) (w.alloc (.cells #[] 48 (0, 0))) := by kernel_rfl
theorem wp_build_row {o : Oper} {a : Act} {w : World} {K : Act → World → Prop} {Q : Exit → Act → World → Prop} (x : Operand) (ho : o.op = .buildSlice 29 1 #[(0, x)]) (p : Pr) (hx : a.eval x = .agg (PC p).toArray)
    (h : K (a.put o.dst (.slice (some ⟨w.heap.size, 0, none⟩) 1 1)) (w.alloc (.cells (PC p).toArray 48 (0, 0)))) : o.wp Try.prog a w K Q := by
  have hr := build_row1 p w
  unfold Oper.wp execOp
  simp only [ho, hx, hr, List.map_toArray, List.map_cons, List.map_nil, Sem.run_bind, Sem.run_pure, Result.andThen_ok]
  exact h
theorem wp_store_ps {w : World} {o : Oper} {a : Act} {K : Act → World → Prop} {Q : Exit → Act → World → Prop} (x y : Operand) (ho : o.op = .store 29 x y) (b : Nat) (T : TypeId) (u : Value) (p : Option Addr) (n c : Nat)
    (hx : a.eval x = .pointer (some ⟨b, 0, none⟩)) (hy : a.eval y = .slice p n c) (hB : Blk w b T [u]) (h : ∀ w', Blk w' b T [.slice p n c] → But b w w' → K (a.put o.dst undef) w') : o.wp Try.prog a w K Q := by
  have hc := hB.cell (j := 0) (v := u) rfl
  have hf := hB.frozen 0
  have hrun : (execOp a.eval o).run Try.prog w = .ok .skip (w.setCell ⟨b, 0, none⟩ (.slice p n c)) := by
    simp only [execOp, ho, hx, hy]
    go_simp
  unfold Oper.wp
  rw [hrun]
  exact h _ (hB.set 0 (.slice p n c)) (But.setCell b w 0 _)
theorem wpList_build_row {ops : Array Oper} {rest : List Oper} {o : Oper} {a : Act} {w : World} {Q : Exit → Act → World → Prop} (hgd : o.guard = none) (x : Operand) (ho : o.op = .buildSlice 29 1 #[(0, x)]) (p : Pr) (hx : a.eval x = .agg (PC p).toArray)
    (h : wpList Try.prog ops Q rest (a.put o.dst (.slice (some ⟨w.heap.size, 0, none⟩) 1 1)) (w.alloc (.cells (PC p).toArray 48 (0, 0)))) : wpList Try.prog ops Q (o :: rest) a w :=
  wpList_plain hgd fun _ hK => wp_build_row x ho p hx (hK _ _ h)
theorem wpList_store_ps {w : World} {ops : Array Oper} {rest : List Oper} {o : Oper} {a : Act} {Q : Exit → Act → World → Prop} (hgd : o.guard = none) (x y : Operand) (ho : o.op = .store 29 x y) (b : Nat) (T : TypeId) (u : Value) (p : Option Addr) (n c : Nat)
    (hx : a.eval x = .pointer (some ⟨b, 0, none⟩)) (hy : a.eval y = .slice p n c) (hB : Blk w b T [u]) (h : ∀ w', Blk w' b T [.slice p n c] → But b w w' → wpList Try.prog ops Q rest (a.put o.dst undef) w') : wpList Try.prog ops Q (o :: rest) a w :=
  wpList_plain hgd fun _ hK => wp_store_ps x y ho b T u p n c hx hy hB (fun w' h1 h2 => hK _ _ (h w' h1 h2))
theorem ownP_two (w : World) (B : Nat) (p q : Pr) (hB : B ≤ w.heap.size) : OwnG PE (w.alloc (.cells (PC p ++ PC q).toArray 48 (0, 0))) B 48 (.slice (some ⟨w.heap.size, 0, none⟩) 2 2) [p, q] :=
  OwnG.of_blk (L := [p, q]) (Blk.new w 48 (PC p ++ PC q)) hB rfl rfl (by simp) (by simp [maxLen])
end Go.Proofs.Ytcicekggeampcaa
