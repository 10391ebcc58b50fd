/-
  Texts that ride together: TrL TrX TrK.
-/
import Derived.Test.YtnomlnedincfjaaDoorG11v
import Derived.Test.YtnomlnedincfjaaDoorArgsT
import Derived.Test.YtnomlnedincfjaaDoorArgsR
import Derived.Deep.Matrix
/-
  The law's lives: what the call does.
-/
namespace Go.Proofs.YtnomlnedincfjaaDoor
open Go.RowKit
def ka : Hs := ⟨1 :: List.replicate 31 0, by simp⟩
def kb : Hs := ⟨List.replicate 5 0 ++ 1 :: List.replicate 26 0, by simp⟩
theorem ka_kb : ka ≠ kb := by decide
theorem lives_map : dropP (putP (putP [] ka zh) kb zh) kb = [(ka, zh)] := by
  have hs : Srt (putP [] ka zh) := Srt_nil.put ka zh
  refine ((hs.put kb zh).drop kb).ext (Srt_one _) (fun q => ?_)
  rw [getP_drop, getP_put, getP_put]
  simp only [getP]
  by_cases h : q = kb
  · subst h
    rw [if_pos rfl, if_neg ka_kb]
  · rw [if_neg h, if_neg h]
    by_cases h2 : q = ka
    · subst h2; simp
    · rw [if_neg h2, if_neg (fun e => h2 e.symm)]
set_option maxHeartbeats 4000000 in
set_option maxRecDepth 100000 in
theorem ulives_any (w : World) (hT : Tabs w) : Calls Tryd.prog 9 #[] w fun e w' => e = .returned (.bool true) ∧ Below w.heap.size w w' := by
  obtain ⟨N, HN⟩ : ∃ N, Hid (w.heap.size = N) := ⟨_, rfl⟩
  have h2 : 2 ≤ N := by rw [← HN.out]; exact hT.size
  have HT := hide hT
  clear hT
  rw [HN.out]
  have HL1 : Hid ((putP [] ka zh).length ≤ 1000000) := (show _ ≤ _ by rw [putP_length Srt_nil]; split <;> simp)
  have HL2 : Hid ((putP (putP [] ka zh) kb zh).length ≤ 1000000) := (show _ ≤ _ by rw [putP_length (Srt_nil.put _ _), putP_length Srt_nil]; split <;> split <;> simp)
  have HM := hide lives_map
  go_enter Tryd.func9, Tryd.ntmps9
  go_upto_region 2 with fail
  obtain ⟨w0, hw0⟩ : ∃ z, z = ((w.alloc (.cells (By zh.1).toArray 24 (0, 0))).alloc (.cells (By zh.1).toArray 24 (0, 0))).alloc (.cells (By zh.1).toArray 24 (0, 0)) := ⟨_, rfl⟩
  change Code.wp _ _ _ _ (((w.alloc (.cells (By zh.1).toArray 24 (0, 0))).alloc (.cells (By zh.1).toArray 24 (0, 0))).alloc (.cells (By zh.1).toArray 24 (0, 0)))
  rw [← hw0, HN.out]
  have A0 : Blk w0 N 24 (By zh.1) := by rw [hw0, ← HN.out]; exact ((Blk.new w 24 (By zh.1)).alloc _).alloc _
  have B0 : Blk w0 (N + 1) 24 (By zh.1) := by
    rw [hw0]
    have := (Blk.new (w.alloc (.cells (By zh.1).toArray 24 (0, 0))) 24 (By zh.1)).alloc (.cells (By zh.1).toArray 24 (0, 0))
    simpa [HN.out] using this
  have C0 : Blk w0 (N + 2) 24 (By zh.1) := by
    rw [hw0]
    have := Blk.new ((w.alloc (.cells (By zh.1).toArray 24 (0, 0))).alloc (.cells (By zh.1).toArray 24 (0, 0))) 24 (By zh.1)
    simpa [HN.out] using this
  have L0 : Below N w w0 := by rw [hw0, ← HN.out]; exact (((Below.refl _ _).alloc (Nat.le_refl _) _).alloc (by simp) _).alloc (by simp; omega) _
  clear hw0
  obtain ⟨w2, hw2⟩ : ∃ z, z = (w0.setCell ⟨N, 0, none⟩ (.int .u8 1)).setCell ⟨N + 1, 5, none⟩ (.int .u8 1) := ⟨_, rfl⟩
  have A2 : Hid (Blk w2 N 24 (By ka.1)) := (show Blk _ _ _ _ by
    rw [hw2]
    exact (A0.set 0 (.int .u8 1)).set_other (by omega) _ _)
  have B2 : Hid (Blk w2 (N + 1) 24 (By kb.1)) := (show Blk _ _ _ _ by
    rw [hw2]
    exact (B0.set_other (by omega) _ _).set 5 (.int .u8 1))
  have C2 : Hid (Blk w2 (N + 2) 24 (By zh.1)) := (show Blk _ _ _ _ by
    rw [hw2]
    exact (C0.set_other (by omega) _ _).set_other (by omega) _ _)
  have L2 : Hid (Below N w w2) := (show Below _ _ _ by
    rw [hw2]
    exact (L0.trans ((But.setCell N w0 0 _).below (Nat.le_refl _) (Nat.le_of_lt A0.lt))).trans ((But.setCell (N + 1) _ 5 _).below (by omega) (by simp; exact Nat.le_of_lt A0.lt)))
  have c0 := A0.cell (j := 0) (v := .int .u8 0) rfl
  have f0 := A0.frozen 0
  have c5 : w0.cell? ⟨N + 1, 5, none⟩ = some (.int .u8 0) := B0.cell (j := 5) rfl
  have f5 := B0.frozen 5
  have G2 : Hid (N ≤ w2.heap.size) := (show _ ≤ _ from Nat.le_of_lt A2.out.lt)
  go_upto_region 3 with fail
  change Code.wp _ _ _ _ ((w0.setCell ⟨N, 0, none⟩ (.int .u8 1)).setCell ⟨N + 1, 5, none⟩ (.int .u8 1))
  rw [← hw2]
  clear hw2 c0 f0 c5 f5 A0 B0 C0 L0
  refine wp_region_inv Tryd.mixed (KS (fun i_ => match i_ with | 0 => .of (fun w v_ => ∃ p_, v_ = PT p_ ∧ TrieAt N w p_ ([])) (fun _ _ _ hg ⟨p_, e, h2⟩ => ⟨p_, e, h2.kept hg⟩) | 1 => .val (HV ka) | 2 | 5 => .val (HV zh) | 3 => .of (fun w v_ => ∃ p_, v_ = PT p_ ∧ TrieAt N w p_ (putP [] ka zh)) (fun _ _ _ hg ⟨p_, e, h2⟩ => ⟨p_, e, h2.kept hg⟩) | 4 | 7 => .val (HV kb) | 6 => .of (fun w v_ => ∃ p_, v_ = PT p_ ∧ TrieAt N w p_ (putP (putP [] ka zh) kb zh)) (fun _ _ _ hg ⟨p_, e, h2⟩ => ⟨p_, e, h2.kept hg⟩) | 8 | 9 => .of (fun w v_ => ∃ p_, v_ = PT p_ ∧ TrieAt N w p_ (dropP (putP (putP [] ka zh) kb zh) kb)) (fun _ _ _ hg ⟨p_, e, h2⟩ => ⟨p_, e, h2.kept hg⟩) | _ => .free)) 29 rfl (by decide +kernel) (KS_mono _) ?_ ?_
  · refine AllFrom.cons (fun a' w' hg hk hd => ?_) (AllFrom.cons (fun a' w' hg hk hd => ?_) (AllFrom.cons (fun a' w' hg hk hd => ?_) (AllFrom.cons (fun a' w' hg hk hd => ?_) (AllFrom.cons (fun a' w' hg hk hd => ?_) (AllFrom.cons (fun a' w' hg hk hd => ?_) (AllFrom.cons (fun a' w' hg hk hd => ?_) (AllFrom.cons (fun a' w' hg hk hd => ?_) (AllFrom.cons (fun a' w' hg hk hd => ?_) (AllFrom.cons (fun a' w' hg hk hd => ?_) AllFrom.nil)))))))))
    · skip
      intro Q
      refine wp_call 22 _ (run_enter 22 _ _ rfl (by kernel_rfl)) ?_
      simp only [List.map_toArray, List.map_nil]
      refine (kNew_any N _).mono ?_
      rintro e w5 ⟨p5, rfl, h5, t5, hb5⟩
      exact ⟨_, rfl, KS_mko rfl ⟨p5, rfl, t5⟩, hb5⟩
    · skip
      intro Q
      have e1 : a'.eval (.tmp 1) = .pointer (some ⟨N, 0, none⟩) := hk.at 1 (by decide +kernel)
      exact wp_load_row 24 _ rfl _ _ e1 (By (ka).1) _ ((A2.out.kept hg).range0) Tryd.underlying24 rfl (Tryd.sizeH _) (KS_mkv rfl rfl)
    · skip
      intro Q
      have e3 : a'.eval (.tmp 3) = .pointer (some ⟨N + 2, 0, none⟩) := hk.at 3 (by decide +kernel)
      exact wp_load_row 24 _ rfl _ _ e3 (By (zh).1) _ ((C2.out.kept hg).range0) Tryd.underlying24 rfl (Tryd.sizeH _) (KS_mkv rfl rfl)
    · skip
      intro Q
      have r7 := KS_of (hd.val 0 7 (by decide +kernel)) rfl
      have e8 : a'.eval (.tmp 8) = HV ka := KS_val (hd.val 1 8 (by decide +kernel)) rfl
      have e9 : a'.eval (.tmp 9) = HV zh := KS_val (hd.val 2 9 (by decide +kernel)) rfl
      refine wp_call 23 _ (run_enter 23 _ _ rfl (by kernel_rfl)) ?_
      simp only [List.map_toArray, List.map_nil, List.map_cons, e8, e9]
      obtain ⟨p4, e4, t4⟩ := r7
      rw [e4]
      refine (tPut_any ka zh t4 (Nat.le_trans G2.out hg.size) (by decide)).mono ?_
      rintro e w5 ⟨p5, rfl, t5, hb5⟩
      exact ⟨_, rfl, KS_mko rfl ⟨p5, rfl, t5⟩, hb5⟩
    · skip
      intro Q
      have e2 : a'.eval (.tmp 2) = .pointer (some ⟨N + 1, 0, none⟩) := hk.at 2 (by decide +kernel)
      exact wp_load_row 24 _ rfl _ _ e2 (By (kb).1) _ ((B2.out.kept hg).range0) Tryd.underlying24 rfl (Tryd.sizeH _) (KS_mkv rfl rfl)
    · skip
      intro Q
      have e3 : a'.eval (.tmp 3) = .pointer (some ⟨N + 2, 0, none⟩) := hk.at 3 (by decide +kernel)
      exact wp_load_row 24 _ rfl _ _ e3 (By (zh).1) _ ((C2.out.kept hg).range0) Tryd.underlying24 rfl (Tryd.sizeH _) (KS_mkv rfl rfl)
    · skip
      intro Q
      have r10 := KS_of (hd.val 3 10 (by decide +kernel)) rfl
      have e11 : a'.eval (.tmp 11) = HV kb := KS_val (hd.val 4 11 (by decide +kernel)) rfl
      have e12 : a'.eval (.tmp 12) = HV zh := KS_val (hd.val 5 12 (by decide +kernel)) rfl
      refine wp_call 23 _ (run_enter 23 _ _ rfl (by kernel_rfl)) ?_
      simp only [List.map_toArray, List.map_nil, List.map_cons, e11, e12]
      obtain ⟨p4, e4, t4⟩ := r10
      rw [e4]
      refine (tPut_any kb zh t4 (Nat.le_trans G2.out hg.size) HL1.out).mono ?_
      rintro e w5 ⟨p5, rfl, t5, hb5⟩
      exact ⟨_, rfl, KS_mko rfl ⟨p5, rfl, t5⟩, hb5⟩
    · skip
      intro Q
      have e2 : a'.eval (.tmp 2) = .pointer (some ⟨N + 1, 0, none⟩) := hk.at 2 (by decide +kernel)
      exact wp_load_row 24 _ rfl _ _ e2 (By (kb).1) _ ((B2.out.kept hg).range0) Tryd.underlying24 rfl (Tryd.sizeH _) (KS_mkv rfl rfl)
    · skip
      intro Q
      have r13 := KS_of (hd.val 6 13 (by decide +kernel)) rfl
      have e14 : a'.eval (.tmp 14) = HV kb := KS_val (hd.val 7 14 (by decide +kernel)) rfl
      refine wp_call 24 _ (run_enter 24 _ _ rfl (by kernel_rfl)) ?_
      simp only [List.map_toArray, List.map_nil, List.map_cons, e14]
      obtain ⟨p4, e4, t4⟩ := r13
      rw [e4]
      refine (tDrop_any kb t4 (Nat.le_trans G2.out hg.size) HL2.out).mono ?_
      rintro e w5 ⟨p5, rfl, t5, hb5⟩
      exact ⟨_, rfl, KS_mko rfl ⟨p5, rfl, t5⟩, hb5⟩
    · skip
      intro Q
      have r15 := KS_of (hd.val 8 15 (by decide +kernel)) rfl
      exact wp_value (a'.eval (.tmp 15)) (by simp only [execOp]; rfl) (KS_mko rfl r15)
  · intro a' w3 hsz hdf hk hall hg
    have r7 : (fun w v_ => ∃ p_, v_ = PT p_ ∧ TrieAt N w p_ ([])) w3 (a'.eval (.tmp 7)) := KS_of (hall 0 _ 7 rfl rfl) rfl
    obtain ⟨x7, hx7⟩ : ∃ v, a'.eval (.tmp 7) = v := ⟨_, rfl⟩
    rw [hx7] at r7
    have e8 : a'.eval (.tmp 8) = HV ka := KS_val (hall 1 _ 8 rfl rfl) rfl
    have e9 : a'.eval (.tmp 9) = HV zh := KS_val (hall 2 _ 9 rfl rfl) rfl
    have r10 : (fun w v_ => ∃ p_, v_ = PT p_ ∧ TrieAt N w p_ (putP [] ka zh)) w3 (a'.eval (.tmp 10)) := KS_of (hall 3 _ 10 rfl rfl) rfl
    obtain ⟨x10, hx10⟩ : ∃ v, a'.eval (.tmp 10) = v := ⟨_, rfl⟩
    rw [hx10] at r10
    have e11 : a'.eval (.tmp 11) = HV kb := KS_val (hall 4 _ 11 rfl rfl) rfl
    have e12 : a'.eval (.tmp 12) = HV zh := KS_val (hall 5 _ 12 rfl rfl) rfl
    have r13 : (fun w v_ => ∃ p_, v_ = PT p_ ∧ TrieAt N w p_ (putP (putP [] ka zh) kb zh)) w3 (a'.eval (.tmp 13)) := KS_of (hall 6 _ 13 rfl rfl) rfl
    obtain ⟨x13, hx13⟩ : ∃ v, a'.eval (.tmp 13) = v := ⟨_, rfl⟩
    rw [hx13] at r13
    have e14 : a'.eval (.tmp 14) = HV kb := KS_val (hall 7 _ 14 rfl rfl) rfl
    have r15 : (fun w v_ => ∃ p_, v_ = PT p_ ∧ TrieAt N w p_ (dropP (putP (putP [] ka zh) kb zh) kb)) w3 (a'.eval (.tmp 15)) := KS_of (hall 8 _ 15 rfl rfl) rfl
    obtain ⟨x15, hx15⟩ : ∃ v, a'.eval (.tmp 15) = v := ⟨_, rfl⟩
    rw [hx15] at r15
    have r4 : (fun w v_ => ∃ p_, v_ = PT p_ ∧ TrieAt N w p_ (dropP (putP (putP [] ka zh) kb zh) kb)) w3 (a'.eval (.tmp 4)) := KS_of (hall 9 _ 4 rfl rfl) rfl
    obtain ⟨x4, hx4⟩ : ∃ v, a'.eval (.tmp 4) = v := ⟨_, rfl⟩
    rw [hx4] at r4
    have ha := act_puts 29 rfl hsz hdf hk [7, 8, 9, 10, 11, 12, 13, 14, 15, 4] (by decide +kernel)
    simp only [puts, List.foldl_cons, List.foldl_nil, hx7, e8, e9, hx10, e11, e12, hx13, e14, hx15, hx4] at ha
    simp only [Act.put, List.setIfInBounds_toArray, List.set_cons_succ, List.set_cons_zero] at ha
    clear hall hk hsz hdf hx7 e8 e9 hx10 e11 e12 hx13 e14 hx15 hx4
    subst ha
    obtain ⟨p, e9, t9⟩ := r4
    subst e9
    rw [HM.out] at t9
    have T3 := hide t9
    have A3 := hide (A2.out.kept hg)
    have C3 := hide (C2.out.kept hg)
    have L3 : Hid (Below N w w3) := (show _ from L2.out.trans (hg.mono G2.out))
    have G3 : Hid (N ≤ w3.heap.size) := (show _ ≤ _ from Nat.le_of_lt A3.out.lt)
    have TB3 := hide (HT.out.kept (L3.out.mono h2))
    clear hg t9 A2 B2 C2 G2
    obtain ⟨_, -, -⟩ := r7
    go_upto_region 4 with fail
    refine wp_region_invR (Tch.ok N) Tryd.mixed (KR (R := Tch N) (fun i_ => match i_ with | 0 | 9 => .val (PT p) | 1 | 6 => .val (HV (rootP [(ka, zh)])) | 2 => .val (HV ka) | 3 => .val (HV zh) | 4 => .val (.agg (IE.c (ka, zh)).toArray) | 5 => .of (fun w v_ => OwnG IE w N 46 v_ [(ka, zh)]) (fun _ _ _ hg h => h.tch hg (by decide)) | 7 | 8 | 11 | 12 | 13 => .val (.bool true) | 10 => .val (.int .i64 1) | _ => .free)) 29 rfl (by decide +kernel) (KR_mono _) ?_ ?_
    · refine AllFrom.cons (fun a' w' hg hk hd => ?_) (AllFrom.cons (fun a' w' hg hk hd => ?_) (AllFrom.cons (fun a' w' hg hk hd => ?_) (AllFrom.cons (fun a' w' hg hk hd => ?_) (AllFrom.cons (fun a' w' hg hk hd => ?_) (AllFrom.cons (fun a' w' hg hk hd => ?_) (AllFrom.cons (fun a' w' hg hk hd => ?_) (AllFrom.cons (fun a' w' hg hk hd => ?_) (AllFrom.cons (fun a' w' hg hk hd => ?_) (AllFrom.cons (fun a' w' hg hk hd => ?_) (AllFrom.cons (fun a' w' hg hk hd => ?_) (AllFrom.cons (fun a' w' hg hk hd => ?_) (AllFrom.cons (fun a' w' hg hk hd => ?_) (AllFrom.cons (fun a' w' hg hk hd => ?_) AllFrom.nil)))))))))))))
      · skip
        intro Q
        have e4 : a'.eval (.tmp 4) = PT p := hk.at 4 (by decide +kernel)
        exact wp_valueR (Tch.ok N) _ (by simp only [execOp, e4]; rfl) (KR_mkv rfl rfl)
      · skip
        intro Q
        have e16 : a'.eval (.tmp 16) = PT p := KR_val (hd.val 0 16 (by decide +kernel)) rfl
        refine wp_callR 15 _ (run_enter 15 _ _ rfl (by kernel_rfl)) ?_
        simp only [List.map_toArray, List.map_nil, List.map_cons, e16]
        refine (tRoot_any h2 (T3.out.tch hg) (TB3.out.tch hg h2 G3.out) (Nat.le_trans G3.out hg.size)).mono ?_
        rintro e w5 ⟨rfl, hb5⟩
        exact ⟨_, rfl, KR_mkv rfl rfl, hb5⟩
      · skip
        intro Q
        have e1 : a'.eval (.tmp 1) = .pointer (some ⟨N, 0, none⟩) := hk.at 1 (by decide +kernel)
        exact wp_load_rowR (Tch.ok N) 24 _ rfl _ _ e1 (By (ka).1) _ ((hg.blk A3.out (by decide)).range0) Tryd.underlying24 rfl (Tryd.sizeH _) (KR_mkv rfl rfl)
      · skip
        intro Q
        have e3 : a'.eval (.tmp 3) = .pointer (some ⟨N + 2, 0, none⟩) := hk.at 3 (by decide +kernel)
        exact wp_load_rowR (Tch.ok N) 24 _ rfl _ _ e3 (By (zh).1) _ ((hg.blk C3.out (by decide)).range0) Tryd.underlying24 rfl (Tryd.sizeH _) (KR_mkv rfl rfl)
      · skip
        intro Q
        have e18 : a'.eval (.tmp 18) = HV ka := KR_val (hd.val 2 18 (by decide +kernel)) rfl
        have e19 : a'.eval (.tmp 19) = HV zh := KR_val (hd.val 3 19 (by decide +kernel)) rfl
        have hr := build_pair ka zh w'
        exact wp_valueR (Tch.ok N) _ (by simp only [execOp, List.map_toArray, List.map_cons, List.map_nil, e18, e19, HV, hr, Sem.run_bind, Sem.run_pure, Result.andThen_ok]) (KR_mkv rfl rfl)
      · skip
        intro Q
        have e20 : a'.eval (.tmp 20) = .agg (IE.c (ka, zh)).toArray := KR_val (hd.val 4 20 (by decide +kernel)) rfl
        have hr := build_row1 (ka, zh) w'
        exact wp_growR (Tch.ok N) (.slice (some ⟨w'.heap.size, 0, none⟩) 1 1) (w'.alloc (.cells (IE.c (ka, zh)).toArray 46 (0, 0))) (by simp only [execOp, List.map_toArray, List.map_cons, List.map_nil, e20, hr, Sem.run_bind, Sem.run_pure, Result.andThen_ok]) ((Below.refl _ _).alloc (Nat.le_refl _) _) (KR_mko rfl (ownG_one w' N 46 (ka, zh) (Nat.le_trans G3.out hg.size)))
      · skip
        intro Q
        have r21 := KR_of (hd.val 5 21 (by decide +kernel)) rfl
        refine wp_callR 16 _ (run_enter 16 _ _ rfl (by kernel_rfl)) ?_
        simp only [List.map_toArray, List.map_nil, List.map_cons]
        obtain ⟨pa, lc, e21⟩ := r21.form
        refine (yRoot_any r21.rd (Srt_one _) (by decide)).mono ?_
        rintro e w5 ⟨rfl, hb5⟩
        exact ⟨_, rfl, KR_mkv rfl rfl, .of_below hb5⟩
      · skip
        intro Q
        have e17 : a'.eval (.tmp 17) = HV (rootP [(ka, zh)]) := KR_val (hd.val 1 17 (by decide +kernel)) rfl
        have e22 : a'.eval (.tmp 22) = HV (rootP [(ka, zh)]) := KR_val (hd.val 6 22 (by decide +kernel)) rfl
        have hq := eqA (rootP [(ka, zh)]) (rootP [(ka, zh)])
        rw [decide_eq_true rfl] at hq
        clear hd hk
        exact wp_valueR (Tch.ok N) _ (by simp only [execOp, e17, e22, HV]; go_simp) (KR_mkv rfl rfl)
      · skip
        intro Q
        have e23 : a'.eval (.tmp 23) = .bool true := KR_val (hd.val 7 23 (by decide +kernel)) rfl
        exact wp_valueR (Tch.ok N) _ (by simp only [execOp, e23]; rfl) (KR_mkv rfl rfl)
      · skip
        have eg : a'.eval (.tmp 24) = .bool true := KR_val (hd.val 8 24 (by decide +kernel)) rfl
        refine ⟨24, true, rfl, eg, fun _ Q => ?_, fun h => absurd rfl h⟩
        have e4 : a'.eval (.tmp 4) = PT p := hk.at 4 (by decide +kernel)
        exact wp_valueR (Tch.ok N) _ (by simp only [execOp, e4]; rfl) (KR_mkv rfl rfl)
      · skip
        have eg : a'.eval (.tmp 24) = .bool true := KR_val (hd.val 8 24 (by decide +kernel)) rfl
        refine ⟨24, true, rfl, eg, fun _ Q => ?_, fun h => absurd rfl h⟩
        have e25 : a'.eval (.tmp 25) = PT p := KR_val (hd.val 9 25 (by decide +kernel)) rfl
        refine wp_callR 17 _ (run_enter 17 _ _ rfl (by kernel_rfl)) ?_
        simp only [List.map_toArray, List.map_nil, List.map_cons, e25]
        refine (tLen_any (T3.out.tch hg)).mono ?_
        rintro e w5 ⟨rfl, hw5⟩
        exact ⟨_, rfl, KR_mkv rfl rfl, by rw [hw5]; exact .refl _ _⟩
      · skip
        have eg : a'.eval (.tmp 24) = .bool true := KR_val (hd.val 8 24 (by decide +kernel)) rfl
        refine ⟨24, true, rfl, eg, fun _ Q => ?_, fun h => absurd rfl h⟩
        have e26 : a'.eval (.tmp 26) = .int .i64 1 := KR_val (hd.val 10 26 (by decide +kernel)) rfl
        clear hd hk
        exact wp_valueR (Tch.ok N) (.bool true) (by simp only [execOp, e26]; go_simp) (KR_mkv rfl rfl)
      · skip
        intro Q
        have e24 : a'.eval (.tmp 24) = .bool true := KR_val (hd.val 8 24 (by decide +kernel)) rfl
        have e27 : a'.eval (.tmp 27) = .bool true := KR_val (hd.val 11 27 (by decide +kernel)) rfl
        clear hd hk
        exact wp_valueR (Tch.ok N) (.bool true) (by simp only [execOp, e24, e27]; go_simp) (KR_mkv rfl rfl)
      · skip
        intro Q
        have e28 : a'.eval (.tmp 28) = .bool true := KR_val (hd.val 12 28 (by decide +kernel)) rfl
        exact wp_valueR (Tch.ok N) _ (by simp only [execOp, e28]; rfl) (KR_mkv rfl rfl)
    · intro a' w4 hsz hdf hk hall hg
      have e16 : a'.eval (.tmp 16) = PT p := KR_val (hall 0 _ 16 rfl rfl) rfl
      have e17 : a'.eval (.tmp 17) = HV (rootP [(ka, zh)]) := KR_val (hall 1 _ 17 rfl rfl) rfl
      have e18 : a'.eval (.tmp 18) = HV ka := KR_val (hall 2 _ 18 rfl rfl) rfl
      have e19 : a'.eval (.tmp 19) = HV zh := KR_val (hall 3 _ 19 rfl rfl) rfl
      have e20 : a'.eval (.tmp 20) = .agg (IE.c (ka, zh)).toArray := KR_val (hall 4 _ 20 rfl rfl) rfl
      have r21 : (fun w v_ => OwnG IE w N 46 v_ [(ka, zh)]) w4 (a'.eval (.tmp 21)) := KR_of (hall 5 _ 21 rfl rfl) rfl
      obtain ⟨x21, hx21⟩ : ∃ v, a'.eval (.tmp 21) = v := ⟨_, rfl⟩
      rw [hx21] at r21
      have e22 : a'.eval (.tmp 22) = HV (rootP [(ka, zh)]) := KR_val (hall 6 _ 22 rfl rfl) rfl
      have e23 : a'.eval (.tmp 23) = .bool true := KR_val (hall 7 _ 23 rfl rfl) rfl
      have e24 : a'.eval (.tmp 24) = .bool true := KR_val (hall 8 _ 24 rfl rfl) rfl
      have e25 : a'.eval (.tmp 25) = PT p := KR_val (hall 9 _ 25 rfl rfl) rfl
      have e26 : a'.eval (.tmp 26) = .int .i64 1 := KR_val (hall 10 _ 26 rfl rfl) rfl
      have e27 : a'.eval (.tmp 27) = .bool true := KR_val (hall 11 _ 27 rfl rfl) rfl
      have e28 : a'.eval (.tmp 28) = .bool true := KR_val (hall 12 _ 28 rfl rfl) rfl
      have e0 : a'.eval (.tmp 0) = .bool true := KR_val (hall 13 _ 0 rfl rfl) rfl
      have ha := act_puts 29 rfl hsz hdf hk [16, 17, 18, 19, 20, 21, 22, 23, 24, 25, 26, 27, 28, 0] (by decide +kernel)
      simp only [puts, List.foldl_cons, List.foldl_nil, e16, e17, e18, e19, e20, hx21, e22, e23, e24, e25, e26, e27, e28, e0] at ha
      simp only [Act.put, List.setIfInBounds_toArray, List.set_cons_succ, List.set_cons_zero] at ha
      clear hall hk hsz hdf e16 e17 e18 e19 e20 hx21 e22 e23 e24 e25 e26 e27 e28 e0
      subst ha
      have L4 : Hid (Below N w w4) := (show _ from L3.out.trans (hg.below G3.out))
      clear hg
      go_wp2_with fail
      go_ret
      exact ⟨rfl, L4.out⟩
#print axioms ulives_any
end Go.Proofs.YtnomlnedincfjaaDoor

/-
  Room for a hash, laid and written at once.
-/
namespace Go.Proofs.YtnomlnedincfjaaDoor
open Go.RowKit
/-- A variable for a hash is made, and written to. -/
theorem wpList_room_hash {ops : Array Oper} {rest : List Oper} {o1 o2 : Oper} {a : Act} {w : World} {Q : Exit → Act → World → Prop} (h1 : o1.guard = none) (h2 : o2.guard = none) (d : Tmp) (y : Operand) (ho1 : o1.op = .alloc 24) (hd1 : o1.dst = some d) (ho2 : o2.op = .store 24 (.tmp d) y) (hd : d < a.tmps.size) (hny : y ≠ .tmp d)
    (x : Hs) (hy : a.eval y = .agg (By x.1).toArray) (h : ∀ w', Below w.heap.size w w' → Blk w' w.heap.size 24 (By x.1) → wpList Tryd.prog ops Q rest ((a.put o1.dst (.pointer (some ⟨w.heap.size, 0, none⟩))).put o2.dst undef) w') : wpList Tryd.prog ops Q (o1 :: o2 :: rest) a w := by
  have hz : ∀ v, (Instr.alloc 24 true v).run Tryd.prog w = .ok (.pointer (some ⟨w.heap.size, 0, none⟩)) (w.alloc (.cells (By zh.1).toArray 24 (0, 0))) := fun v => by kernel_rfl
  refine wpList_plain h1 fun K hK => ?_
  unfold Oper.wp execOp
  simp only [ho1, hz, Sem.run_bind, Sem.run_pure, Result.andThen_ok]
  refine hK _ _ ?_
  have hB := Blk.new w 24 (By zh.1)
  refine wpList_store_blk h2 24 (.tmp d) y ho2 w.heap.size (By zh.1) (By x.1) 24 (by rw [hd1]; exact eval_put_same hd) ?_ hB (by rw [By_len, By_len]) (Tryd.sizeH x) (By_one _) ?_
  · rw [hd1]
    have : (a.put (some d) (.pointer (some ⟨w.heap.size, 0, none⟩))).eval y = a.eval y := Act.eval_put (fun e he h => hny (by rw [h]; cases he; rfl))
    rw [this]
    exact hy
  · intro w' hb hu
    exact h w' (((Below.refl _ _).alloc (Nat.le_refl _) _).trans (hu.below (Nat.le_refl _) (by simp))) hb
#print axioms wpList_room_hash
end Go.Proofs.YtnomlnedincfjaaDoor

/-
  What comes in, as the walks ask it: hashes, acts.
-/
namespace Go.Proofs.YtnomlnedincfjaaDoor
open Go.RowKit Go.ChangeShapes Go.WideShapes Go.ChangeAt Go.Deep
set_option maxRecDepth 4000
section
variable {H : Type} {enc : TypeId × Value → H} {W : World}
/-- A slice that came in, element by element. -/
theorem slice_open {α : Type} {E : Enc α} {t e : TypeId} (hn0 : 0 < E.n) (hu : Tryd.prog.underlying t = some (.slice e)) (hce : Tryd.prog.cellsOf e = E.n) {Q : α → DataW H → Prop} (z : α)
    (hinv : ∀ n cs y, DataW.trod enc Tryd.prog W 0 (fun _ => true) true n e cs = some y → ∃ x, cs = E.c x ∧ Q x y.1)
    {n0 : Nat} {a : Option Addr} {len cap : Nat} {y : DataW H × List MemPlace} (hf : DataW.trod enc Tryd.prog W 0 (fun _ => true) true n0 t [.slice a len cap] = some y) :
    ∃ L : List α, RdG E W (.slice a len cap) L ∧ ∀ x ∈ L, ∃ dx, Q x dx ∧ ∀ m ∈ dx.weights Tryd.prog e, m ∈ y.1.weights Tryd.prog t := by
  rcases open_slice hu hf with ⟨hcs, _⟩ | ⟨x, l, c, m, n, D, Pl, hcs, _, hl, hm, hmm, hxd, hx⟩
  · simp at hcs
    obtain ⟨rfl, rfl, rfl⟩ := hcs
    exact ⟨[], RdG_nil W, by simp⟩
  · simp at hcs
    obtain ⟨rfl, rfl, rfl⟩ := hcs
    have hlm : len ≤ m := by rw [hmm]; simp; exact hl
    have hall : ∀ j, j < len → ∃ v : α, W.cells? 0 (x.add (j * E.n)) E.n = some (E.c v) ∧ Q v (D j) := fun j hj => by
      obtain ⟨cs, h1, h2⟩ := hx j (by omega)
      rw [hce] at h1
      obtain ⟨v, rfl, hD⟩ := hinv _ _ _ h2
      exact ⟨v, h1, hD⟩
    obtain ⟨L, hLl, hL⟩ : ∃ L : List α, L.length = len ∧ ∀ j (hj : j < L.length), W.cells? 0 (x.add (j * E.n)) E.n = some (E.c L[j]) ∧ Q L[j] (D j) := by
      refine ⟨(List.range len).map fun j => if h : j < len then (hall j h).choose else z, by simp, fun j hj => ?_⟩
      simp only [List.length_map, List.length_range] at hj
      simp only [List.getElem_map, List.getElem_range, hj, dif_pos]
      exact (hall j hj).choose_spec
    refine ⟨L, ⟨some x, cap, by rw [hLl], by rw [hLl]; exact hl, hm, fun h => by simp at h, fun hp => ?_⟩, fun y' hy => ?_⟩
    · obtain ⟨b, off, spot⟩ := x
      have hcells : ∀ j (hj : j < L.length), ∀ i u, (E.c L[j])[i]? = some u → W.cell? (((⟨b, off, spot⟩ : Addr).add (j * E.n)).add i) = some u := fun j hj i u hu => by
        obtain ⟨_, hlen, hc⟩ := World.cells?_some (hL j hj).1
        have hi : i < E.n := by have := (List.getElem?_eq_some_iff.1 hu).1; rw [E.len] at this; exact this
        rw [hc i hi, hu]
      have hl0 : 0 < (E.c L[0]).length := by rw [E.len]; exact hn0
      have h0 : W.cell? ⟨b, off, spot⟩ = some ((E.c L[0])[0]) := by
        have := hcells 0 hp 0 _ (List.getElem?_eq_getElem hl0)
        simpa [Addr.add] using this
      have hspot : spot = none := by simpa using World.cell?_spot h0
      subst hspot
      refine ⟨b, off, rfl, World.block_lt_of_cell? _ _ h0, fun j u hj => ?_⟩
      have hjl : j < (E.cs L).length := (List.getElem?_eq_some_iff.1 hj).1
      rw [Enc.cs_length] at hjl
      have h3 : j / E.n < L.length := (Nat.div_lt_iff_lt_mul hn0).2 hjl
      have hm3 : j % E.n < (E.c L[j / E.n]).length := by rw [E.len]; exact Nat.mod_lt _ hn0
      have e1 := Enc.cs_get h3 (i := j % E.n) (u := (E.c L[j / E.n])[j % E.n]) (List.getElem?_eq_getElem hm3)
      have e2 : j / E.n * E.n + j % E.n = j := Nat.div_add_mod' j E.n
      rw [e2, hj] at e1
      have := hcells (j / E.n) h3 (j % E.n) u (by rw [List.getElem?_eq_getElem hm3]; exact e1.symm)
      rwa [Addr.add_lit, Addr.add_lit, Nat.add_assoc, e2] at this
    · obtain ⟨i, hi, rfl⟩ := List.getElem_of_mem hy
      refine ⟨D i, (hL i hi).2, fun m' hm' => ?_⟩
      rw [hxd]
      simp only [DataW.weights, hu, List.mem_cons, List.mem_append]
      exact .inr (.inl (weightsAll_mem (d := D i) (List.mem_map.2 ⟨i, by simp; omega, rfl⟩) _ hm'))
theorem hash_cell (n : Nat) (cs : List Value) (y : DataW H × List MemPlace) (h : DataW.trod enc Tryd.prog W 0 (fun _ => true) true n 24 cs = some y) : ∃ x : Hs, cs = HE.c x ∧ True := by
  obtain ⟨l, rfl, hl⟩ := hash_cells h
  exact ⟨⟨l, hl⟩, rfl, trivial⟩
theorem hash_arg9 {r : Reach} {base : Nat} {v : Value} {d : DataW H} {p : List MemPlace} (hval : Value.okWide Tryd.prog W r base 24 v) (h : DataW.Trod enc Tryd.prog W 0 (fun _ => true) true 24 v d p) : ∃ x : Hs, v = HV x := by
  obtain ⟨l, rfl, hl⟩ := hash_arg hval h
  exact ⟨⟨l, hl⟩, rfl⟩
theorem act_cell (n : Nat) (cs : List Value) (y : DataW H × List MemPlace) (h : DataW.trod enc Tryd.prog W 0 (fun _ => true) true n 48 cs = some y) : ∃ x : Hs × Hs × Bool, cs = AE.c x ∧ True := by
  obtain ⟨xs, k, _, hy, hl, hlen, hf⟩ := DataW.trod_struct Tryd.underlying48 h
  have hcl : cs.length = 65 := by rw [hl]; kernel_rfl
  have kh : Tryd.prog.cellsOf 24 = 32 := by kernel_rfl
  have kb : Tryd.prog.cellsOf 4 = 1 := by kernel_rfl
  have hx3 : xs.length = 3 := hlen
  match xs, hx3 with
  | [x0, x1, x2], _ =>
    have g0 : DataW.trod enc Tryd.prog W 0 (fun _ => true) true k 24 (cs.take 32) = some x0 := by simpa [kh] using hf 0 _ rfl
    have g1 : DataW.trod enc Tryd.prog W 0 (fun _ => true) true k 24 ((cs.drop 32).take 32) = some x1 := by simpa [kh] using hf 1 _ rfl
    have g2 : DataW.trod enc Tryd.prog W 0 (fun _ => true) true k 4 ((cs.drop 64).take 1) = some x2 := by simpa [kb] using hf 2 _ rfl
    obtain ⟨l0, e0, h0⟩ := hash_cells g0
    obtain ⟨l1, e1, h1⟩ := hash_cells g1
    obtain ⟨b2, e2, _⟩ := DataW.trod_bool Tryd.underlying4 g2
    refine ⟨(⟨l0, h0⟩, ⟨l1, h1⟩, b2), ?_, trivial⟩
    show cs = By l0 ++ (By l1 ++ [.bool b2])
    rw [← e0, ← e1, ← e2]
    have a1 : cs = cs.take 32 ++ cs.drop 32 := (List.take_append_drop _ _).symm
    have a2 : cs.drop 32 = (cs.drop 32).take 32 ++ cs.drop 64 := by
      have := (List.take_append_drop 32 (cs.drop 32)).symm
      rwa [List.drop_drop] at this
    have a3 : (cs.drop 64).take 1 = cs.drop 64 := List.take_of_length_le (by rw [List.length_drop, hcl]; decide)
    rw [a3, ← a2, ← a1]
theorem act_arg11 {r : Reach} {base : Nat} {v : Value} {d : DataW H} {p : List MemPlace} (hval : Value.okWide Tryd.prog W r base 48 v) (h : DataW.Trod enc Tryd.prog W 0 (fun _ => true) true 48 v d p) : ∃ x : Hs × Hs × Bool, v = .agg (AE.c x).toArray := by
  obtain ⟨cs, rfl, _⟩ := okWide_struct Tryd.underlying48 hval
  obtain ⟨fuel, hf⟩ := h
  obtain ⟨x, e, _⟩ := act_cell _ _ _ hf
  refine ⟨x, ?_⟩
  have e' : cs.toList = AE.c x := by simpa [Value.cells] using e
  rw [← e']
theorem acts_arg11 {r : Reach} {base : Nat} {v : Value} {d : DataW H} {p : List MemPlace} (hval : Value.okWide Tryd.prog W r base 22 v) (h : DataW.Trod enc Tryd.prog W 0 (fun _ => true) true 22 v d p) : ∃ L : List (Hs × Hs × Bool), RdG AE W v L := by
  obtain ⟨a, len, cap, rfl⟩ := okWide_slice Tryd.underlying22 hval
  obtain ⟨fuel, hf⟩ := h
  have ka : Tryd.prog.cellsOf 48 = AE.n := by kernel_rfl
  have hf' : DataW.trod enc Tryd.prog W 0 (fun _ => true) true fuel 22 [.slice a len cap] = some (d, p) := by simpa [Value.cells] using hf
  obtain ⟨L, hL, _⟩ := slice_open (E := AE) (Q := fun _ _ => True) (by decide) Tryd.underlying22 ka za act_cell hf'
  exact ⟨L, hL⟩
end
#print axioms acts_arg11
#print axioms act_arg11
end Go.Proofs.YtnomlnedincfjaaDoor
