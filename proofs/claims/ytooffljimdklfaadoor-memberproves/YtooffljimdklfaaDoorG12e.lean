/-
  Texts that ride together: MbR MbM.
-/
import Derived.Test.YtooffljimdklfaaDoorG12b
import Derived.Test.YtooffljimdklfaaDoorG12d
/-
  The reference's Prove: what the call does.
-/
namespace Go.Proofs.YtooffljimdklfaaDoor
open Go.RowKit
theorem PrC.setKey (v : Value) (l : List Sp) (b : Bool) (k y k' : Hs) : over (PrC v (l, b, k, y)) 2 (By k'.1) = PrC v (l, b, k', y) :=
  over_mid (A := [v, .bool b]) (X := By k.1) (B := By y.1) rfl ((By_len k).trans (By_len k').symm)
theorem PrC.setVal (v : Value) (l : List Sp) (b : Bool) (k y y' : Hs) : over (PrC v (l, b, k, y)) 34 (By y'.1) = PrC v (l, b, k, y') :=
  over_end (A := [v, .bool b] ++ By k.1) (X := By y.1) (by simp [By_len]) ((By_len y).trans (By_len y').symm)
/-- A truth stored into one cell of a block. -/
theorem wp_store_b1 {w : World} {o : Oper} {a : Act} {K : Act → World → Prop} {Q : Exit → Act → World → Prop} (x y : Operand) (ho : o.op = .store 4 x y) (b j : Nat) (T : TypeId) (cs : List Value) (u : Value) (c : Bool)
    (hx : a.eval x = .pointer (some ⟨b, j, none⟩)) (hy : a.eval y = .bool c) (hB : Blk w b T cs) (hu : cs[j]? = some u) (h : ∀ w', Blk w' b T (cs.set j (.bool c)) → But b w w' → K (a.put o.dst undef) w') : o.wp Tryd.prog a w K Q := by
  have hc := hB.cell (j := j) (v := u) hu
  have hf := hB.frozen j
  have hrun : (execOp a.eval o).run Tryd.prog w = .ok .skip (w.setCell ⟨b, j, none⟩ (.bool c)) := by
    simp only [execOp, ho, hx, hy]
    go_simp
  unfold Oper.wp
  rw [hrun]
  exact h _ (hB.set j (.bool c)) (But.setCell b w j _)
set_option maxHeartbeats 8000000 in
set_option maxRecDepth 100000 in
theorem eProve_any {w : World} {v : Value} {L : List It} (k : Hs) (hr : RdG IE w v L) (hs : Srt L) (hL : L.length ≤ 1000000) : Calls Tryd.prog 14 #[v, HV k] w fun e w' => ∃ a c, e = .returned (.agg (PrC (.slice a (prP L k).1.length c) (prP L k)).toArray) ∧ OwnG SE w' w.heap.size 69 (.slice a (prP L k).1.length c) (prP L k).1 ∧ Below w.heap.size w w' := by
  obtain ⟨N, HN⟩ : ∃ N, Hid (w.heap.size = N) := ⟨_, rfl⟩
  rw [HN.out]
  have HS0 := hide hs
  have HR0 := hide hr
  obtain ⟨a0, cp0, rfl⟩ := hr.slice
  have HWL : Hid ((wayP L k).1.length ≤ 1000000) := (show _ ≤ _ from Nat.le_trans (way_short k _ L rfl hs) hL)
  obtain ⟨n0, HN0⟩ : ∃ z, Hid (L.length = z) := ⟨_, rfl⟩
  rw [HN0.out] at HR0 hL ⊢
  clear hs hr
  unfold HV
  go_enter Tryd.func14, Tryd.ntmps14
  go_upto_region 2 with fail
  obtain ⟨w1, hw1⟩ : ∃ z, z = ((w.alloc (.cells (By k.1).toArray 24 (0, 0))).alloc (.cells (PrC (.slice none 0 0) zp).toArray 35 (0, 0))).alloc (.cells (PrC (.slice none 0 0) zp).toArray 35 (0, 0)) := ⟨_, rfl⟩
  change Code.wp _ _ _ _ (((w.alloc (.cells (By k.1).toArray 24 (0, 0))).alloc (.cells (PrC (.slice none 0 0) zp).toArray 35 (0, 0))).alloc (.cells (PrC (.slice none 0 0) zp).toArray 35 (0, 0)))
  rw [← hw1, HN.out]
  obtain ⟨b0, b1, b2, ln, sz1⟩ := box3 HN hw1
  clear hw1
  obtain ⟨E, HE⟩ : ∃ E, Hid (N + 2 = E) := ⟨_, rfl⟩
  have hNE : N + 2 ≤ E := Nat.le_of_eq HE.out
  rw [HE.out] at b2
  have K1 := hide b0
  have Z1 := hide b1
  have X1 := hide b2
  have L1 := hide ln
  clear b0 b1 b2 ln sz1
  rw [show N + 1 + 1 = E from HE.out]
  go_wp2_with fail
  go_loopg [0] n0 (fun g x wr => ∃ (a : Option Addr) (n cp : Nat) (M : List It) (acc : List Sp) (pa : Option Addr) (sn sc : Nat), x = .slice a n cp ∧ n = M.length ∧ M.length ≤ g ∧ Hid (M.length ≤ 1000000) ∧ Hid (Srt M) ∧ Hid (RdG IE w (.slice a n cp) M) ∧ Hid (OwnG SE wr N 69 (.slice pa sn sc) acc) ∧ Hid (Blk wr E 35 (PrC (.slice pa sn sc) zp)) ∧ Hid (acc ++ (wayP M k).1 = (wayP L k).1 ∧ (wayP M k).2 = (wayP L k).2) ∧ Hid (Below N w wr) ∧ Hid (Blk wr N 24 (By k.1)) ∧ Hid (Blk wr (N + 1) 35 (PrC (.slice none 0 0) zp)))
  case atStart => exact ⟨a0, n0, cp0, L, [], none, 0, 0, rfl, HN0.out.symm, Nat.le_of_eq HN0.out, (show _ ≤ _ by rw [HN0.out]; exact hL), HS0, HR0, (show OwnG _ _ _ _ _ _ from ownG_nil _ _ _), X1, (show _ ∧ _ from ⟨rfl, rfl⟩), L1, K1, Z1⟩
  case round =>
    clear K1 Z1 X1 L1
    obtain ⟨a, n, cp, M, acc, pa, sn, sc, rfl, hnM, hMg, HLB, HSM0, RM, OR, XR, HWY, LR, KR, ZR⟩ := hrel
    have HNM : Hid (M.length = n) := hnM.symm
    rw [HNM.out] at hMg
    have hGR : N ≤ wr.heap.size := Nat.le_of_lt KR.out.lt
    have hnb : n ≤ 1000000 := by rw [← HNM.out]; exact HLB.out
    have hcp := RM.out.cap
    have HSN : Hid (sn = acc.length) := (show _ = _ by obtain ⟨_, _, e⟩ := OR.out.form; simp only [Value.slice.injEq] at e; exact e.2.1)
    clear hnM
    by_cases h22 : 2 ≤ n
    · have q1 : (1 : Int) < (n : Int) := by omega
      have hM2 : 2 ≤ M.length := by rw [HNM.out]; exact h22
      have HSTP := hide (wayP_step HSM0.out hM2 k)
      have HSS := hide (sideP_srt HSM0.out k)
      have HSM := hide (Nat.lt_of_lt_of_le (sideP_len HSM0.out hM2 k).2 (by rw [HNM.out]; exact hMg))
      have hcut := HSM0.out.cut hM2
      rw [HNM.out] at hcut
      have HL9 : Hid (∀ z : Sp, acc.length + [z].length ≤ 10000000) := (show _ from fun z => by
        have := acc_len HWY.out.1 HWL.out
        rw [List.length_singleton]
        omega)
      have CC := hide (yCut_any (RM.out.kept (LR.out.mono (Nat.le_of_eq HN.out))) HLB.out (by omega))
      obtain ⟨q, HQ⟩ : ∃ q, Hid (cutB M = q) := ⟨_, rfl⟩
      obtain ⟨c, HC⟩ : ∃ c, Hid (cutN M = c) := ⟨_, rfl⟩
      rw [HQ.out, HC.out] at CC
      rw [HC.out] at hcut
      obtain ⟨hs1, hs1r⟩ := slice_G_to (E := IE) (P := Tryd.prog) Tryd.underlying29 Tryd.sizeI' a n cp c (by omega) (by omega)
      obtain ⟨a2, hs2, -, hs2r⟩ := slice_G (E := IE) (P := Tryd.prog) Tryd.underlying29 Tryd.sizeI' a n cp c (by omega) (by omega)
      have RT0 := hide (hs1r _ _ RM.out)
      have RD0 := hide (hs2r _ _ RM.out)
      have HST : Hid (Srt (M.take c)) := HSM0.out.sub (List.take_sublist _ _)
      have HSD : Hid (Srt (M.drop c)) := HSM0.out.sub (List.drop_sublist _ _)
      have CB := hide (fun w => yBit_any k (q : Int) w)
      rw [bitZ_nat] at CB
      unfold bitN at CB
      obtain ⟨s, HS⟩ : ∃ s, Hid (bit k q = s) := ⟨_, rfl⟩
      rw [HS.out] at CB
      clear hs1r hs2r hM2 hMg
      go_upto_region 4 with (first
        | (go_at_call 30; refine CC.out.mono ?_; rintro e w3 ⟨rfl, hb3⟩; have K3 := hide (KR.out.kept hb3); have Z3 := hide (ZR.out.kept hb3); have X3 := hide (XR.out.kept hb3); have O3 := hide (OR.out.kept hb3); have L3 : Hid (Below N w w3) := (show _ from LR.out.trans (hb3.mono hGR)); have G3 : Hid (N ≤ w3.heap.size) := (show _ ≤ _ from Nat.le_of_lt K3.out.lt); have rk3 := K3.out.range0; clear hb3)
        | fail)
      clear KR ZR XR OR LR CC
      cases s with
      | false =>
        have HSD2 : Hid (sideP M k = M.take c) := (show _ = _ by unfold sideP; rw [HQ.out, HS.out]; simp [HC.out])
        have HOD : Hid (otherP M k = M.drop c) := (show _ = _ by unfold otherP; rw [HQ.out, HS.out]; simp [HC.out])
        obtain ⟨ro, HRO⟩ : ∃ z, Hid (rootP (M.drop c) = z) := ⟨_, rfl⟩
        have HOL : Hid ((M.drop c).length ≤ 1000000) := (show _ ≤ _ by rw [List.length_drop, HNM.out]; omega)
        have HSLEN : Hid ((sideP M k).length = c) := (show _ = _ by rw [HSD2.out, List.length_take, HNM.out]; omega)
        have HWY2 : Hid ((acc ++ [((q : Int), ro)]) ++ (wayP (sideP M k) k).1 = (wayP L k).1 ∧ (wayP (sideP M k) k).2 = (wayP L k).2) := (show _ ∧ _ by
          obtain ⟨g1, g2⟩ := HWY.out
          rw [HSTP.out, HOD.out, HRO.out, HQ.out] at g1
          rw [HSTP.out] at g2
          exact ⟨by rw [List.append_assoc]; exact g1, g2⟩)
        go_upto_region 5 with (first
          | (refine wpList_load_mid rfl 24 _ rfl N 0 rfl (By k.1) _ rk3 Tryd.underlying24 rfl (Tryd.sizeH _) ?_)
          | (go_at_call 31; refine (CB.out _).mono ?_; rintro e w4 ⟨rfl, hb4⟩; have K4 := hide (K3.out.kept hb4); have Z4 := hide (Z3.out.kept hb4); have X4 := hide (X3.out.kept hb4); have O4 := hide (O3.out.kept hb4); have L4 : Hid (Below N w w4) := (show _ from L3.out.trans (hb4.mono G3.out)); have G4 : Hid (N ≤ w4.heap.size) := (show _ ≤ _ from Nat.le_of_lt K4.out.lt); clear hb4)
          | fail)
        have RT := hide (RT0.out.kept (L4.out.mono (Nat.le_of_eq HN.out)))
        have RD := hide (RD0.out.kept (L4.out.mono (Nat.le_of_eq HN.out)))
        clear K3 Z3 X3 O3 L3 G3 rk3
        refine wp_region_tails Tryd.mixed (KS (fun i_ => match i_ with | 0 => .val (.pointer (some ⟨E, 0, none⟩)) | 1 => .val (.slice pa sn sc) | 2 => .val (.int .i64 (q : Int)) | 3 => .val (.slice a n cp) | 4 => .val (.int .i64 (c : Int)) | 5 => .val (.slice a2 (n - c) (cp - c)) | 6 => .val (HV ro) | 7 => .val (.agg (SE.c ((q : Int), ro)).toArray) | 8 => .of (fun w v_ => RdG SE w v_ [((q : Int), ro)]) (fun _ _ _ hg h => h.kept hg) | _ => .free)) 63 rfl (by decide +kernel) 9 (by decide) (by decide +kernel) (KS_mono _) ?_ ?_
        · refine AllFrom.cons ⟨rfl, fun a' w' hg hk hd => ?_⟩ (AllFrom.cons ⟨rfl, fun a' w' hg hk hd => ?_⟩ (AllFrom.cons ⟨rfl, fun a' w' hg hk hd => ?_⟩ (AllFrom.cons ⟨rfl, fun a' w' hg hk hd => ?_⟩ (AllFrom.cons ⟨rfl, fun a' w' hg hk hd => ?_⟩ (AllFrom.cons ⟨rfl, fun a' w' hg hk hd => ?_⟩ (AllFrom.cons ⟨rfl, fun a' w' hg hk hd => ?_⟩ (AllFrom.cons ⟨rfl, fun a' w' hg hk hd => ?_⟩ (AllFrom.cons ⟨rfl, fun a' w' hg hk hd => ?_⟩ AllFrom.nil))))))))
          · skip
            intro Q
            have e5 : a'.eval (.tmp 5) = .pointer (some ⟨E, 0, none⟩) := hk.at 5 (by decide +kernel)
            clear hd hk
            exact wp_value (.pointer (some ⟨E, 0, none⟩)) (by simp only [execOp, e5]; go_simp) (KS_mkv rfl rfl)
          · skip
            intro Q
            have e20 : a'.eval (.tmp 20) = .pointer (some ⟨E, 0, none⟩) := KS_val (hd.val 0 20 (by decide +kernel)) rfl
            have hc := PrC.steps (X4.out.kept hg)
            clear hd hk
            exact wp_value (.slice pa sn sc) (by simp only [execOp, e20]; go_simp) (KS_mkv rfl rfl)
          · skip
            intro Q
            have e6 : a'.eval (.tmp 6) = .int .i64 (q : Int) := hk.at 6 (by decide +kernel)
            exact wp_value _ (by simp only [execOp, e6]; rfl) (KS_mkv rfl rfl)
          · skip
            intro Q
            have e0 : a'.eval (.tmp 0) = .slice a n cp := hk.at 0 (by decide +kernel)
            exact wp_value _ (by simp only [execOp, e0]; rfl) (KS_mkv rfl rfl)
          · skip
            intro Q
            have e7 : a'.eval (.tmp 7) = .int .i64 (c : Int) := hk.at 7 (by decide +kernel)
            exact wp_value _ (by simp only [execOp, e7]; rfl) (KS_mkv rfl rfl)
          · skip
            intro Q
            have e23 : a'.eval (.tmp 23) = .slice a n cp := KS_val (hd.val 3 23 (by decide +kernel)) rfl
            have e24 : a'.eval (.tmp 24) = .int .i64 (c : Int) := KS_val (hd.val 4 24 (by decide +kernel)) rfl
            exact wp_value _ (by simp only [execOp, e23, e24, hs2, Sem.run_bind, Result.andThen_ok, Option.map_none, Option.map_some]; rfl) (KS_mkv rfl rfl)
          · skip
            intro Q
            have e25 : a'.eval (.tmp 25) = .slice a2 (n - c) (cp - c) := KS_val (hd.val 5 25 (by decide +kernel)) rfl
            refine wp_call 32 _ (run_enter 32 _ _ rfl (by kernel_rfl)) ?_
            simp only [List.map_toArray, List.map_nil, List.map_cons, e25]
            refine (yRoot_any (RD.out.kept hg) HSD.out HOL.out).mono ?_
            rintro e w5 ⟨rfl, hb5⟩
            exact ⟨_, rfl, KS_mkv rfl (by rw [HRO.out]), hb5⟩
          · skip
            intro Q
            have e22 : a'.eval (.tmp 22) = .int .i64 (q : Int) := KS_val (hd.val 2 22 (by decide +kernel)) rfl
            have e26 : a'.eval (.tmp 26) = HV ro := KS_val (hd.val 6 26 (by decide +kernel)) rfl
            exact wp_value (.agg (SE.c ((q : Int), ro)).toArray) (by simp only [execOp, List.map_toArray, List.map_cons, List.map_nil, e22, e26, Sem.run_bind, Sem.run_pure]; exact congrArg (fun r => Result.andThen r _) (build_rstep (q : Int) ro _)) (KS_mkv rfl rfl)
          · skip
            intro Q
            have e27 : a'.eval (.tmp 27) = .agg (SE.c ((q : Int), ro)).toArray := KS_val (hd.val 7 27 (by decide +kernel)) rfl
            exact wp_grow _ _ (by simp only [execOp, List.map_toArray, List.map_cons, List.map_nil, e27, Sem.run_bind, Sem.run_pure]; exact congrArg (fun r => Result.andThen r _) (build_row1r ((q : Int), ro) _)) ((Below.refl _ _).alloc (Nat.le_refl _) _) (KS_mko rfl (rdG_one w' 69 ((q : Int), ro)))
        · intro a' w6 hsz hdf hk hall hg
          have e20 : a'.eval (.tmp 20) = .pointer (some ⟨E, 0, none⟩) := KS_val (hall 0 _ 20 (by decide) rfl rfl) rfl
          have e21 : a'.eval (.tmp 21) = .slice pa sn sc := KS_val (hall 1 _ 21 (by decide) rfl rfl) rfl
          have e22 : a'.eval (.tmp 22) = .int .i64 (q : Int) := KS_val (hall 2 _ 22 (by decide) rfl rfl) rfl
          have e23 : a'.eval (.tmp 23) = .slice a n cp := KS_val (hall 3 _ 23 (by decide) rfl rfl) rfl
          have e24 : a'.eval (.tmp 24) = .int .i64 (c : Int) := KS_val (hall 4 _ 24 (by decide) rfl rfl) rfl
          have e25 : a'.eval (.tmp 25) = .slice a2 (n - c) (cp - c) := KS_val (hall 5 _ 25 (by decide) rfl rfl) rfl
          have e26 : a'.eval (.tmp 26) = HV ro := KS_val (hall 6 _ 26 (by decide) rfl rfl) rfl
          have e27 : a'.eval (.tmp 27) = .agg (SE.c ((q : Int), ro)).toArray := KS_val (hall 7 _ 27 (by decide) rfl rfl) rfl
          have r8 := KS_of (hall 8 _ 28 (by decide) rfl rfl) rfl
          obtain ⟨x8, e28⟩ : ∃ v, a'.eval (.tmp 28) = v := ⟨_, rfl⟩
          rw [e28] at r8
          obtain ⟨z9, e29⟩ : ∃ v, a'.eval (.tmp 29) = v := ⟨_, rfl⟩
          obtain ⟨z10, e30⟩ : ∃ v, a'.eval (.tmp 30) = v := ⟨_, rfl⟩
          have e5 : a'.eval (.tmp 5) = .pointer (some ⟨E, 0, none⟩) := hk.at 5 (by decide +kernel)
          refine ⟨rfl, ?_⟩
          refine wp_append_E (E := SE) Tryd.underlying33 infoR9 (by decide) (.tmp 21) (.tmp 28) rfl N (.slice pa sn sc) acc e21 (O4.out.kept hg) _ [((q : Int), ro)] e28 r8 (HL9.out _) (Nat.le_trans G4.out hg.size) ?_
          intro v9 w9 o9 g9 q9
          obtain ⟨p9, c9, hv9⟩ := o9.form
          obtain ⟨n9, hn9⟩ : ∃ z, (acc ++ [((q : Int), ro)]).length = z := ⟨_, rfl⟩
          rw [hn9] at hv9
          subst hv9
          clear hn9 q9
          refine ⟨_, rfl, ?_⟩
          refine ⟨rfl, ?_⟩
          refine Oper.wp_mono ?_ (wp_same (C := fun x => x = w9) (.pointer (some ⟨E, 0, none⟩)) (by simp only [execOp]; rw [eval_put_other (by decide), e5]; rfl) rfl)
          rintro a2 w2 ⟨rfl, hw2⟩
          rw [hw2]
          clear hw2
          clear w2
          refine ⟨_, rfl, ?_⟩
          refine ⟨rfl, ?_⟩
          have D9 : Chg (fun j => (Value.slice pa sn sc).ownBlock = some j) w4 w9 := (Chg.of_below hg).trans (Chg.of_grown g9 (fun k e _ => e))
          have HNO : ∀ {j : Nat} {T : TypeId} {cs : List Value}, Blk w4 j T cs → T ≠ 69 → ¬ (Value.slice pa sn sc).ownBlock = some j := fun hB hT e => by obtain ⟨_, _, cur, hcur⟩ := O4.out.block e; exact hT (hB.inj (show Blk _ _ _ cur.toList from by simpa [Blk] using hcur)).1
          have X9 := X4.out.chg D9 (HNO X4.out (by decide))
          have K9 := K4.out.chg D9 (HNO K4.out (by decide))
          have Z9 := Z4.out.chg D9 (HNO Z4.out (by decide))
          have L9 : Below N w w9 := L4.out.trans (D9.below G4.out (fun j hj e => by have := (O4.out.block e).1; omega))
          refine wp_store_rs (.tmp 30) (.tmp 29) rfl E 0 35 (PrC (.slice pa sn sc) zp) (.slice pa sn sc) p9 n9 c9 (by rw [eval_put_same (by rw [put_size, hsz]; simp)]) (by rw [eval_put_other (by decide), eval_put_same (by rw [hsz]; simp)]) X9 rfl ?_
          intro w10 b10 u10
          refine ⟨_, rfl, ?_⟩
          have O10 := hide (o9.chg (F := fun j => j = E) (Chg.of_but u10 rfl) (fun j hj e => by subst e; obtain ⟨_, _, cur, hcur⟩ := o9.block hj; have h9 := (X9.inj (show Blk _ _ _ cur.toList from by simpa [Blk] using hcur)).1; exact absurd h9 (by decide)))
          have X10 : Hid (Blk w10 E 35 (PrC (.slice p9 n9 c9) zp)) := b10
          have K10 := hide (K9.but u10 (by omega))
          have Z10 := hide (Z9.but u10 (by omega))
          have L10 : Hid (Below N w w10) := (show _ from L9.trans (u10.below (by omega) (by have := K9.lt; omega)))
          have ha := act_puts 63 rfl hsz hdf hk [20, 21, 22, 23, 24, 25, 26, 27, 28, 29, 30] (by decide +kernel)
          simp only [puts, List.foldl_cons, List.foldl_nil, e20, e21, e22, e23, e24, e25, e26, e27, e28, e29, e30] at ha
          simp only [Act.put, List.setIfInBounds_toArray, List.set_cons_succ, List.set_cons_zero] at ha
          have hput : ((a').put (some 29) (.slice p9 n9 c9)).put (some 30) (.pointer (some ⟨E, 0, none⟩)) = { tmps := (a'.tmps.setIfInBounds 29 (.slice p9 n9 c9)).setIfInBounds 30 (.pointer (some ⟨E, 0, none⟩)), defers := a'.defers } := rfl
          have hput2 : ∀ (b : Act), b.put none undef = b := fun _ => rfl
          simp only [hput, hput2, wpSeq]
          subst ha
          clear hput hput2 hall hk hsz hdf hg o9 g9 D9 HNO r8 X9 K9 Z9 L9 b10 u10 e5 e20 e21 e22 e23 e24 e25 e26 e27 e28 e29 e30
          go_wp2_with fail
          go_roundg (sideP M k).length
          case measure => exact HSM.out
          case rel => exact ⟨a, _, _, sideP M k, acc ++ [((q : Int), ro)], p9, n9, c9, rfl, HSLEN.out.symm, Nat.le_refl _, (show _ ≤ _ by rw [HSLEN.out]; omega), HSS, (show RdG _ _ _ _ by rw [HSD2.out]; exact RT0.out), O10, X10, HWY2, L10, K10, Z10⟩
      | true =>
        have HSD2 : Hid (sideP M k = M.drop c) := (show _ = _ by unfold sideP; rw [HQ.out, HS.out]; simp [HC.out])
        have HOD : Hid (otherP M k = M.take c) := (show _ = _ by unfold otherP; rw [HQ.out, HS.out]; simp [HC.out])
        obtain ⟨ro, HRO⟩ : ∃ z, Hid (rootP (M.take c) = z) := ⟨_, rfl⟩
        have HOL : Hid ((M.take c).length ≤ 1000000) := (show _ ≤ _ by rw [List.length_take, HNM.out]; omega)
        have HSLEN : Hid ((sideP M k).length = n - c) := (show _ = _ by rw [HSD2.out, List.length_drop, HNM.out])
        have HWY2 : Hid ((acc ++ [((q : Int), ro)]) ++ (wayP (sideP M k) k).1 = (wayP L k).1 ∧ (wayP (sideP M k) k).2 = (wayP L k).2) := (show _ ∧ _ by
          obtain ⟨g1, g2⟩ := HWY.out
          rw [HSTP.out, HOD.out, HRO.out, HQ.out] at g1
          rw [HSTP.out] at g2
          exact ⟨by rw [List.append_assoc]; exact g1, g2⟩)
        go_upto_region 7 with (first
          | (refine wpList_load_mid rfl 24 _ rfl N 0 rfl (By k.1) _ rk3 Tryd.underlying24 rfl (Tryd.sizeH _) ?_)
          | (go_at_call 31; refine (CB.out _).mono ?_; rintro e w4 ⟨rfl, hb4⟩; have K4 := hide (K3.out.kept hb4); have Z4 := hide (Z3.out.kept hb4); have X4 := hide (X3.out.kept hb4); have O4 := hide (O3.out.kept hb4); have L4 : Hid (Below N w w4) := (show _ from L3.out.trans (hb4.mono G3.out)); have G4 : Hid (N ≤ w4.heap.size) := (show _ ≤ _ from Nat.le_of_lt K4.out.lt); clear hb4)
          | fail)
        have RT := hide (RT0.out.kept (L4.out.mono (Nat.le_of_eq HN.out)))
        have RD := hide (RD0.out.kept (L4.out.mono (Nat.le_of_eq HN.out)))
        clear K3 Z3 X3 O3 L3 G3 rk3
        refine wp_region_tails Tryd.mixed (KS (fun i_ => match i_ with | 0 => .val (.pointer (some ⟨E, 0, none⟩)) | 1 => .val (.slice pa sn sc) | 2 => .val (.int .i64 (q : Int)) | 3 => .val (.slice a n cp) | 4 => .val (.int .i64 (c : Int)) | 5 => .val (.slice a c cp) | 6 => .val (HV ro) | 7 => .val (.agg (SE.c ((q : Int), ro)).toArray) | 8 => .of (fun w v_ => RdG SE w v_ [((q : Int), ro)]) (fun _ _ _ hg h => h.kept hg) | _ => .free)) 63 rfl (by decide +kernel) 9 (by decide) (by decide +kernel) (KS_mono _) ?_ ?_
        · refine AllFrom.cons ⟨rfl, fun a' w' hg hk hd => ?_⟩ (AllFrom.cons ⟨rfl, fun a' w' hg hk hd => ?_⟩ (AllFrom.cons ⟨rfl, fun a' w' hg hk hd => ?_⟩ (AllFrom.cons ⟨rfl, fun a' w' hg hk hd => ?_⟩ (AllFrom.cons ⟨rfl, fun a' w' hg hk hd => ?_⟩ (AllFrom.cons ⟨rfl, fun a' w' hg hk hd => ?_⟩ (AllFrom.cons ⟨rfl, fun a' w' hg hk hd => ?_⟩ (AllFrom.cons ⟨rfl, fun a' w' hg hk hd => ?_⟩ (AllFrom.cons ⟨rfl, fun a' w' hg hk hd => ?_⟩ AllFrom.nil))))))))
          · skip
            intro Q
            have e5 : a'.eval (.tmp 5) = .pointer (some ⟨E, 0, none⟩) := hk.at 5 (by decide +kernel)
            clear hd hk
            exact wp_value (.pointer (some ⟨E, 0, none⟩)) (by simp only [execOp, e5]; go_simp) (KS_mkv rfl rfl)
          · skip
            intro Q
            have e34 : a'.eval (.tmp 34) = .pointer (some ⟨E, 0, none⟩) := KS_val (hd.val 0 34 (by decide +kernel)) rfl
            have hc := PrC.steps (X4.out.kept hg)
            clear hd hk
            exact wp_value (.slice pa sn sc) (by simp only [execOp, e34]; go_simp) (KS_mkv rfl rfl)
          · skip
            intro Q
            have e6 : a'.eval (.tmp 6) = .int .i64 (q : Int) := hk.at 6 (by decide +kernel)
            exact wp_value _ (by simp only [execOp, e6]; rfl) (KS_mkv rfl rfl)
          · skip
            intro Q
            have e0 : a'.eval (.tmp 0) = .slice a n cp := hk.at 0 (by decide +kernel)
            exact wp_value _ (by simp only [execOp, e0]; rfl) (KS_mkv rfl rfl)
          · skip
            intro Q
            have e7 : a'.eval (.tmp 7) = .int .i64 (c : Int) := hk.at 7 (by decide +kernel)
            exact wp_value _ (by simp only [execOp, e7]; rfl) (KS_mkv rfl rfl)
          · skip
            intro Q
            have e37 : a'.eval (.tmp 37) = .slice a n cp := KS_val (hd.val 3 37 (by decide +kernel)) rfl
            have e38 : a'.eval (.tmp 38) = .int .i64 (c : Int) := KS_val (hd.val 4 38 (by decide +kernel)) rfl
            exact wp_value _ (by simp only [execOp, e37, e38, hs1, Sem.run_bind, Result.andThen_ok, Option.map_none, Option.map_some]; rfl) (KS_mkv rfl rfl)
          · skip
            intro Q
            have e39 : a'.eval (.tmp 39) = .slice a c cp := KS_val (hd.val 5 39 (by decide +kernel)) rfl
            refine wp_call 32 _ (run_enter 32 _ _ rfl (by kernel_rfl)) ?_
            simp only [List.map_toArray, List.map_nil, List.map_cons, e39]
            refine (yRoot_any (RT.out.kept hg) HST.out HOL.out).mono ?_
            rintro e w5 ⟨rfl, hb5⟩
            exact ⟨_, rfl, KS_mkv rfl (by rw [HRO.out]), hb5⟩
          · skip
            intro Q
            have e36 : a'.eval (.tmp 36) = .int .i64 (q : Int) := KS_val (hd.val 2 36 (by decide +kernel)) rfl
            have e40 : a'.eval (.tmp 40) = HV ro := KS_val (hd.val 6 40 (by decide +kernel)) rfl
            exact wp_value (.agg (SE.c ((q : Int), ro)).toArray) (by simp only [execOp, List.map_toArray, List.map_cons, List.map_nil, e36, e40, Sem.run_bind, Sem.run_pure]; exact congrArg (fun r => Result.andThen r _) (build_rstep (q : Int) ro _)) (KS_mkv rfl rfl)
          · skip
            intro Q
            have e41 : a'.eval (.tmp 41) = .agg (SE.c ((q : Int), ro)).toArray := KS_val (hd.val 7 41 (by decide +kernel)) rfl
            exact wp_grow _ _ (by simp only [execOp, List.map_toArray, List.map_cons, List.map_nil, e41, Sem.run_bind, Sem.run_pure]; exact congrArg (fun r => Result.andThen r _) (build_row1r ((q : Int), ro) _)) ((Below.refl _ _).alloc (Nat.le_refl _) _) (KS_mko rfl (rdG_one w' 69 ((q : Int), ro)))
        · intro a' w6 hsz hdf hk hall hg
          have e34 : a'.eval (.tmp 34) = .pointer (some ⟨E, 0, none⟩) := KS_val (hall 0 _ 34 (by decide) rfl rfl) rfl
          have e35 : a'.eval (.tmp 35) = .slice pa sn sc := KS_val (hall 1 _ 35 (by decide) rfl rfl) rfl
          have e36 : a'.eval (.tmp 36) = .int .i64 (q : Int) := KS_val (hall 2 _ 36 (by decide) rfl rfl) rfl
          have e37 : a'.eval (.tmp 37) = .slice a n cp := KS_val (hall 3 _ 37 (by decide) rfl rfl) rfl
          have e38 : a'.eval (.tmp 38) = .int .i64 (c : Int) := KS_val (hall 4 _ 38 (by decide) rfl rfl) rfl
          have e39 : a'.eval (.tmp 39) = .slice a c cp := KS_val (hall 5 _ 39 (by decide) rfl rfl) rfl
          have e40 : a'.eval (.tmp 40) = HV ro := KS_val (hall 6 _ 40 (by decide) rfl rfl) rfl
          have e41 : a'.eval (.tmp 41) = .agg (SE.c ((q : Int), ro)).toArray := KS_val (hall 7 _ 41 (by decide) rfl rfl) rfl
          have r8 := KS_of (hall 8 _ 42 (by decide) rfl rfl) rfl
          obtain ⟨x8, e42⟩ : ∃ v, a'.eval (.tmp 42) = v := ⟨_, rfl⟩
          rw [e42] at r8
          obtain ⟨z9, e43⟩ : ∃ v, a'.eval (.tmp 43) = v := ⟨_, rfl⟩
          obtain ⟨z10, e44⟩ : ∃ v, a'.eval (.tmp 44) = v := ⟨_, rfl⟩
          have e5 : a'.eval (.tmp 5) = .pointer (some ⟨E, 0, none⟩) := hk.at 5 (by decide +kernel)
          refine ⟨rfl, ?_⟩
          refine wp_append_E (E := SE) Tryd.underlying33 infoR9 (by decide) (.tmp 35) (.tmp 42) rfl N (.slice pa sn sc) acc e35 (O4.out.kept hg) _ [((q : Int), ro)] e42 r8 (HL9.out _) (Nat.le_trans G4.out hg.size) ?_
          intro v9 w9 o9 g9 q9
          obtain ⟨p9, c9, hv9⟩ := o9.form
          obtain ⟨n9, hn9⟩ : ∃ z, (acc ++ [((q : Int), ro)]).length = z := ⟨_, rfl⟩
          rw [hn9] at hv9
          subst hv9
          clear hn9 q9
          refine ⟨_, rfl, ?_⟩
          refine ⟨rfl, ?_⟩
          refine Oper.wp_mono ?_ (wp_same (C := fun x => x = w9) (.pointer (some ⟨E, 0, none⟩)) (by simp only [execOp]; rw [eval_put_other (by decide), e5]; rfl) rfl)
          rintro a2 w2 ⟨rfl, hw2⟩
          rw [hw2]
          clear hw2
          clear w2
          refine ⟨_, rfl, ?_⟩
          refine ⟨rfl, ?_⟩
          have D9 : Chg (fun j => (Value.slice pa sn sc).ownBlock = some j) w4 w9 := (Chg.of_below hg).trans (Chg.of_grown g9 (fun k e _ => e))
          have HNO : ∀ {j : Nat} {T : TypeId} {cs : List Value}, Blk w4 j T cs → T ≠ 69 → ¬ (Value.slice pa sn sc).ownBlock = some j := fun hB hT e => by obtain ⟨_, _, cur, hcur⟩ := O4.out.block e; exact hT (hB.inj (show Blk _ _ _ cur.toList from by simpa [Blk] using hcur)).1
          have X9 := X4.out.chg D9 (HNO X4.out (by decide))
          have K9 := K4.out.chg D9 (HNO K4.out (by decide))
          have Z9 := Z4.out.chg D9 (HNO Z4.out (by decide))
          have L9 : Below N w w9 := L4.out.trans (D9.below G4.out (fun j hj e => by have := (O4.out.block e).1; omega))
          refine wp_store_rs (.tmp 44) (.tmp 43) rfl E 0 35 (PrC (.slice pa sn sc) zp) (.slice pa sn sc) p9 n9 c9 (by rw [eval_put_same (by rw [put_size, hsz]; simp)]) (by rw [eval_put_other (by decide), eval_put_same (by rw [hsz]; simp)]) X9 rfl ?_
          intro w10 b10 u10
          refine ⟨_, rfl, ?_⟩
          have O10 := hide (o9.chg (F := fun j => j = E) (Chg.of_but u10 rfl) (fun j hj e => by subst e; obtain ⟨_, _, cur, hcur⟩ := o9.block hj; have h9 := (X9.inj (show Blk _ _ _ cur.toList from by simpa [Blk] using hcur)).1; exact absurd h9 (by decide)))
          have X10 : Hid (Blk w10 E 35 (PrC (.slice p9 n9 c9) zp)) := b10
          have K10 := hide (K9.but u10 (by omega))
          have Z10 := hide (Z9.but u10 (by omega))
          have L10 : Hid (Below N w w10) := (show _ from L9.trans (u10.below (by omega) (by have := K9.lt; omega)))
          have ha := act_puts 63 rfl hsz hdf hk [34, 35, 36, 37, 38, 39, 40, 41, 42, 43, 44] (by decide +kernel)
          simp only [puts, List.foldl_cons, List.foldl_nil, e34, e35, e36, e37, e38, e39, e40, e41, e42, e43, e44] at ha
          simp only [Act.put, List.setIfInBounds_toArray, List.set_cons_succ, List.set_cons_zero] at ha
          have hput : ((a').put (some 43) (.slice p9 n9 c9)).put (some 44) (.pointer (some ⟨E, 0, none⟩)) = { tmps := (a'.tmps.setIfInBounds 43 (.slice p9 n9 c9)).setIfInBounds 44 (.pointer (some ⟨E, 0, none⟩)), defers := a'.defers } := rfl
          have hput2 : ∀ (b : Act), b.put none undef = b := fun _ => rfl
          simp only [hput, hput2, wpSeq]
          subst ha
          clear hput hput2 hall hk hsz hdf hg o9 g9 D9 HNO r8 X9 K9 Z9 L9 b10 u10 e5 e34 e35 e36 e37 e38 e39 e40 e41 e42 e43 e44
          go_wp2_with fail
          go_roundg (sideP M k).length
          case measure => exact HSM.out
          case rel => exact ⟨a2, _, _, sideP M k, acc ++ [((q : Int), ro)], p9, n9, c9, rfl, HSLEN.out.symm, Nat.le_refl _, (show _ ≤ _ by rw [HSLEN.out]; omega), HSS, (show RdG _ _ _ _ by rw [HSD2.out]; exact RD0.out), O10, X10, HWY2, L10, K10, Z10⟩
    · have q1 : ¬ (1 : Int) < (n : Int) := by omega
      by_cases h1 : n = 1
      · subst h1
        obtain ⟨x, rfl⟩ : ∃ x, M = [x] := by
          match M, HNM.out with
          | [x], _ => exact ⟨x, rfl⟩
        obtain ⟨ba, oa, rfl, hba, hxa⟩ := RM.out.nth (by omega)
        have hk0 : w.rangeAt ba oa (By x.1.1) := by have := IEk (hxa 0 (by simp)); simpa using this
        have hv0 : w.rangeAt ba (oa + 32) (By x.2.1) := by have := IEv (hxa 0 (by simp)); simpa using this
        have HPE : Hid (prP L k = (acc, true, x.1, x.2)) := (show _ = _ by
          obtain ⟨g1, g2⟩ := HWY.out
          rw [wayP_one] at g1 g2
          rw [List.append_nil] at g1
          rw [prP_some g2.symm, ← g1])
        clear hxa
        go_upto_region 10 with fail
        refine pivots_by (jl_wp Tryd.mixed) (fun i_ => match i_ with | 0 | 4 => .slice (some ⟨ba, oa, none⟩) 1 cp | 1 | 2 | 5 => .pointer (some ⟨ba, oa, none⟩) | 3 => HV x.1 | 6 => .pointer (some ⟨ba, oa + 32, none⟩) | 7 => HV x.2 | 8 => .pointer (some ⟨E, 1, none⟩) | 9 | 11 => undef | 10 => .pointer (some ⟨E, 2, none⟩) | _ => undef) (fun b_ w' => Blk w' E 35 (PrC (.slice pa sn sc) (acc, decide (1 ≤ b_), (if 2 ≤ b_ then x.1 else zh), zh)) ∧ Below N w w' ∧ Blk w' (N + 1) 35 (PrC (.slice none 0 0) zp) ∧ OwnG SE w' N 69 (.slice pa sn sc) acc) [9, 11] 63 rfl (by decide +kernel) 12 (by decide) (by decide) (by decide) (by decide +kernel) (by decide +kernel) ?_ ?_ ?_
        · intro w' hh hg
          exact ⟨by simpa [zp, PrC] using XR.out.kept hg, LR.out.trans (hg.mono hGR), ZR.out.kept hg, OR.out.kept hg⟩
        · refine AllFrom.cons ⟨rfl, ?_, ?_⟩ (AllFrom.cons ⟨rfl, ?_, ?_⟩ (AllFrom.cons ⟨rfl, ?_, ?_⟩ (AllFrom.cons ⟨rfl, ?_, ?_⟩ (AllFrom.cons ⟨rfl, ?_, ?_⟩ (AllFrom.cons ⟨rfl, ?_, ?_⟩ (AllFrom.cons ⟨rfl, ?_, ?_⟩ (AllFrom.cons ⟨rfl, ?_, ?_⟩ (AllFrom.cons ⟨rfl, ?_, ?_⟩ (AllFrom.cons ⟨rfl, ?_, ?_⟩ (AllFrom.cons ⟨rfl, ?_, ?_⟩ (AllFrom.cons ⟨rfl, ?_, ?_⟩ AllFrom.nil)))))))))))
          · intro _ a' b' w' hC hk hd Q
            have e0 : a'.eval (.tmp 0) = .slice (some ⟨ba, oa, none⟩) 1 cp := hk.at 0 (by decide +kernel)
            exact wp_same _ (by simp only [execOp, e0]; rfl) hC
          · intro j hj; exact absurd hj (pv_no (by decide) _)
          · intro _ a' b' w' hC hk hd Q
            have e51 : a'.eval (.tmp 51) = .slice (some ⟨ba, oa, none⟩) 1 cp := hd 0 51 (by decide +kernel)
            exact wp_same _ (by clear hd hk hC; simp only [execOp, e51]; go_simp) hC
          · intro j hj; exact absurd hj (pv_no (by decide) _)
          · intro _ a' b' w' hC hk hd Q
            have e52 : a'.eval (.tmp 52) = .pointer (some ⟨ba, oa, none⟩) := hd 1 52 (by decide +kernel)
            exact wp_same _ (by clear hd hk hC; simp only [execOp, e52]; go_simp) hC
          · intro j hj; exact absurd hj (pv_no (by decide) _)
          · intro _ a' b' w' hC hk hd Q
            have e53 : a'.eval (.tmp 53) = .pointer (some ⟨ba, oa, none⟩) := hd 2 53 (by decide +kernel)
            exact wp_loadC 24 _ rfl _ _ e53 (By x.1.1) _ (rangeAt_kept11 hk0 hba (hC.2.1.mono (Nat.le_of_eq HN.out))) Tryd.underlying24 rfl (Tryd.sizeH _) hC
          · intro j hj; exact absurd hj (pv_no (by decide) _)
          · intro _ a' b' w' hC hk hd Q
            have e0 : a'.eval (.tmp 0) = .slice (some ⟨ba, oa, none⟩) 1 cp := hk.at 0 (by decide +kernel)
            exact wp_same _ (by simp only [execOp, e0]; rfl) hC
          · intro j hj; exact absurd hj (pv_no (by decide) _)
          · intro _ a' b' w' hC hk hd Q
            have e55 : a'.eval (.tmp 55) = .slice (some ⟨ba, oa, none⟩) 1 cp := hd 4 55 (by decide +kernel)
            exact wp_same _ (by clear hd hk hC; simp only [execOp, e55]; go_simp) hC
          · intro j hj; exact absurd hj (pv_no (by decide) _)
          · intro _ a' b' w' hC hk hd Q
            have e56 : a'.eval (.tmp 56) = .pointer (some ⟨ba, oa, none⟩) := hd 5 56 (by decide +kernel)
            exact wp_same _ (by clear hd hk hC; simp only [execOp, e56]; go_simp) hC
          · intro j hj; exact absurd hj (pv_no (by decide) _)
          · intro _ a' b' w' hC hk hd Q
            have e57 : a'.eval (.tmp 57) = .pointer (some ⟨ba, oa + 32, none⟩) := hd 6 57 (by decide +kernel)
            exact wp_loadC 24 _ rfl _ _ e57 (By x.2.1) _ (rangeAt_kept11 hv0 hba (hC.2.1.mono (Nat.le_of_eq HN.out))) Tryd.underlying24 rfl (Tryd.sizeH _) hC
          · intro j hj; exact absurd hj (pv_no (by decide) _)
          · intro _ a' b' w' hC hk hd Q
            have e5 : a'.eval (.tmp 5) = .pointer (some ⟨E, 0, none⟩) := hk.at 5 (by decide +kernel)
            exact wp_same _ (by clear hd hk hC; simp only [execOp, e5]; go_simp) hC
          · intro j hj; exact absurd hj (pv_no (by decide) _)
          · intro h; exact absurd (by decide) h
          · intro j hj
            obtain rfl : j = 0 := pv_at (by decide) rfl hj
            refine ⟨rfl, fun a' w' hC hk hd Q => ?_⟩
            have e59 : a'.eval (.tmp 59) = .pointer (some ⟨E, 1, none⟩) := hd 8 59 (by decide +kernel)
            obtain ⟨hC1, hC2, hC3, hC4⟩ := hC
            refine wp_store_b1 _ _ rfl E 1 35 _ _ true e59 rfl hC1 rfl ?_
            intro w4 hb4 hu4
            exact ⟨rfl, by simpa [PrC] using hb4, hC2.trans (hu4.below (by omega) (by have := hC3.lt; omega)), hC3.but hu4 (by omega), hC4.chg (F := fun j => j = E) (Chg.of_but hu4 rfl) (fun j hj e => by subst e; obtain ⟨_, _, cur, hcur⟩ := hC4.block hj; have h9 := (hC1.inj (show Blk _ _ _ cur.toList from by simpa [Blk] using hcur)).1; exact absurd h9 (by decide))⟩
          · intro _ a' b' w' hC hk hd Q
            have e5 : a'.eval (.tmp 5) = .pointer (some ⟨E, 0, none⟩) := hk.at 5 (by decide +kernel)
            exact wp_same _ (by clear hd hk hC; simp only [execOp, e5]; go_simp) hC
          · intro j hj; exact absurd hj (pv_no (by decide) _)
          · intro h; exact absurd (by decide) h
          · intro j hj
            obtain rfl : j = 1 := pv_at (by decide) rfl hj
            refine ⟨rfl, fun a' w' hC hk hd Q => ?_⟩
            have e54 : a'.eval (.tmp 54) = HV x.1 := hd 3 54 (by decide +kernel)
            have e60 : a'.eval (.tmp 60) = .pointer (some ⟨E, 2, none⟩) := hd 10 60 (by decide +kernel)
            obtain ⟨hC1, hC2, hC3, hC4⟩ := hC
            refine wp_store_mid 24 _ _ rfl E 2 (By x.1.1).toArray e60 e54 (by rw [List.size_toArray, By_len]; exact hC1.there 2 32 (by rw [PrC_len]; decide)) (by simpa using Tryd.sizeH x.1) (all_one (By_one _)) ?_
            have hb4 := hC1.over (By x.1.1) 2 (by rw [By_len, PrC_len]; decide)
            have hu4 := But.setCells E (By x.1.1) 2 w'
            rw [PrC.setKey] at hb4
            exact ⟨rfl, by simpa using hb4, hC2.trans (hu4.below (by omega) (by have := hC3.lt; omega)), hC3.but hu4 (by omega), hC4.chg (F := fun j => j = E) (Chg.of_but hu4 rfl) (fun j hj e => by subst e; obtain ⟨_, _, cur, hcur⟩ := hC4.block hj; have h9 := (hC1.inj (show Blk _ _ _ cur.toList from by simpa [Blk] using hcur)).1; exact absurd h9 (by decide))⟩
        · intro a' w' hsz hdf hk hall hC
          have e51 : a'.eval (.tmp 51) = .slice (some ⟨ba, oa, none⟩) 1 cp := hall 0 _ 51 (by decide) rfl rfl
          have e52 : a'.eval (.tmp 52) = .pointer (some ⟨ba, oa, none⟩) := hall 1 _ 52 (by decide) rfl rfl
          have e53 : a'.eval (.tmp 53) = .pointer (some ⟨ba, oa, none⟩) := hall 2 _ 53 (by decide) rfl rfl
          have e54 : a'.eval (.tmp 54) = HV x.1 := hall 3 _ 54 (by decide) rfl rfl
          have e55 : a'.eval (.tmp 55) = .slice (some ⟨ba, oa, none⟩) 1 cp := hall 4 _ 55 (by decide) rfl rfl
          have e56 : a'.eval (.tmp 56) = .pointer (some ⟨ba, oa, none⟩) := hall 5 _ 56 (by decide) rfl rfl
          have e57 : a'.eval (.tmp 57) = .pointer (some ⟨ba, oa + 32, none⟩) := hall 6 _ 57 (by decide) rfl rfl
          have e58 : a'.eval (.tmp 58) = HV x.2 := hall 7 _ 58 (by decide) rfl rfl
          have e59 : a'.eval (.tmp 59) = .pointer (some ⟨E, 1, none⟩) := hall 8 _ 59 (by decide) rfl rfl
          have e60 : a'.eval (.tmp 60) = .pointer (some ⟨E, 2, none⟩) := hall 10 _ 60 (by decide) rfl rfl
          obtain ⟨z61, e61⟩ : ∃ v, a'.eval (.tmp 61) = v := ⟨_, rfl⟩
          obtain ⟨hC1, hC2, hC3, hC4⟩ := hC
          simp only [List.length_cons, List.length_nil, Nat.zero_add, Nat.reduceAdd, Nat.reduceLeDiff, if_true, decide_true, Nat.le_refl] at hC1
          have e5 : a'.eval (.tmp 5) = .pointer (some ⟨E, 0, none⟩) := hk.all.at 5 (by decide +kernel)
          refine ⟨rfl, ?_⟩
          refine Oper.wp_mono ?_ (wp_same (C := fun x => x = w') (.pointer (some ⟨E, 34, none⟩)) (by simp only [execOp, e5]; go_simp) rfl)
          rintro a2 w2 ⟨rfl, rfl⟩
          refine ⟨_, rfl, rfl, ?_⟩
          refine wp_store_mid 24 (.tmp 61) (.tmp 58) rfl E 34 (By x.2.1).toArray (by rw [eval_put_same (by rw [hsz]; simp)]) (by rw [eval_put_other (by decide)]; exact e58) (by rw [List.size_toArray, By_len]; exact hC1.there 34 32 (by rw [PrC_len]; decide)) (by simpa using Tryd.sizeH x.2) (all_one (By_one _)) ?_
          have hb5 := hC1.over (By x.2.1) 34 (by rw [By_len, PrC_len]; decide)
          have hu4 := But.setCells E (By x.2.1) 34 w2
          rw [PrC.setVal] at hb5
          simp only
          generalize w2.setCells E 34 (By x.2.1) = w5 at hb5 hu4 ⊢
          refine ⟨_, rfl, ?_⟩
          have X5 := hide hb5
          have Z5 := hide (hC3.but hu4 (by omega))
          have L5 : Hid (Below N w w5) := (show _ from hC2.trans (hu4.below (by omega) (by have := hC3.lt; omega)))
          have O5 := hide (hC4.chg (F := fun j => j = E) (Chg.of_but hu4 rfl) (fun j hj e => by subst e; obtain ⟨_, _, cur, hcur⟩ := hC4.block hj; have h9 := (hC1.inj (show Blk _ _ _ cur.toList from by simpa [Blk] using hcur)).1; exact absurd h9 (by decide)))
          clear hb5 hu4 hC1 hC2 hC3 hC4
          have ha := act_puts 63 rfl hsz hdf hk.all [51, 52, 53, 54, 55, 56, 57, 58, 59, 60, 61] (by decide +kernel)
          simp only [puts, List.foldl_cons, List.foldl_nil, e51, e52, e53, e54, e55, e56, e57, e58, e59, e60, e61] at ha
          simp only [Act.put, List.setIfInBounds_toArray, List.set_cons_succ, List.set_cons_zero] at ha
          show Exit.then _ _ Exit.normal { tmps := (a'.tmps.setIfInBounds 61 _), defers := a'.defers } w5
          subst ha
          clear hall hk hsz hdf e5 e51 e52 e53 e54 e55 e56 e57 e58 e59 e60 e61
          have rx := X5.out.range0
          go_wp2_with (first
            | (refine wpList_load_mid rfl 35 _ rfl E 0 rfl (PrC (.slice pa sn sc) (acc, true, x.1, x.2)) _ rx Tryd.underlying35 rfl (Tryd.sizeRp _ _) ?_)
            | (refine wpList_store_blk rfl 35 _ _ rfl (N + 1) (PrC (.slice none 0 0) zp) (PrC (.slice pa sn sc) (acc, true, x.1, x.2)) 35 rfl rfl Z5.out (by rw [PrC_len, PrC_len]) (Tryd.sizeRp _ _) (PrC_one _) ?_; intro w7 hb7 hu7)
            | fail)
          refine bodyPost_ret (results_cell_row rfl _ _ (N + 1) 35 _ (0, 0) _ rfl hb7 Tryd.underlying35 rfl (by simpa using Tryd.sizeRp _ _)) rfl ?_
          have hPP := HPE.out
          rw [hPP]
          refine ⟨pa, sc, by rw [HSN.out], ?_, L5.out.trans (hu7.below (by omega) (by have := Z5.out.lt; omega))⟩
          rw [← HSN.out]
          exact O5.out.chg (F := fun j => j = N + 1) (Chg.of_but hu7 rfl) (fun j hj e => by subst e; obtain ⟨_, _, cur, hcur⟩ := O5.out.block hj; have h9 := (Z5.out.inj (show Blk _ _ _ cur.toList from by simpa [Blk] using hcur)).1; exact absurd h9 (by decide))
      · obtain rfl : n = 0 := by omega
        have hM0 : M = [] := List.eq_nil_of_length_eq_zero HNM.out
        have HPE : Hid (prP L k = zp ∧ acc = []) := (show _ ∧ _ by
          obtain ⟨g1, g2⟩ := HWY.out
          rw [hM0, wayP_nil] at g1 g2
          have hL0 : L = [] := Classical.byContradiction fun hne => by
            obtain ⟨x, _, e⟩ := way_end (k := k) _ L rfl HS0.out hne
            rw [← g2] at e
            cases e
          rw [hL0, wayP_nil] at g1
          exact ⟨by rw [hL0]; rfl, by simpa using g1⟩)
        have hac : acc = [] := HPE.out.2
        subst hac
        replace HPE := hide HPE.out.1
        have hs0 : sn = 0 := HSN.out
        subst hs0
        clear hM0
        have rx := XR.out.range0
        go_wp2_with (first
          | (refine wpList_load_mid rfl 35 _ rfl E 0 rfl (PrC (.slice pa 0 sc) zp) _ rx Tryd.underlying35 rfl (Tryd.sizeRp _ _) ?_)
          | (refine wpList_store_blk rfl 35 _ _ rfl (N + 1) (PrC (.slice none 0 0) zp) (PrC (.slice pa 0 sc) zp) 35 rfl rfl ZR.out (by rw [PrC_len, PrC_len]) (Tryd.sizeRp _ _) (PrC_one _) ?_; intro w7 hb7 hu7)
          | fail)
        refine bodyPost_ret (results_cell_row rfl _ _ (N + 1) 35 _ (0, 0) _ rfl hb7 Tryd.underlying35 rfl (by simpa using Tryd.sizeRp _ _)) rfl ?_
        have hPP := HPE.out
        rw [hPP]
        refine ⟨pa, sc, rfl, ?_, LR.out.trans (hu7.below (by omega) (by have := ZR.out.lt; omega))⟩
        exact OR.out.chg (F := fun j => j = N + 1) (Chg.of_but hu7 rfl) (fun j hj e => by subst e; obtain ⟨_, _, cur, hcur⟩ := OR.out.block hj; have h9 := (ZR.out.inj (show Blk _ _ _ cur.toList from by simpa [Blk] using hcur)).1; exact absurd h9 (by decide))
#print axioms eProve_any
end Go.Proofs.YtooffljimdklfaaDoor

/-
  member.Many: what the call does.
-/
namespace Go.Proofs.YtooffljimdklfaaDoor
open Go.RowKit
/-- Proofs as cells; with each, where its steps lie. -/
def PE : Enc ((Option Addr × Nat) × Pr) := ⟨fun x => PrC (.slice x.1.1 x.2.1.length x.1.2) x.2, 66, fun _ => PrC_len _ _, fun x => PrC_one x.2⟩
theorem run_makeP (w : World) (n : Nat) (hn : n ≤ 1000000) : ∃ cs : List Value, cs.length = n * PE.n ∧ (Instr.makeSlice 42 (.int .i64 (n : Int)) (.int .i64 (n : Int))).run Tryd.prog w = .ok (.slice (some ⟨w.heap.size, 0, none⟩) n n) (w.alloc (.cells cs.toArray 39 (0, 0))) := by
  obtain ⟨i, h1, h2, h3, h4⟩ := info_parts (show (Tryd.prog.info? 39).map (fun i => (i.zero, i.size, i.bytes)) = some (some (.agg (PrC (.slice none 0 0) zp).toArray), PE.n, 96) by kernel_rfl)
  have hrun := run_make (P := Tryd.prog) w 42 39 i _ Tryd.underlying42 h1 h2 .i64 .i64 n n (by omega) (by omega) (by rw [h4]; omega) (by omega)
  refine ⟨(madeCells (Value.agg (PrC (.slice none 0 0) zp).toArray).cells ((n : Int).toNat * i.size)).toList, by rw [Array.length_toList, size_madeCells, Int.toNat_natCast, h3], ?_⟩
  simp only [Int.toNat_natCast] at hrun ⊢
  exact hrun
/-- All proofs' steps lie in new memory. -/
def Own12 (w : World) (N : Nat) (Q : List ((Option Addr × Nat) × Pr)) : Prop := ∀ x ∈ Q, OwnG SE w N 70 (.slice x.1.1 x.2.1.length x.1.2) x.2.1
theorem Own12.kept {w w' : World} {N : Nat} {Q : List ((Option Addr × Nat) × Pr)} (h : Own12 w N Q) (hb : Below w.heap.size w w') : Own12 w' N Q := fun x hx => (h x hx).kept hb
theorem Own12.but {w w' : World} {N G : Nat} {T : TypeId} {cs : List Value} {Q : List ((Option Addr × Nat) × Pr)} (h : Own12 w N Q) (hB : Blk w G T cs) (hT : T ≠ 70) (hu : But G w w') : Own12 w' N Q := fun x hx =>
  (h x hx).chg (F := fun j => j = G) (Chg.of_but hu rfl) (fun j hj e => by
    subst e
    obtain ⟨_, _, cur, hcur⟩ := (h x hx).block hj
    exact hT (hB.inj (show Blk _ _ _ cur.toList from by simpa [Blk] using hcur)).1)
set_option maxHeartbeats 4000000 in
set_option maxRecDepth 100000 in
theorem bMany_any {B0 : Nat} {w : World} {pv lv : Value} {m : List It} {l : List Hs} (hA : MapOk B0 w pv m) (hL : m.length ≤ 1000000) (hs : Srt m) (hl : RdG HE w lv l) (hn : l.length ≤ 1000) (hT : Tabs w) : Calls Tryd.prog 15 #[pv, lv] w fun e w' => ∃ g Q, e = .returned (.slice (some ⟨g, 0, none⟩) l.length l.length) ∧ w.heap.size ≤ g ∧ Q.map (·.2) = l.map (prP m) ∧ Blk w' g 39 (PE.cs Q) ∧ Own12 w' w.heap.size Q ∧ Below w.heap.size w w' := by
  have HR := hide hl
  obtain ⟨a, cp, rfl⟩ := hl.slice
  clear hl
  obtain ⟨n, HNL⟩ : ∃ n, Hid (l.length = n) := ⟨_, rfl⟩
  rw [HNL.out] at HR hn ⊢
  obtain ⟨N, HN⟩ : ∃ N, Hid (w.heap.size = N) := ⟨_, rfl⟩
  rw [HN.out]
  have HLm := hide hL
  have HSm := hide hs
  have CP := hide (partsOf_any hA.1 (hA.2 _ (Below.refl _ _)) hL hs hT)
  rw [HN.out] at CP
  clear hA hL hs hT
  go_enter Tryd.func15, Tryd.ntmps15
  go_wp2_with fail
  refine CP.out.mono ?_
  rintro e w2 ⟨tv, rfl, tp, hb2⟩
  have P2 := hide tp
  have L2 := hide hb2
  have S2 : Hid (N ≤ w2.heap.size) := (show _ ≤ _ by have := hb2.size; rw [HN.out] at this; exact this)
  clear tp hb2 CP
  obtain ⟨cs, hcs, hmk⟩ := run_makeP w2 n (by omega)
  have HCS := hide hcs
  clear hcs
  go_upto_region 3 with fail
  obtain ⟨w3, hw3⟩ : ∃ z, z = w2.alloc (.cells cs.toArray 39 (0, 0)) := ⟨_, rfl⟩
  change Code.wp _ _ _ _ (w2.alloc (.cells cs.toArray 39 (0, 0)))
  obtain ⟨G, HGs⟩ : ∃ G, Hid (w2.heap.size = G) := ⟨_, rfl⟩
  rw [← hw3, HGs.out]
  obtain ⟨b3, lb3, sz3⟩ := box1 HGs hw3
  have hNG : N ≤ G := by rw [← HGs.out]; exact S2.out
  have D3 : Below w2.heap.size w2 w3 := by rw [HGs.out]; exact lb3
  have P3 := hide (P2.out.kept D3)
  have B3 := hide b3
  have L3 : Hid (Below N w w3) := (show _ from L2.out.trans (D3.mono S2.out))
  clear hw3 hmk b3 lb3 sz3 D3 P2 L2 S2
  go_wp2_with fail
  go_loopg [16] (n + 1) (fun g z wr => ∃ (i : Nat) (Q : List ((Option Addr × Nat) × Pr)) (rest : List Value), i ≤ n ∧ g + i = n + 1 ∧ z = .int .i64 (i : Int) ∧ Hid (Q.map (·.2) = (l.take i).map (prP m)) ∧ Hid (Blk wr G 39 (PE.cs Q ++ rest)) ∧ Hid (rest.length = (n - i) * 66) ∧ Hid (Own12 wr N Q) ∧ Hid (Top wr tv m) ∧ Hid (Below N w wr))
  case atStart => exact ⟨0, [], cs, by omega, by omega, rfl, (show _ = _ from rfl), (show Blk _ _ _ _ by rw [Enc.cs_nil, List.nil_append]; exact B3.out), (show _ = _ by rw [HCS.out]; rfl), (show Own12 _ _ _ from fun x hx => by cases hx), P3, L3⟩
  case round =>
    clear P3 B3 L3
    obtain ⟨i, Q, rest, hi, hgi, rfl, MQ, BR, HRL, OQ, TR, LR⟩ := hrel
    have hGR : N ≤ wr.heap.size := by have := BR.out.lt; omega
    have HQL : Hid (Q.length = i) := (show _ = _ by
      have := congrArg List.length MQ.out
      rw [List.length_map, List.length_map, List.length_take, HNL.out] at this
      omega)
    by_cases hlt : i < n
    · have hlt2 : i < l.length := by rw [HNL.out]; exact hlt
      obtain ⟨ba, oa, hsl, hba, hxa⟩ := (HR.out.kept (LR.out.mono (Nat.le_of_eq HN.out))).nth (by omega)
      have hx : wr.rangeAt ba (oa + i * 32) (By l[i].1) := hxa i hlt2
      have HTK : Hid (l.take (i + 1) = l.take i ++ [l[i]]) := (show _ = _ from List.take_succ_eq_append_getElem hlt2)
      generalize l[i] = k at hx HTK
      subst hsl
      clear hxa hlt2
      have q2 : (i : Int) < (n : Int) := by omega
      have q3 : ¬ n ≤ i := by omega
      obtain ⟨M, HM⟩ : ∃ M, Hid (wr.heap.size = M) := ⟨_, rfl⟩
      have hGM : G < M := by rw [← HM.out]; exact BR.out.lt
      obtain ⟨pr, HPR⟩ : ∃ z, Hid (prP m k = z) := ⟨_, rfl⟩
      obtain ⟨pl, HPL⟩ : ∃ z, Hid (pr.1.length = z) := ⟨_, rfl⟩
      go_wp2_with (first
        | (refine wpList_load_mid rfl 24 _ rfl ba (oa + i * 32) rfl (By k.1) _ hx Tryd.underlying24 rfl (Tryd.sizeH _) ?_)
        | (rw [HM.out]; refine wpList_store_blk rfl 24 _ _ rfl M (By zh.1) (By k.1) 24 rfl rfl (by rw [← HM.out]; exact Blk.new wr 24 (By zh.1)) (by rw [By_len, By_len]) (Tryd.sizeH _) (By_one _) ?_; intro w4 hb4 hu4; have D4 : Below wr.heap.size wr w4 := (((Below.refl _ _).alloc (Nat.le_refl _) _).trans (hu4.below (Nat.le_of_eq HM.out) (by simp))); have L4 : Hid (Below N w w4) := (show _ from LR.out.trans (D4.mono hGR)); have B4 := hide (BR.out.kept D4); have O4 := hide (OQ.out.kept D4); have T4 := hide (TR.out.kept D4); have rk := hb4.range0; have hG4 : N ≤ w4.heap.size := (by have := hb4.lt; omega); clear hu4 D4 hb4)
        | (refine wpList_load_mid rfl 24 _ rfl M 0 rfl (By k.1) _ rk Tryd.underlying24 rfl (Tryd.sizeH _) ?_)
        | (go_at_call 29; refine (prove_any k T4.out HSm.out HLm.out).mono ?_; rintro e w5 ⟨a5, c5, rfl, o5, hb5⟩; rw [HPR.out, HPL.out] at o5 ⊢; have O5 := hide (o5.mono hG4); have B5 := hide (B4.out.kept hb5); have OQ5 := hide (O4.out.kept hb5); have T5 := hide (T4.out.kept hb5); have L5 : Hid (Below N w w5) := (show _ from L4.out.trans (hb5.mono hG4)); clear o5 hb5)
        | (refine wpList_store_mid rfl 39 _ _ rfl G (i * 66) (PrC (.slice a5 pl c5) pr).toArray rfl rfl (by rw [List.size_toArray, PrC_len]; exact B5.out.there (i * 66) 66 (by rw [List.length_append, Enc.cs_length, HQL.out, HRL.out]; show i * 66 + 66 ≤ i * 66 + (n - i) * 66; omega)) (by simpa using Tryd.sizePr _ _) (all_one (PrC_one _)) ?_)
        | fail)
      have hlr : i * 66 + (PrC (.slice a5 pl c5) pr).length ≤ (PE.cs Q ++ rest).length := by
        rw [PrC_len, List.length_append, Enc.cs_length, HQL.out, HRL.out]
        show i * 66 + 66 ≤ i * 66 + (n - i) * 66
        omega
      have hb6 := B5.out.over (PrC (.slice a5 pl c5) pr) (i * 66) hlr
      have hu6 := But.setCells G (PrC (.slice a5 pl c5) pr) (i * 66) w5
      have hov : over (PE.cs Q ++ rest) (i * 66) (PrC (.slice a5 pl c5) pr) = PE.cs (Q ++ [((a5, c5), pr)]) ++ rest.drop 66 := by
        have e1 : rest = rest.take 66 ++ rest.drop 66 := (List.take_append_drop _ _).symm
        have e2 : (rest.take 66).length = (PrC (.slice a5 pl c5) pr).length := by
          rw [PrC_len, List.length_take, HRL.out]
          omega
        have e3 : PE.cs (Q ++ [((a5, c5), pr)]) = PE.cs Q ++ PrC (.slice a5 pl c5) pr := by
          rw [Enc.cs_append, Enc.cs_one1]
          show _ ++ PrC (.slice a5 pr.1.length c5) pr = _
          rw [HPL.out]
        rw [e3, List.append_assoc]
        conv => lhs; rw [e1]
        exact over_mid (by rw [Enc.cs_length, HQL.out]; rfl) e2
      rw [hov] at hb6
      generalize w5.setCells G (i * 66) (PrC (.slice a5 pl c5) pr) = w6 at hb6 hu6 ⊢
      have B6 := hide hb6
      have OQ6 : Hid (Own12 w6 N (Q ++ [((a5, c5), pr)])) := (show Own12 _ _ _ from fun x hx => by
        rcases List.mem_append.1 hx with hx | hx
        · exact OQ5.out.but B5.out (by decide) hu6 x hx
        · rw [List.mem_singleton] at hx
          subst hx
          show OwnG SE w6 N 70 (.slice a5 pr.1.length c5) pr.1
          rw [HPL.out]
          exact O5.out.chg (F := fun j => j = G) (Chg.of_but hu6 rfl) (fun j hj e => by
            subst e
            obtain ⟨_, _, cur, hcur⟩ := O5.out.block hj
            have h9 := (B5.out.inj (show Blk _ _ _ cur.toList from by simpa [Blk] using hcur)).1
            exact absurd h9 (by decide)))
      have T6 : Hid (Top w6 tv m) := (show Top _ _ _ by
        rcases T5.out with h | ⟨b, e, h⟩
        · exact .inl h
        · exact .inr ⟨b, e, h.but B5.out (by decide) hu6⟩)
      have L6 : Hid (Below N w w6) := (show _ from L5.out.trans (hu6.below hNG (by have := B5.out.lt; omega)))
      have MQ6 : Hid ((Q ++ [((a5, c5), pr)]).map (·.2) = (l.take (i + 1)).map (prP m)) := (show _ = _ by rw [HTK.out, List.map_append, List.map_append, MQ.out, List.map_singleton, List.map_singleton, HPR.out])
      have HRL6 : Hid ((rest.drop 66).length = (n - (i + 1)) * 66) := (show _ = _ by rw [List.length_drop, HRL.out]; omega)
      clear hb6 hu6 hov hlr
      go_roundg (n + 1 - (i + 1))
      case measure => omega
      case rel => exact ⟨i + 1, _, _, by omega, by omega, by go_num, MQ6, B6, HRL6, OQ6, T6, L6⟩
    · obtain rfl : i = n := by omega
      have q2 : ¬ (i : Int) < (i : Int) := by omega
      have hre : rest = [] := List.eq_nil_of_length_eq_zero (by rw [HRL.out]; omega)
      have BE : Hid (Blk wr G 39 (PE.cs Q)) := (show Blk _ _ _ _ by have := BR.out; rw [hre, List.append_nil] at this; exact this)
      have MQE : Hid (Q.map (·.2) = l.map (prP m)) := (show _ = _ by rw [MQ.out, List.take_of_length_le (by rw [HNL.out]; exact Nat.le_refl _)])
      clear hre
      go_wp2_with fail
      go_ret
      exact ⟨G, rfl, hNG, Q, MQE.out, BE.out, OQ.out, LR.out⟩
#print axioms bMany_any
end Go.Proofs.YtooffljimdklfaaDoor
