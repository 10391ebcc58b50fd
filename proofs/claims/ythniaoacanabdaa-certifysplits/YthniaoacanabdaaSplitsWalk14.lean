/-
  The law CertifySplits: what the call does.
-/
import Derived.Test.YthniaoacanabdaaCtU
namespace Go.Proofs.Ythniaoacanabdaa
open Go.RowKit
theorem may_split (r : Rc) (L : List Rc) (k : Nat) : mayP r L = (mayP r (L.take k) || mayP r (L.drop k)) := by
  rw [may_any, may_any, may_any]
  have h : ∀ f : Rc → Bool, L.any f = ((L.take k).any f || (L.drop k).any f) := fun f => by
    rw [← List.any_append, List.take_append_drop]
  rw [h (hitP (spW r)), h (hitP (spR r))]
  generalize (L.take k).any (hitP (spW r)) = a
  generalize (L.drop k).any (hitP (spW r)) = b
  generalize (L.take k).any (hitP (spR r)) = c
  generalize (L.drop k).any (hitP (spR r)) = d
  generalize r.st = s
  cases a <;> cases b <;> cases c <;> cases d <;> cases s <;> rfl
theorem may_nil (r : Rc) : mayP r [] = false := by rw [may_any]; simp
set_option maxHeartbeats 4000000 in
set_option maxRecDepth 100000 in
theorem certifySplits_any {w : World} {r : Rc} {vl : Value} {L : List Rc} (hr : ROk w r) (hbr : RB 140737488351232 r) (hl : RdR9 w vl L) (hll : L.length * 72 ≤ 140737488351232) (hbl : ∀ x ∈ L, RB 140737488351232 x) (u : Nat) (hu : u ≤ 18446744073709551615) : Calls Try.prog 5 #[.agg (RC r).toArray, vl, .int .u64 (u : Int)] w fun e w' => e = .returned (.bool true) ∧ Below w.heap.size w w' := by
  obtain ⟨la, lc, rfl⟩ := hl.rd.slice
  obtain ⟨ln, HLN⟩ : ∃ n, Hid (L.length = n) := ⟨_, rfl⟩
  rw [HLN.out] at hl ⊢
  obtain ⟨N, HN⟩ : ∃ N, Hid (w.heap.size = N) := ⟨_, rfl⟩
  obtain ⟨w1, hw1⟩ : ∃ y, y = w.alloc (.cells (RC r).toArray 25 (0, 0)) := ⟨_, rfl⟩
  obtain ⟨b1, l1⟩ := newB HN hw1
  have HW := hide hw1
  have RO := hide (hr.kept l1.out)
  have RL := hide (hl.kept l1.out)
  obtain ⟨N1, HN1⟩ : ∃ N, Hid (w1.heap.size = N) := ⟨_, rfl⟩
  obtain ⟨w2, hw2⟩ : ∃ y, y = w1.alloc (.cells (RC r).toArray 25 (0, 0)) := ⟨_, rfl⟩
  obtain ⟨b2, l2⟩ := newB HN1 hw2
  have HW2 := hide hw2
  have O2 : Hid (OwnG RE w2 N1 25 (.slice (some ⟨N1, 0, none⟩) 1 1) [r]) := (show OwnG _ _ _ _ _ _ by rw [hw2, ← HN1.out]; exact ownE_one (E := RE) w1 _ 25 r (Nat.le_refl _))
  have RL2 := hide (RL.out.kept l2.out)
  have HL9 : Hid (([r].length + L.length) * 72 ≤ 140737488355328) := (show _ ≤ _ by rw [List.length_singleton]; omega)
  have HLM : Hid ([r].length + L.length ≤ maxLen) := (show _ ≤ _ by rw [List.length_singleton]; unfold maxLen; omega)
  have HBR := hide hbr
  have HBL := hide hbl
  have hN12 : Hid (N1 ≤ w2.heap.size) := (show _ ≤ _ from Nat.le_of_lt b2.out.lt)
  clear hr hl hw1 hw2 hbr hbl hll
  go_enter Try.func5, Try.ntmps5
  go_upto_region 1 with fail
  change Code.wp _ _ _ _ (w.alloc (.cells (RC r).toArray 25 (0, 0)))
  rw [← HW.out, HN.out]
  go_wp2_with (first
    | (refine wpList_load_mid rfl 25 _ rfl N 0 rfl (RC r) _ b1.out.range0 Try.underlying25 rfl Try.size25 ?_)
    | (refine wpList_build1E (E := RE) build_rec1 rfl _ rfl r rfl ?_; show wpList _ _ _ _ _ (w1.alloc (.cells (RC r).toArray 25 (0, 0))); rw [← HW2.out, HN1.out])
    | (refine wpList_append_B (E := RE) Try.underlying34 infoR rfl (.tmp 11) (.tmp 12) rfl N1 (.slice (some ⟨N1, 0, none⟩) 1 1) [r] rfl O2.out _ L rfl RL2.out.rd HL9.out HLM.out hN12.out ?_; intro v9 w9 o9 g9)
    | fail)
  obtain ⟨p9, c9, hv9⟩ := o9.form
  obtain ⟨n9, hn9⟩ : ∃ z, ([r] ++ L).length = z := ⟨_, rfl⟩
  rw [hn9] at hv9
  subst hv9
  have L9 : Hid (Below w1.heap.size w1 w9) := (show Below _ _ _ from l2.out.trans ((Chg.of_grown (F := fun k => k = N1) g9 (fun k e _ => by simpa [Value.ownBlock] using e.symm)).below l2.out.size (fun k hk e => by have := HN1.out; omega)))
  have CG := hide (lightL_any (rdR_cons RO.out o9 L9.out RL.out.rs) (fun x hx => by
    rcases List.mem_cons.1 hx with rfl | hx
    · exact HBR.out
    · exact HBL.out x hx))
  clear o9 g9 hn9
  refine CG.out.mono ?_
  rintro e w10 ⟨hpost, hb10⟩
  have L10 : Hid (Below w1.heap.size w1 w10) := (show Below _ _ _ from L9.out.trans (hb10.mono L9.out.size))
  clear hb10 CG
  rcases hpost with rfl | ⟨rfl, hl40, hlt⟩
  · have CV := hide (lives_any w10)
    go_wp2_with fail
    refine CV.out.mono ?_
    rintro e w11 ⟨rfl, hb11⟩
    have L11 : Hid (Below w.heap.size w w11) := (show Below _ _ _ from l1.out.trans ((L10.out.trans (hb11.mono L10.out.size)).mono l1.out.size))
    clear hb11 CV
    go_wp2_with fail
    go_ret
    exact ⟨rfl, L11.out⟩
  · have LT := hide (hlt r (List.mem_cons_self ..))
    have KO := hide (kok_of HBR.out (by omega) LT.out)
    have LTL : Hid (∀ x ∈ L, LtR x) := (show _ from fun x hx => hlt x (List.mem_cons_of_mem _ hx))
    have hl40' : ln ≤ 40 := by rw [← HLN.out]; simp at hl40; omega
    have RO10 := hide (RO.out.kept L10.out)
    have RL10 := hide (RL.out.kept L10.out)
    have B10 := hide (b1.out.kept L10.out)
    have L0 : Hid (Below w.heap.size w w10) := (show Below _ _ _ from l1.out.trans (L10.out.mono l1.out.size))
    clear hlt hl40 RL2 O2 HL9 HLM b2
    obtain ⟨k, HK⟩ : ∃ k, Hid (u % (ln + 1) = k) := ⟨_, rfl⟩
    have hkl : k ≤ ln := by have := Nat.mod_lt u (show 0 < ln + 1 by omega); have := HK.out; omega
    have hik : (u : Int) % ((ln : Int) + 1) = (k : Int) := by rw [← HK.out]; simp
    have hwk : wrap64 (k : Int) = (k : Int) := by unfold wrap64; omega
    have hcp := RL10.out.rd.cap
    obtain ⟨hs1, hs1r⟩ := slice_G_to (E := RE) (P := Try.prog) Try.underlying34 Try.size25 la ln lc k hkl hcp
    obtain ⟨a2, hs2, -, hs2r⟩ := slice_G (E := RE) (P := Try.prog) Try.underlying34 Try.size25 la ln lc k hkl hcp
    have RT := hide (show RdR9 w10 _ (L.take k) from ⟨hs1r _ _ RL10.out.rd, fun x hx => RL10.out.rs x (List.mem_of_mem_take hx)⟩)
    have RD := hide (show RdR9 w10 _ (L.drop k) from ⟨hs2r _ _ RL10.out.rd, fun x hx => RL10.out.rs x (List.mem_of_mem_drop hx)⟩)
    obtain ⟨k1, HK1⟩ : ∃ z, Hid (ln - k = z) := ⟨_, rfl⟩
    obtain ⟨k2, HK2⟩ : ∃ z, Hid (lc - k = z) := ⟨_, rfl⟩
    rw [HK1.out, HK2.out] at hs2 RD
    obtain ⟨A, HA⟩ : ∃ z, Hid (mayP r (L.take k) = z) := ⟨_, rfl⟩
    obtain ⟨B, HB⟩ : ∃ z, Hid (mayP r (L.drop k) = z) := ⟨_, rfl⟩
    have HAB : Hid (mayP r L = (A || B)) := (show _ = _ by rw [may_split r L k, HA.out, HB.out])
    obtain ⟨ma, HMA⟩ : ∃ z : Int, Hid ((if A = true then 10 else 0) = z) := ⟨_, rfl⟩
    obtain ⟨mb, HMB⟩ : ∃ z : Int, Hid ((if B = true then 10 else 0) = z) := ⟨_, rfl⟩
    have HS1 := hide hs1
    have HS2 := hide hs2
    clear hs1 hs2 hs1r hs2r
    go_upto_region 3 with fail
    go_upto_region 4 with fail
    refine wp_region_inv Try.mixed (KS (fun i_ => match i_ with | 0 | 5 => .val (.agg (RC r).toArray) | 1 | 6 => .val (.slice la ln lc) | 2 | 7 => .val (.int .i64 (k : Int)) | 3 => .val (.slice la k lc) | 4 | 10 => .val (.int .i64 ma) | 8 => .val (.slice a2 k1 k2) | 9 | 11 => .val (.int .i64 mb) | _ => .free)) 53 rfl (by decide +kernel) (KS_mono _) ?_ ?_
    · refine AllFrom.cons (fun a' w' hg hk hd => ?_) (AllFrom.cons (fun a' w' hg hk hd => ?_) (AllFrom.cons (fun a' w' hg hk hd => ?_) (AllFrom.cons (fun a' w' hg hk hd => ?_) (AllFrom.cons (fun a' w' hg hk hd => ?_) (AllFrom.cons (fun a' w' hg hk hd => ?_) (AllFrom.cons (fun a' w' hg hk hd => ?_) (AllFrom.cons (fun a' w' hg hk hd => ?_) (AllFrom.cons (fun a' w' hg hk hd => ?_) (AllFrom.cons (fun a' w' hg hk hd => ?_) (AllFrom.cons (fun a' w' hg hk hd => ?_) (AllFrom.cons (fun a' w' hg hk hd => ?_) AllFrom.nil)))))))))))
      · skip
        intro Q
        have e3 : a'.eval (.tmp 3) = .pointer (some ⟨N, 0, none⟩) := hk.at 3 (by decide +kernel)
        exact wp_load_row 25 _ rfl _ _ e3 (RC r) _ ((B10.out.kept hg).range0) Try.underlying25 rfl (Try.size25) (KS_mkv rfl rfl)
      · skip
        intro Q
        have e1 : a'.eval (.tmp 1) = .slice la ln lc := hk.at 1 (by decide +kernel)
        exact wp_value _ (by simp only [execOp, e1]; rfl) (KS_mkv rfl rfl)
      · skip
        intro Q
        have e7 : a'.eval (.tmp 7) = .int .i64 (k : Int) := hk.at 7 (by decide +kernel)
        exact wp_value _ (by simp only [execOp, e7]; rfl) (KS_mkv rfl rfl)
      · skip
        intro Q
        have e25 : a'.eval (.tmp 25) = .slice la ln lc := KS_val (hd.val 1 25 (by decide +kernel)) rfl
        have e26 : a'.eval (.tmp 26) = .int .i64 (k : Int) := KS_val (hd.val 2 26 (by decide +kernel)) rfl
        exact wp_value _ (by simp only [execOp, e25, e26, HS1.out, Sem.run_bind, Result.andThen_ok, Option.map_none, Option.map_some]; rfl) (KS_mkv rfl rfl)
      · skip
        intro Q
        have e24 : a'.eval (.tmp 24) = .agg (RC r).toArray := KS_val (hd.val 0 24 (by decide +kernel)) rfl
        have e27 : a'.eval (.tmp 27) = .slice la k lc := KS_val (hd.val 3 27 (by decide +kernel)) rfl
        refine wp_call 22 _ (run_enter 22 _ _ rfl (by kernel_rfl)) ?_
        simp only [List.map_toArray, List.map_nil, List.map_cons, e24, e27]
        refine (mayV_any (RO10.out.kept hg) KO.out (RT.out.kept hg)).mono ?_
        rintro e w5 ⟨rfl, hb5⟩
        exact ⟨_, rfl, KS_mkv rfl (by rw [HA.out, HMA.out]), hb5⟩
      · skip
        intro Q
        have e3 : a'.eval (.tmp 3) = .pointer (some ⟨N, 0, none⟩) := hk.at 3 (by decide +kernel)
        exact wp_load_row 25 _ rfl _ _ e3 (RC r) _ ((B10.out.kept hg).range0) Try.underlying25 rfl (Try.size25) (KS_mkv rfl rfl)
      · skip
        intro Q
        have e1 : a'.eval (.tmp 1) = .slice la ln lc := hk.at 1 (by decide +kernel)
        exact wp_value _ (by simp only [execOp, e1]; rfl) (KS_mkv rfl rfl)
      · skip
        intro Q
        have e7 : a'.eval (.tmp 7) = .int .i64 (k : Int) := hk.at 7 (by decide +kernel)
        exact wp_value _ (by simp only [execOp, e7]; rfl) (KS_mkv rfl rfl)
      · skip
        intro Q
        have e30 : a'.eval (.tmp 30) = .slice la ln lc := KS_val (hd.val 6 30 (by decide +kernel)) rfl
        have e31 : a'.eval (.tmp 31) = .int .i64 (k : Int) := KS_val (hd.val 7 31 (by decide +kernel)) rfl
        exact wp_value _ (by simp only [execOp, e30, e31, HS2.out, Sem.run_bind, Result.andThen_ok, Option.map_none, Option.map_some]; rfl) (KS_mkv rfl rfl)
      · skip
        intro Q
        have e29 : a'.eval (.tmp 29) = .agg (RC r).toArray := KS_val (hd.val 5 29 (by decide +kernel)) rfl
        have e32 : a'.eval (.tmp 32) = .slice a2 k1 k2 := KS_val (hd.val 8 32 (by decide +kernel)) rfl
        refine wp_call 22 _ (run_enter 22 _ _ rfl (by kernel_rfl)) ?_
        simp only [List.map_toArray, List.map_nil, List.map_cons, e29, e32]
        refine (mayV_any (RO10.out.kept hg) KO.out (RD.out.kept hg)).mono ?_
        rintro e w5 ⟨rfl, hb5⟩
        exact ⟨_, rfl, KS_mkv rfl (by rw [HB.out, HMB.out]), hb5⟩
      · skip
        intro Q
        have e28 : a'.eval (.tmp 28) = .int .i64 ma := KS_val (hd.val 4 28 (by decide +kernel)) rfl
        exact wp_value _ (by simp only [execOp, e28]; rfl) (KS_mkv rfl rfl)
      · skip
        intro Q
        have e33 : a'.eval (.tmp 33) = .int .i64 mb := KS_val (hd.val 9 33 (by decide +kernel)) rfl
        exact wp_value _ (by simp only [execOp, e33]; rfl) (KS_mkv rfl rfl)
    · intro a' w11 hsz hdf hk hall hg
      have L11 : Hid (Below w.heap.size w w11) := (show _ from L0.out.trans (hg.mono L0.out.size))
      have B11 := hide (B10.out.kept hg)
      have CM := hide (mayV_any (RO10.out.kept hg) KO.out (RL10.out.kept hg))
      rw [HAB.out] at CM
      have CN := hide (fun W (hW : Below w11.heap.size w11 W) => mayV_any ((RO10.out.kept hg).kept hW) KO.out (RdR9.nil W))
      rw [may_nil] at CN
      have e24 : a'.eval (.tmp 24) = .agg (RC r).toArray := KS_val (hall 0 _ 24 rfl rfl) rfl
      have e25 : a'.eval (.tmp 25) = .slice la ln lc := KS_val (hall 1 _ 25 rfl rfl) rfl
      have e26 : a'.eval (.tmp 26) = .int .i64 (k : Int) := KS_val (hall 2 _ 26 rfl rfl) rfl
      have e27 : a'.eval (.tmp 27) = .slice la k lc := KS_val (hall 3 _ 27 rfl rfl) rfl
      have e28 : a'.eval (.tmp 28) = .int .i64 ma := KS_val (hall 4 _ 28 rfl rfl) rfl
      have e29 : a'.eval (.tmp 29) = .agg (RC r).toArray := KS_val (hall 5 _ 29 rfl rfl) rfl
      have e30 : a'.eval (.tmp 30) = .slice la ln lc := KS_val (hall 6 _ 30 rfl rfl) rfl
      have e31 : a'.eval (.tmp 31) = .int .i64 (k : Int) := KS_val (hall 7 _ 31 rfl rfl) rfl
      have e32 : a'.eval (.tmp 32) = .slice a2 k1 k2 := KS_val (hall 8 _ 32 rfl rfl) rfl
      have e33 : a'.eval (.tmp 33) = .int .i64 mb := KS_val (hall 9 _ 33 rfl rfl) rfl
      have e8 : a'.eval (.tmp 8) = .int .i64 ma := KS_val (hall 10 _ 8 rfl rfl) rfl
      have e9 : a'.eval (.tmp 9) = .int .i64 mb := KS_val (hall 11 _ 9 rfl rfl) rfl
      have ha := act_puts 53 rfl hsz hdf hk [24, 25, 26, 27, 28, 29, 30, 31, 32, 33, 8, 9] (by decide +kernel)
      simp only [puts, List.foldl_cons, List.foldl_nil, e24, e25, e26, e27, e28, e29, e30, e31, e32, e33, e8, e9] at ha
      simp only [Act.put, List.setIfInBounds_toArray, List.set_cons_succ, List.set_cons_zero] at ha
      clear hall hk hsz hdf e24 e25 e26 e27 e28 e29 e30 e31 e32 e33 e8 e9
      subst ha
      have hma := HMA.out
      have hmb := HMB.out
      rcases A with _ | _ <;> rcases B with _ | _
      all_goals
        simp only [Bool.or_true, Bool.or_false, if_true, Bool.false_eq_true, if_false] at hma hmb CM CN
        subst hma hmb
        go_wp2_with (first
          | (refine wpList_load_mid rfl 25 _ rfl N 0 rfl (RC r) _ B11.out.range0 Try.underlying25 rfl Try.size25 ?_)
          | (with_reducible (show Calls _ _ #[_, .slice la ln lc] _ _); refine CM.out.mono ?_; rintro e w12 ⟨rfl, hb12⟩; have L12 := hide hb12; have B12 := hide (B11.out.kept hb12); clear hb12)
          | (refine wpList_load_w9 rfl 25 _ rfl N 0 rfl (RC r) _ B12.out.range0 Try.underlying25 rfl Try.size25 ?_)
          | (go_at_call 22; refine (CN.out _ L12.out).mono ?_; rintro e w13 ⟨rfl, hb13⟩; have L13 : Hid (Below w11.heap.size w11 w13) := (show Below _ _ _ from L12.out.trans (hb13.mono L12.out.size)); clear hb13)
          | (go_at_call 10; refine (lives_any _).mono ?_; rintro e w14 ⟨rfl, hb14⟩; have L14 : Hid (Below w.heap.size w w14) := (show Below _ _ _ from L11.out.trans ((L13.out.trans (hb14.mono L13.out.size)).mono L11.out.size)); clear hb14)
          | fail)
        go_ret
        exact ⟨rfl, L14.out⟩
#print axioms certifySplits_any
end Go.Proofs.Ythniaoacanabdaa
