/-
  The reference's sub and Grown: what the calls do.
-/
import Derived.Test.YtfclmjfbcmjfbaaDoorPfX
namespace Go.Proofs.YtfclmjfbcmjfbaaDoor
open Go.RowKit
/-- What the reference's sub is said to do, of leaves that a tree of that height has. -/
def XSubAt (f : Nat) : Prop := ∀ (L : List Hs) (lv : Value) (m : Nat) (wh : Bool) (w : World), 1 ≤ m → m ≤ L.length → L.length ≤ 2 ^ f → L.length ≤ 60 → RdG HE w lv L →
  Calls Tryd.prog 29 #[.int .i64 (m : Int), lv, .bool wh] w fun e w' => (∃ a n c, e = .returned (.slice a n c) ∧ RdG HE w' (.slice a n c) (subR f m L wh)) ∧ Below w.heap.size w w'
set_option maxHeartbeats 8000000 in
set_option maxRecDepth 100000 in
theorem xsub_step (f : Nat) (hf40 : f ≤ 40) (ih : ∀ d, f = d + 1 → XSubAt d) : XSubAt f := by
  intro L lv m wh w hm1 hmn hlf hl60 hL
  have IH := hide ih
  have RL := hide hL
  obtain ⟨p, cp, rfl⟩ := hL.slice
  have hcp := hL.cap
  obtain ⟨n, HN⟩ : ∃ n, Hid (L.length = n) := ⟨_, rfl⟩
  rw [HN.out] at RL hcp hlf hl60 hmn ⊢
  clear hL ih
  by_cases h1 : m = n
  · subst h1
    have HPR : Hid (subR f m L wh = if wh = true then [] else [root nd em L]) := (show _ = _ by
      cases f with
      | zero => rfl
      | succ f => rw [subR, if_pos HN.out.symm])
    cases wh with
    | true =>
      go_enter Tryd.func29, Tryd.ntmps29
      go_wp2_with fail
      go_ret
      exact ⟨⟨none, 0, 0, rfl, by rw [HPR.out]; exact RdG_nil _⟩, Below.refl _ _⟩
    | false =>
      have CR := nroot_any L _ w RL.out
      have HCR := hide CR
      clear CR
      go_enter Tryd.func29, Tryd.ntmps29
      go_wp2_with fail
      refine HCR.out.mono ?_
      rintro e w2 ⟨rfl, hb2⟩
      obtain ⟨x, HX⟩ : ∃ x, Hid (root nd em L = x) := ⟨_, rfl⟩
      rw [HX.out] at HPR ⊢
      obtain ⟨w4, hr4, hg4, hrd4⟩ := hash_new w2 x
      go_wp2_with (first
        | (refine wpList_bslice rfl 22 1 _ rfl (.slice (some ⟨w2.heap.size, 0, none⟩) 1 1) w4 (by simp [execOp, Act.eval, hr4]) ?_)
        | fail)
      go_ret
      exact ⟨⟨_, _, _, rfl, by rw [HPR.out]; exact hrd4⟩, hb2.trans (Below.mono hg4 hb2.size)⟩
  have h2 : 2 ≤ n := by omega
  have q3 : ((m : Int) == (n : Int)) = false := by simp; omega
  obtain ⟨d, hfd⟩ := pow_two_pos h2 hlf
  have hlf2 := hlf
  rw [hfd] at hlf2
  have ks := spl_le h2 hlf2
  have kl := spl_lt h2
  have kp := spl_pos h2
  have kg := spl_ge h2
  have HFD := hide hfd
  have HDB : Hid (d ≤ 40) := (show d ≤ 40 by omega)
  have CS := nsplit_any (n : Int) (by omega) w
  rw [Int.toNat_natCast] at CS
  obtain ⟨k, HK⟩ : ∃ k, Hid (spl n = k) := ⟨_, rfl⟩
  rw [HK.out] at CS ks kl kp kg
  have HCS := hide CS
  obtain ⟨hs1, hs1r⟩ := slice_G_to (E := HE) (P := Tryd.prog) Tryd.underlying22 Tryd.size30 p n cp k (by omega) hcp
  obtain ⟨a2, hs2, -, hs2r⟩ := slice_G (E := HE) (P := Tryd.prog) Tryd.underlying22 Tryd.size30 p n cp k (by omega) hcp
  have RT := hide (hs1r w L RL.out)
  have RD := hide (hs2r w L RL.out)
  have HTL1 : Hid ((L.take k).length = k) := (show _ = _ by rw [List.length_take, HN.out]; omega)
  have HTL2 : Hid ((L.drop k).length = n - k) := (show _ = _ by rw [List.length_drop, HN.out])
  have HKP1 : Hid (k ≤ 2 ^ d) := ks
  have HKP2 : Hid (n - k ≤ 2 ^ d) := (show n - k ≤ 2 ^ d by omega)
  clear hlf hlf2 hs1r hs2r CS ks hfd
  go_enter Tryd.func29, Tryd.ntmps29
  go_wp2_with fail
  refine HCS.out.mono ?_
  rintro e w1 ⟨rfl, hw1⟩
  subst w1
  by_cases hik : m ≤ k
  · have q4 : (m : Int) ≤ (k : Int) := by omega
    have RO := RT
    have RS := RD
    have HTL := HTL1
    have HKP := HKP1
    have HPR : Hid (subR f m L wh = subR d m (L.take k) wh ++ [root nd em (L.drop k)]) := (show _ = _ by
      rw [HFD.out, subR, HN.out, HK.out, if_neg h1, if_pos hik])
    obtain ⟨P, HP⟩ : ∃ P, Hid (subR d m (L.take k) wh = P) := ⟨_, rfl⟩
    have HPn : Hid (P.length ≤ 1000) := (show P.length ≤ 1000 by
      rw [← HP.out]
      exact Nat.le_trans (subR_len d _ _ _) (by have := HDB.out; omega))
    obtain ⟨x, HX⟩ : ∃ x, Hid (root nd em (L.drop k) = x) := ⟨_, rfl⟩
    rw [HP.out, HX.out] at HPR
    have LM : Hid (Below w.heap.size w w) := Below.refl _ _
    obtain ⟨M, HMw⟩ : ∃ M, Hid (w.heap.size = M) := ⟨_, rfl⟩
    go_upto_region 7 with fail
    refine wp_region_fresh2 Tryd.mixed (KS (fun i_ => match i_ with | 0 => .of (fun w v_ => ∃ g, v_ = .slice (some ⟨g, 0, none⟩) 0 0 ∧ OwnG HE w M 30 v_ ([])) (fun _ _ _ hg h => by obtain ⟨g, h1, h2⟩ := h; exact ⟨g, h1, OwnG.kept h2 hg⟩) | 1 => .val (.int .i64 (m : Int)) | 2 | 8 => .val (.slice p n cp) | 3 | 9 => .val (.int .i64 (k : Int)) | 4 => .val (.slice p k cp) | 5 => .val (.bool wh) | 6 => .of (fun w v_ => RdG HE w v_ (P)) (fun _ _ _ hg h => RdG.kept h hg) | 7 => .of (fun w v_ => OwnG HE w M 30 v_ (P)) (fun _ _ _ hg h => OwnG.kept h hg) | 10 => .val (.slice a2 (n - k) (cp - k)) | 11 => .val (HV x) | 12 => .of (fun w v_ => RdG HE w v_ ([x])) (fun _ _ _ hg h => RdG.kept h hg) | 13 | 14 => .of (fun w v_ => RdG HE w v_ (P ++ [x])) (fun _ _ _ hg h => RdG.kept h hg) | _ => .free)) (fun i_ => i_ == 0 || i_ == 6 || i_ == 7 || i_ == 12) 13 51 rfl (by decide +kernel) (KS_mono _) (fun i_ h1 h2 h3 w1 w2 x_ _ h_ => (show Kn.isVal ((fun i_ => match i_ with | 0 => .of (fun w v_ => ∃ g, v_ = .slice (some ⟨g, 0, none⟩) 0 0 ∧ OwnG HE w M 30 v_ ([])) (fun _ _ _ hg h => by obtain ⟨g, h1, h2⟩ := h; exact ⟨g, h1, OwnG.kept h2 hg⟩) | 1 => .val (.int .i64 (m : Int)) | 2 | 8 => .val (.slice p n cp) | 3 | 9 => .val (.int .i64 (k : Int)) | 4 => .val (.slice p k cp) | 5 => .val (.bool wh) | 6 => .of (fun w v_ => RdG HE w v_ (P)) (fun _ _ _ hg h => RdG.kept h hg) | 7 => .of (fun w v_ => OwnG HE w M 30 v_ (P)) (fun _ _ _ hg h => OwnG.kept h hg) | 10 => .val (.slice a2 (n - k) (cp - k)) | 11 => .val (HV x) | 12 => .of (fun w v_ => RdG HE w v_ ([x])) (fun _ _ _ hg h => RdG.kept h hg) | 13 | 14 => .of (fun w v_ => RdG HE w v_ (P ++ [x])) (fun _ _ _ hg h => RdG.kept h hg) | _ => .free) i_) by dsimp only; split <;> first | exact (fun _ _ _ h => h) | exact absurd rfl h2 | exact absurd h1 (by decide) | exact absurd h3 (by decide +kernel)) w1 w2 x_ h_) ?_ ?_
    · refine AllFrom.cons (fun a' w' hg hk hd => ?_) (AllFrom.cons (fun a' w' hg hk hd => ?_) (AllFrom.cons (fun a' w' hg hk hd => ?_) (AllFrom.cons (fun a' w' hg hk hd => ?_) (AllFrom.cons (fun a' w' hg hk hd => ?_) (AllFrom.cons (fun a' w' hg hk hd => ?_) (AllFrom.cons (fun a' w' hg hk hd => ?_) (AllFrom.cons (fun a' w' hg hk hd => ?_) (AllFrom.cons (fun a' w' hg hk hd => ?_) (AllFrom.cons (fun a' w' hg hk hd => ?_) (AllFrom.cons (fun a' w' hg hk hd => ?_) (AllFrom.cons (fun a' w' hg hk hd => ?_) (AllFrom.cons (fun a' w' hg hk hd => ?_) (AllFrom.cons (fun a' w' hg hk hd => ?_) (AllFrom.cons (fun a' w' hg hk hd => ?_) AllFrom.nil))))))))))))))
      · skip
        refine ⟨fun h => absurd h (by decide), fun _ => ?_⟩
        intro Q
        have hb0 := build0H w'
        exact wp_grow _ _ (by simp only [execOp, List.map_toArray, List.map_nil, hb0, Sem.run_bind, Sem.run_pure, Result.andThen_ok]) ((Below.refl _ _).alloc (Nat.le_refl _) _) (KS_mko rfl ⟨_, rfl, ownG_none w' M 30 (by have := hg.size; have := HMw.out; omega)⟩)
      · skip
        refine ⟨fun h => absurd h (by decide), fun _ => ?_⟩
        intro Q
        have e0 : a'.eval (.tmp 0) = .int .i64 (m : Int) := hk.at 0 (by decide +kernel)
        exact wp_value _ (by simp only [execOp, e0]; rfl) (KS_mkv rfl rfl)
      · skip
        refine ⟨fun h => absurd h (by decide), fun _ => ?_⟩
        intro Q
        have e1 : a'.eval (.tmp 1) = .slice p n cp := hk.at 1 (by decide +kernel)
        exact wp_value _ (by simp only [execOp, e1]; rfl) (KS_mkv rfl rfl)
      · skip
        refine ⟨fun h => absurd h (by decide), fun _ => ?_⟩
        intro Q
        have e7 : a'.eval (.tmp 7) = .int .i64 (k : Int) := hk.at 7 (by decide +kernel)
        exact wp_value _ (by simp only [execOp, e7]; rfl) (KS_mkv rfl rfl)
      · skip
        refine ⟨fun h => absurd h (by decide), fun _ => ?_⟩
        intro Q
        have e24 : a'.eval (.tmp 24) = .slice p n cp := KS_val (hd.val 2 24 (by decide +kernel)) rfl
        have e25 : a'.eval (.tmp 25) = .int .i64 (k : Int) := KS_val (hd.val 3 25 (by decide +kernel)) rfl
        exact wp_value _ (by simp only [execOp, e24, e25, hs1, Sem.run_bind, Result.andThen_ok, Option.map_none, Option.map_some]; rfl) (KS_mkv rfl rfl)
      · skip
        refine ⟨fun h => absurd h (by decide), fun _ => ?_⟩
        intro Q
        have e2 : a'.eval (.tmp 2) = .bool wh := hk.at 2 (by decide +kernel)
        exact wp_value _ (by simp only [execOp, e2]; rfl) (KS_mkv rfl rfl)
      · skip
        refine ⟨fun h => absurd h (by decide), fun _ => ?_⟩
        intro Q
        have e23 : a'.eval (.tmp 23) = .int .i64 (m : Int) := KS_val (hd.val 1 23 (by decide +kernel)) rfl
        have e26 : a'.eval (.tmp 26) = .slice p k cp := KS_val (hd.val 4 26 (by decide +kernel)) rfl
        have e27 : a'.eval (.tmp 27) = .bool wh := KS_val (hd.val 5 27 (by decide +kernel)) rfl
        refine wp_call 29 _ (run_enter 29 _ _ rfl (by kernel_rfl)) ?_
        simp only [List.map_toArray, List.map_nil, List.map_cons, e23, e26, e27]
        have CC := IH.out d HFD.out (L.take k) (.slice p k cp) m wh w' (by omega) (by rw [HTL.out]; omega) (by rw [HTL.out]; exact HKP.out) (by rw [HTL.out]; omega) (RO.out.kept hg)
        rw [HP.out] at CC
        refine CC.mono ?_
        rintro e w5 ⟨⟨a5, n5, c5, rfl, hr5⟩, hb5⟩
        exact ⟨_, rfl, KS_mko rfl hr5, hb5⟩
      · skip
        refine ⟨fun h => absurd h (by decide), fun _ => ?_⟩
        intro Q
        have r22 := KS_of (hd.val 0 22 (by decide +kernel)) rfl
        have r28 := KS_of (hd.val 6 28 (by decide +kernel)) rfl
        obtain ⟨g, f22, ho8⟩ := r22
        rw [f22] at ho8
        obtain ⟨v2, w6, hr6, O6, G6⟩ := run_append_own w' M 22 22 22 g ho8 _ P r28 (by have := HPn.out; omega) Tryd.underlying22 Tryd.underlying22
        exact wp_append_grow f22 rfl hr6 G6 (KS_mko rfl O6)
      · skip
        refine ⟨fun h => absurd h (by decide), fun _ => ?_⟩
        intro Q
        have e1 : a'.eval (.tmp 1) = .slice p n cp := hk.at 1 (by decide +kernel)
        exact wp_value _ (by simp only [execOp, e1]; rfl) (KS_mkv rfl rfl)
      · skip
        refine ⟨fun h => absurd h (by decide), fun _ => ?_⟩
        intro Q
        have e7 : a'.eval (.tmp 7) = .int .i64 (k : Int) := hk.at 7 (by decide +kernel)
        exact wp_value _ (by simp only [execOp, e7]; rfl) (KS_mkv rfl rfl)
      · skip
        refine ⟨fun h => absurd h (by decide), fun _ => ?_⟩
        intro Q
        have e30 : a'.eval (.tmp 30) = .slice p n cp := KS_val (hd.val 8 30 (by decide +kernel)) rfl
        have e31 : a'.eval (.tmp 31) = .int .i64 (k : Int) := KS_val (hd.val 9 31 (by decide +kernel)) rfl
        exact wp_value _ (by simp only [execOp, e30, e31, hs2, Sem.run_bind, Result.andThen_ok, Option.map_none, Option.map_some]; rfl) (KS_mkv rfl rfl)
      · skip
        refine ⟨fun h => absurd h (by decide), fun _ => ?_⟩
        intro Q
        have e32 : a'.eval (.tmp 32) = .slice a2 (n - k) (cp - k) := KS_val (hd.val 10 32 (by decide +kernel)) rfl
        refine wp_call 22 _ (run_enter 22 _ _ rfl (by kernel_rfl)) ?_
        simp only [List.map_toArray, List.map_nil, List.map_cons, e32]
        have CC := nroot_any (L.drop k) _ w' (RS.out.kept hg)
        rw [HX.out] at CC
        refine (CC).mono ?_
        rintro e w5 ⟨rfl, hb5⟩
        exact ⟨_, rfl, KS_mkv rfl rfl, hb5⟩
      · skip
        refine ⟨fun h => absurd h (by decide), fun _ => ?_⟩
        intro Q
        have e33 : a'.eval (.tmp 33) = HV x := KS_val (hd.val 11 33 (by decide +kernel)) rfl
        obtain ⟨w9, hr9, hg9, hrd9⟩ := hash_new w' x
        exact wp_grow _ w9 (by simp only [execOp, List.map_toArray, List.map_cons, List.map_nil, e33, hr9, Sem.run_bind, Sem.run_pure, Result.andThen_ok]) hg9 (KS_mko rfl hrd9)
      · skip
        refine ⟨fun _ => ⟨rfl, fun Q => ?_⟩, fun h => absurd rfl h⟩
        have r29 := KS_of (hd.val 7 29 (by decide +kernel)) rfl
        have r34 := KS_of (hd.val 12 34 (by decide +kernel)) rfl
        obtain ⟨v2, w6, hr6, O6, G6, H6⟩ := append_own r29 r34 (by have := HPn.out; simp; omega) (by have := hg.size; have := HMw.out; omega)
        refine wp_append10 _ _ _ _ rfl rfl rfl hr6 ⟨v2, rfl, KS_mko rfl O6.rd, ?_⟩
        have hc6 : Chg (fun k => M ≤ k) w' w6 := Chg.of_grown G6 (fun k hk _ => (r29.block hk).1)
        rw [HMw.out]
        exact hc6.below (by have := hg.size; have := HMw.out; omega) (fun k hk h => by omega)
      · skip
        refine ⟨fun h => absurd h (by decide), fun _ => ?_⟩
        intro Q
        have r35 := KS_of (hd.val 13 35 (by decide +kernel)) rfl
        exact wp_value (a'.eval (.tmp 35)) (by simp only [execOp]; rfl) (KS_mko rfl r35)
    intro a' w9 hsz hdf hk hall hg
    have r4 : RdG HE w9 (a'.eval (.tmp 6)) (P ++ [x]) := KS_of (hall 14 _ 6 rfl rfl rfl) rfl
    have hd0 : a'.defers = [] := hdf
    have hL9 : Below w.heap.size w w9 := LM.out.trans (Below.mono hg LM.out.size)
    clear hall hk hsz hdf
    go_wp2_with fail
    obtain ⟨a9, c9, h9⟩ := r4.slice
    refine bodyPost_ret (results_tmp rfl _ _ _) hd0 ⟨⟨a9, (P ++ [x]).length, c9, ?_, ?_⟩, hL9⟩
    · have h4 : a'.tmps.getD 6 undef = _ := h9
      rw [h4]
    · rw [← h9, HPR.out]
      exact r4
  · have q4 : ¬ (m : Int) ≤ (k : Int) := by omega
    have RO := RD
    have RS := RT
    have HTL := HTL2
    have HKP := HKP2
    obtain ⟨mk, HJ⟩ : ∃ j, Hid (m - k = j) := ⟨_, rfl⟩
    have hmk : (m : Int) - (k : Int) = (mk : Int) := by have := HJ.out; omega
    have hjn : 1 ≤ mk ∧ mk ≤ n - k := by have := HJ.out; omega
    have HPR : Hid (subR f m L wh = subR d mk (L.drop k) false ++ [root nd em (L.take k)]) := (show _ = _ by
      rw [HFD.out, subR, HN.out, HK.out, if_neg h1, if_neg hik, HJ.out])
    obtain ⟨P, HP⟩ : ∃ P, Hid (subR d mk (L.drop k) false = P) := ⟨_, rfl⟩
    have HPn : Hid (P.length ≤ 1000) := (show P.length ≤ 1000 by
      rw [← HP.out]
      exact Nat.le_trans (subR_len d _ _ _) (by have := HDB.out; omega))
    obtain ⟨x, HX⟩ : ∃ x, Hid (root nd em (L.take k) = x) := ⟨_, rfl⟩
    rw [HP.out, HX.out] at HPR
    have LM : Hid (Below w.heap.size w w) := Below.refl _ _
    obtain ⟨M, HMw⟩ : ∃ M, Hid (w.heap.size = M) := ⟨_, rfl⟩
    go_upto_region 8 with fail
    refine wp_region_fresh2 Tryd.mixed (KS (fun i_ => match i_ with | 0 => .of (fun w v_ => ∃ g, v_ = .slice (some ⟨g, 0, none⟩) 0 0 ∧ OwnG HE w M 30 v_ ([])) (fun _ _ _ hg h => by obtain ⟨g, h1, h2⟩ := h; exact ⟨g, h1, OwnG.kept h2 hg⟩) | 1 => .val (.int .i64 (m : Int)) | 2 | 5 | 10 => .val (.int .i64 (k : Int)) | 3 => .val (.int .i64 (mk : Int)) | 4 | 9 => .val (.slice p n cp) | 6 => .val (.slice a2 (n - k) (cp - k)) | 7 => .of (fun w v_ => RdG HE w v_ (P)) (fun _ _ _ hg h => RdG.kept h hg) | 8 => .of (fun w v_ => OwnG HE w M 30 v_ (P)) (fun _ _ _ hg h => OwnG.kept h hg) | 11 => .val (.slice p k cp) | 12 => .val (HV x) | 13 => .of (fun w v_ => RdG HE w v_ ([x])) (fun _ _ _ hg h => RdG.kept h hg) | 14 | 15 => .of (fun w v_ => RdG HE w v_ (P ++ [x])) (fun _ _ _ hg h => RdG.kept h hg) | _ => .free)) (fun i_ => i_ == 0 || i_ == 7 || i_ == 8 || i_ == 13) 14 51 rfl (by decide +kernel) (KS_mono _) (fun i_ h1 h2 h3 w1 w2 x_ _ h_ => (show Kn.isVal ((fun i_ => match i_ with | 0 => .of (fun w v_ => ∃ g, v_ = .slice (some ⟨g, 0, none⟩) 0 0 ∧ OwnG HE w M 30 v_ ([])) (fun _ _ _ hg h => by obtain ⟨g, h1, h2⟩ := h; exact ⟨g, h1, OwnG.kept h2 hg⟩) | 1 => .val (.int .i64 (m : Int)) | 2 | 5 | 10 => .val (.int .i64 (k : Int)) | 3 => .val (.int .i64 (mk : Int)) | 4 | 9 => .val (.slice p n cp) | 6 => .val (.slice a2 (n - k) (cp - k)) | 7 => .of (fun w v_ => RdG HE w v_ (P)) (fun _ _ _ hg h => RdG.kept h hg) | 8 => .of (fun w v_ => OwnG HE w M 30 v_ (P)) (fun _ _ _ hg h => OwnG.kept h hg) | 11 => .val (.slice p k cp) | 12 => .val (HV x) | 13 => .of (fun w v_ => RdG HE w v_ ([x])) (fun _ _ _ hg h => RdG.kept h hg) | 14 | 15 => .of (fun w v_ => RdG HE w v_ (P ++ [x])) (fun _ _ _ hg h => RdG.kept h hg) | _ => .free) i_) by dsimp only; split <;> first | exact (fun _ _ _ h => h) | exact absurd rfl h2 | exact absurd h1 (by decide) | exact absurd h3 (by decide +kernel)) w1 w2 x_ h_) ?_ ?_
    · refine AllFrom.cons (fun a' w' hg hk hd => ?_) (AllFrom.cons (fun a' w' hg hk hd => ?_) (AllFrom.cons (fun a' w' hg hk hd => ?_) (AllFrom.cons (fun a' w' hg hk hd => ?_) (AllFrom.cons (fun a' w' hg hk hd => ?_) (AllFrom.cons (fun a' w' hg hk hd => ?_) (AllFrom.cons (fun a' w' hg hk hd => ?_) (AllFrom.cons (fun a' w' hg hk hd => ?_) (AllFrom.cons (fun a' w' hg hk hd => ?_) (AllFrom.cons (fun a' w' hg hk hd => ?_) (AllFrom.cons (fun a' w' hg hk hd => ?_) (AllFrom.cons (fun a' w' hg hk hd => ?_) (AllFrom.cons (fun a' w' hg hk hd => ?_) (AllFrom.cons (fun a' w' hg hk hd => ?_) (AllFrom.cons (fun a' w' hg hk hd => ?_) (AllFrom.cons (fun a' w' hg hk hd => ?_) AllFrom.nil)))))))))))))))
      · skip
        refine ⟨fun h => absurd h (by decide), fun _ => ?_⟩
        intro Q
        have hb0 := build0H w'
        exact wp_grow _ _ (by simp only [execOp, List.map_toArray, List.map_nil, hb0, Sem.run_bind, Sem.run_pure, Result.andThen_ok]) ((Below.refl _ _).alloc (Nat.le_refl _) _) (KS_mko rfl ⟨_, rfl, ownG_none w' M 30 (by have := hg.size; have := HMw.out; omega)⟩)
      · skip
        refine ⟨fun h => absurd h (by decide), fun _ => ?_⟩
        intro Q
        have e0 : a'.eval (.tmp 0) = .int .i64 (m : Int) := hk.at 0 (by decide +kernel)
        exact wp_value _ (by simp only [execOp, e0]; rfl) (KS_mkv rfl rfl)
      · skip
        refine ⟨fun h => absurd h (by decide), fun _ => ?_⟩
        intro Q
        have e7 : a'.eval (.tmp 7) = .int .i64 (k : Int) := hk.at 7 (by decide +kernel)
        exact wp_value _ (by simp only [execOp, e7]; rfl) (KS_mkv rfl rfl)
      · skip
        refine ⟨fun h => absurd h (by decide), fun _ => ?_⟩
        intro Q
        have e37 : a'.eval (.tmp 37) = .int .i64 (m : Int) := KS_val (hd.val 1 37 (by decide +kernel)) rfl
        have e38 : a'.eval (.tmp 38) = .int .i64 (k : Int) := KS_val (hd.val 2 38 (by decide +kernel)) rfl
        clear hd hk
        have hw : IntKind.i64.wrap (mk : Int) = (mk : Int) := wr64 (by omega) (by omega)
        have hq := hmk
        exact wp_value (.int .i64 (mk : Int)) (by simp only [execOp, e37, e38]; go_simp) (KS_mkv rfl rfl)
      · skip
        refine ⟨fun h => absurd h (by decide), fun _ => ?_⟩
        intro Q
        have e1 : a'.eval (.tmp 1) = .slice p n cp := hk.at 1 (by decide +kernel)
        exact wp_value _ (by simp only [execOp, e1]; rfl) (KS_mkv rfl rfl)
      · skip
        refine ⟨fun h => absurd h (by decide), fun _ => ?_⟩
        intro Q
        have e7 : a'.eval (.tmp 7) = .int .i64 (k : Int) := hk.at 7 (by decide +kernel)
        exact wp_value _ (by simp only [execOp, e7]; rfl) (KS_mkv rfl rfl)
      · skip
        refine ⟨fun h => absurd h (by decide), fun _ => ?_⟩
        intro Q
        have e40 : a'.eval (.tmp 40) = .slice p n cp := KS_val (hd.val 4 40 (by decide +kernel)) rfl
        have e41 : a'.eval (.tmp 41) = .int .i64 (k : Int) := KS_val (hd.val 5 41 (by decide +kernel)) rfl
        exact wp_value _ (by simp only [execOp, e40, e41, hs2, Sem.run_bind, Result.andThen_ok, Option.map_none, Option.map_some]; rfl) (KS_mkv rfl rfl)
      · skip
        refine ⟨fun h => absurd h (by decide), fun _ => ?_⟩
        intro Q
        have e39 : a'.eval (.tmp 39) = .int .i64 (mk : Int) := KS_val (hd.val 3 39 (by decide +kernel)) rfl
        have e42 : a'.eval (.tmp 42) = .slice a2 (n - k) (cp - k) := KS_val (hd.val 6 42 (by decide +kernel)) rfl
        refine wp_call 29 _ (run_enter 29 _ _ rfl (by kernel_rfl)) ?_
        simp only [List.map_toArray, List.map_nil, List.map_cons, e39, e42]
        have CC := IH.out d HFD.out (L.drop k) (.slice a2 (n - k) (cp - k)) mk false w' (by omega) (by rw [HTL.out]; omega) (by rw [HTL.out]; exact HKP.out) (by rw [HTL.out]; omega) (RO.out.kept hg)
        rw [HP.out] at CC
        refine CC.mono ?_
        rintro e w5 ⟨⟨a5, n5, c5, rfl, hr5⟩, hb5⟩
        exact ⟨_, rfl, KS_mko rfl hr5, hb5⟩
      · skip
        refine ⟨fun h => absurd h (by decide), fun _ => ?_⟩
        intro Q
        have r36 := KS_of (hd.val 0 36 (by decide +kernel)) rfl
        have r43 := KS_of (hd.val 7 43 (by decide +kernel)) rfl
        obtain ⟨g, f36, ho8⟩ := r36
        rw [f36] at ho8
        obtain ⟨v2, w6, hr6, O6, G6⟩ := run_append_own w' M 22 22 22 g ho8 _ P r43 (by have := HPn.out; omega) Tryd.underlying22 Tryd.underlying22
        exact wp_append_grow f36 rfl hr6 G6 (KS_mko rfl O6)
      · skip
        refine ⟨fun h => absurd h (by decide), fun _ => ?_⟩
        intro Q
        have e1 : a'.eval (.tmp 1) = .slice p n cp := hk.at 1 (by decide +kernel)
        exact wp_value _ (by simp only [execOp, e1]; rfl) (KS_mkv rfl rfl)
      · skip
        refine ⟨fun h => absurd h (by decide), fun _ => ?_⟩
        intro Q
        have e7 : a'.eval (.tmp 7) = .int .i64 (k : Int) := hk.at 7 (by decide +kernel)
        exact wp_value _ (by simp only [execOp, e7]; rfl) (KS_mkv rfl rfl)
      · skip
        refine ⟨fun h => absurd h (by decide), fun _ => ?_⟩
        intro Q
        have e45 : a'.eval (.tmp 45) = .slice p n cp := KS_val (hd.val 9 45 (by decide +kernel)) rfl
        have e46 : a'.eval (.tmp 46) = .int .i64 (k : Int) := KS_val (hd.val 10 46 (by decide +kernel)) rfl
        exact wp_value _ (by simp only [execOp, e45, e46, hs1, Sem.run_bind, Result.andThen_ok, Option.map_none, Option.map_some]; rfl) (KS_mkv rfl rfl)
      · skip
        refine ⟨fun h => absurd h (by decide), fun _ => ?_⟩
        intro Q
        have e47 : a'.eval (.tmp 47) = .slice p k cp := KS_val (hd.val 11 47 (by decide +kernel)) rfl
        refine wp_call 22 _ (run_enter 22 _ _ rfl (by kernel_rfl)) ?_
        simp only [List.map_toArray, List.map_nil, List.map_cons, e47]
        have CC := nroot_any (L.take k) _ w' (RS.out.kept hg)
        rw [HX.out] at CC
        refine (CC).mono ?_
        rintro e w5 ⟨rfl, hb5⟩
        exact ⟨_, rfl, KS_mkv rfl rfl, hb5⟩
      · skip
        refine ⟨fun h => absurd h (by decide), fun _ => ?_⟩
        intro Q
        have e48 : a'.eval (.tmp 48) = HV x := KS_val (hd.val 12 48 (by decide +kernel)) rfl
        obtain ⟨w9, hr9, hg9, hrd9⟩ := hash_new w' x
        exact wp_grow _ w9 (by simp only [execOp, List.map_toArray, List.map_cons, List.map_nil, e48, hr9, Sem.run_bind, Sem.run_pure, Result.andThen_ok]) hg9 (KS_mko rfl hrd9)
      · skip
        refine ⟨fun _ => ⟨rfl, fun Q => ?_⟩, fun h => absurd rfl h⟩
        have r44 := KS_of (hd.val 8 44 (by decide +kernel)) rfl
        have r49 := KS_of (hd.val 13 49 (by decide +kernel)) rfl
        obtain ⟨v2, w6, hr6, O6, G6, H6⟩ := append_own r44 r49 (by have := HPn.out; simp; omega) (by have := hg.size; have := HMw.out; omega)
        refine wp_append10 _ _ _ _ rfl rfl rfl hr6 ⟨v2, rfl, KS_mko rfl O6.rd, ?_⟩
        have hc6 : Chg (fun k => M ≤ k) w' w6 := Chg.of_grown G6 (fun k hk _ => (r44.block hk).1)
        rw [HMw.out]
        exact hc6.below (by have := hg.size; have := HMw.out; omega) (fun k hk h => by omega)
      · skip
        refine ⟨fun h => absurd h (by decide), fun _ => ?_⟩
        intro Q
        have r50 := KS_of (hd.val 14 50 (by decide +kernel)) rfl
        exact wp_value (a'.eval (.tmp 50)) (by simp only [execOp]; rfl) (KS_mko rfl r50)
    intro a' w9 hsz hdf hk hall hg
    have r4 : RdG HE w9 (a'.eval (.tmp 6)) (P ++ [x]) := KS_of (hall 15 _ 6 rfl rfl rfl) rfl
    have hd0 : a'.defers = [] := hdf
    have hL9 : Below w.heap.size w w9 := LM.out.trans (Below.mono hg LM.out.size)
    clear hall hk hsz hdf
    go_wp2_with fail
    obtain ⟨a9, c9, h9⟩ := r4.slice
    refine bodyPost_ret (results_tmp rfl _ _ _) hd0 ⟨⟨a9, (P ++ [x]).length, c9, ?_, ?_⟩, hL9⟩
    · have h4 : a'.tmps.getD 6 undef = _ := h9
      rw [h4]
    · rw [← h9, HPR.out]
      exact r4
theorem xsub_any : ∀ f, f ≤ 40 → XSubAt f
  | 0, h => xsub_step 0 h (fun d hd => by omega)
  | f + 1, h => xsub_step (f + 1) h (fun d hd => by
    have : d = f := by omega
    subst this
    exact xsub_any d (by omega))
set_option maxHeartbeats 4000000 in
set_option maxRecDepth 100000 in
theorem xgrown_any (L : List Hs) (lv : Value) (m : Int) (w : World) (hl60 : L.length ≤ 60) (hL : RdG HE w lv L) :
    Calls Tryd.prog 14 #[lv, .int .i64 m] w fun e w' => (∃ a n c, e = .returned (.tuple #[.slice a n c, .bool (decide (1 ≤ m ∧ m ≤ (L.length : Int)))]) ∧ RdG HE w' (.slice a n c) (if 1 ≤ m ∧ m ≤ (L.length : Int) then subR 40 m.toNat L true else [])) ∧ Below w.heap.size w w' := by
  have RL := hide hL
  obtain ⟨p, cp, rfl⟩ := hL.slice
  obtain ⟨n, HN⟩ : ∃ n, Hid (L.length = n) := ⟨_, rfl⟩
  rw [HN.out] at RL hl60 ⊢
  clear hL
  by_cases hi : 1 ≤ m ∧ m ≤ (n : Int)
  · rw [if_pos hi, decide_eq_true hi]
    obtain ⟨m, rfl⟩ : ∃ k : Nat, m = (k : Int) := ⟨m.toNat, by omega⟩
    rw [Int.toNat_natCast]
    have q1 : ¬ (m : Int) < 1 := by omega
    have q2 : ¬ (n : Int) < (m : Int) := by omega
    have CS := xsub_any 40 (Nat.le_refl _) L _ m true w (by omega) (by rw [HN.out]; omega) (by rw [HN.out]; omega) (by rw [HN.out]; exact hl60) RL.out
    have HCS := hide CS
    clear hi CS
    go_enter Tryd.func14, Tryd.ntmps14
    go_wp2_with fail
    refine HCS.out.mono ?_
    rintro e w1 ⟨⟨a, k, c, rfl, hr⟩, hb⟩
    go_wp2_with fail
    refine bodyPost_ret (results_tmp2 rfl _ _ _) rfl ?_
    exact ⟨⟨a, k, c, rfl, hr⟩, hb⟩
  · rw [if_neg hi, decide_eq_false hi]
    go_enter Tryd.func14, Tryd.ntmps14
    by_cases q1 : m < 1
    · go_wp2_with fail
      refine bodyPost_ret (results_tmp2 rfl _ _ _) rfl ?_
      exact ⟨⟨none, 0, 0, rfl, RdG_nil _⟩, Below.refl _ _⟩
    · have q2 : (n : Int) < m := by omega
      clear hi
      go_wp2_with fail
      refine bodyPost_ret (results_tmp2 rfl _ _ _) rfl ?_
      exact ⟨⟨none, 0, 0, rfl, RdG_nil _⟩, Below.refl _ _⟩
#print axioms xgrown_any
end Go.Proofs.YtfclmjfbcmjfbaaDoor
