/-
  The reference's Path, sub and Grown: what the calls do.
-/
import Derived.Test.YtfclmjfbcmjfbaaDoorHoldsWalk10
import Derived.Test.YtfclmjfbcmjfbaaDoorRegion13
namespace Go.Proofs.YtfclmjfbcmjfbaaDoor
open Go.RowKit
theorem pathR_len : ∀ (f : Nat) (L : List Hs) (i : Nat), (pathR f L i).length ≤ f
  | 0, L, i => by simp [pathR]
  | f + 1, L, i => by
    rw [pathR]
    split
    · simp
    · split
      · have := pathR_len f (L.take (spl L.length)) i
        simp; omega
      · have := pathR_len f (L.drop (spl L.length)) (i - spl L.length)
        simp; omega
theorem subR_len : ∀ (f m : Nat) (L : List Hs) (wh : Bool), (subR f m L wh).length ≤ f + 1
  | 0, m, L, wh => by rw [subR]; split <;> simp
  | f + 1, m, L, wh => by
    rw [subR]
    split
    · split <;> simp
    · split
      · have := subR_len f m (L.take (spl L.length)) wh
        simp; omega
      · have := subR_len f (m - spl L.length) (L.drop (spl L.length)) false
        simp; omega
/-- What the reference's Path is said to do, of leaves that a tree of that height has. -/
def XPathAt (f : Nat) : Prop := ∀ (L : List Hs) (lv : Value) (i : Int) (w : World), L.length ≤ 2 ^ f → L.length ≤ 60 → RdG HE w lv L →
  Calls Tryd.prog 12 #[lv, .int .i64 i] w fun e w' => (∃ a n c, e = .returned (.tuple #[.slice a n c, .bool (decide (0 ≤ i ∧ i < (L.length : Int)))]) ∧ RdG HE w' (.slice a n c) (if 0 ≤ i ∧ i < (L.length : Int) then pathR f L i.toNat else [])) ∧ Below w.heap.size w w'
set_option maxHeartbeats 8000000 in
set_option maxRecDepth 100000 in
theorem xpath_step (f : Nat) (hf40 : f ≤ 40) (ih : ∀ d, f = d + 1 → XPathAt d) : XPathAt f := by
  intro L lv i w hlf hl60 hL
  have IH := hide ih
  have RL := hide hL
  obtain ⟨p, cp, rfl⟩ := hL.slice
  have hcp := hL.cap
  obtain ⟨n, HN⟩ : ∃ n, Hid (L.length = n) := ⟨_, rfl⟩
  rw [HN.out] at RL hcp hlf hl60 ⊢
  clear hL ih
  by_cases hi : 0 ≤ i ∧ i < (n : Int)
  · rw [if_pos hi, decide_eq_true hi]
    obtain ⟨i, rfl⟩ : ∃ k : Nat, i = (k : Int) := ⟨i.toNat, by omega⟩
    rw [Int.toNat_natCast]
    have hin : i < n := by omega
    have q1 : ¬ (i : Int) < 0 := by omega
    have q2 : ¬ (n : Int) ≤ (i : Int) := by omega
    have q2b : decide ((n : Int) ≤ (i : Int)) = false := decide_eq_false q2
    clear hi
    by_cases h1 : n = 1
    · subst h1
      have HPR : Hid (pathR f L i = []) := (show _ = _ by
        cases f with
        | zero => rfl
        | succ f => rw [pathR, if_pos (by rw [HN.out]; exact Nat.le_refl _)])
      go_enter Tryd.func12, Tryd.ntmps12
      go_wp2_with fail
      refine bodyPost_ret (results_tmp2 rfl _ _ _) rfl ?_
      exact ⟨⟨none, 0, 0, rfl, by rw [HPR.out]; exact RdG_nil _⟩, Below.refl _ _⟩
    have h2 : 2 ≤ n := by omega
    have q3 : ((n : Int) == 1) = false := by simp; omega
    obtain ⟨d, hfd⟩ := pow_two_pos h2 hlf
    have hlf2 := hlf
    rw [hfd] at hlf2
    have ks := spl_le h2 hlf2
    have kl := spl_lt h2
    have kp := spl_pos h2
    have kg := spl_ge h2
    have HFD := hide hfd
    have HDB : Hid (d ≤ 40) := (show d ≤ 40 by omega)
    have CS := nsplit_any (n : Int) (by omega) w
    rw [Int.toNat_natCast] at CS
    obtain ⟨k, HK⟩ : ∃ k, Hid (spl n = k) := ⟨_, rfl⟩
    rw [HK.out] at CS ks kl kp kg
    have HCS := hide CS
    obtain ⟨hs1, hs1r⟩ := slice_G_to (E := HE) (P := Tryd.prog) Tryd.underlying22 Tryd.size30 p n cp k (by omega) hcp
    obtain ⟨a2, hs2, -, hs2r⟩ := slice_G (E := HE) (P := Tryd.prog) Tryd.underlying22 Tryd.size30 p n cp k (by omega) hcp
    have RT := hide (hs1r w L RL.out)
    have RD := hide (hs2r w L RL.out)
    have HTL1 : Hid ((L.take k).length = k) := (show _ = _ by rw [List.length_take, HN.out]; omega)
    have HTL2 : Hid ((L.drop k).length = n - k) := (show _ = _ by rw [List.length_drop, HN.out])
    have HKP1 : Hid (k ≤ 2 ^ d) := ks
    have HKP2 : Hid (n - k ≤ 2 ^ d) := (show n - k ≤ 2 ^ d by omega)
    clear hlf hlf2 hs1r hs2r CS ks hfd
    go_enter Tryd.func12, Tryd.ntmps12
    go_wp2_with fail
    refine HCS.out.mono ?_
    rintro e w1 ⟨rfl, hw1⟩
    subst w1
    by_cases hik : i < k
    · have q4 : (i : Int) < (k : Int) := by omega
      have RO := RT
      have RS0 := RD
      have HTL := HTL1
      have HKP := HKP1
      have HPR : Hid (pathR f L i = pathR d (L.take k) i ++ [root nd em (L.drop k)]) := (show _ = _ by
        rw [HFD.out, pathR, HN.out, HK.out, if_neg (by omega), if_pos hik])
      have CI := IH.out d HFD.out (L.take k) (.slice p k cp) (i : Int) w (by rw [HTL.out]; exact HKP.out) (by rw [HTL.out]; omega) RO.out
      rw [HTL.out, if_pos (by omega), decide_eq_true (by omega : (0 : Int) ≤ (i : Int) ∧ (i : Int) < ((k : Nat) : Int)), Int.toNat_natCast] at CI
      have HCI := hide CI
      clear CI
      go_wp2_with fail
      refine HCI.out.mono ?_
      rintro e w3 ⟨⟨pa, np, pc, rfl, hrp⟩, hb3⟩
      obtain ⟨P, HP⟩ : ∃ P, Hid (pathR d (L.take k) i = P) := ⟨_, rfl⟩
      rw [HP.out] at hrp
      have RP := hide hrp
      have HPn : Hid (P.length ≤ 1000) := (show P.length ≤ 1000 by
        rw [← HP.out]
        exact Nat.le_trans (pathR_len d _ _) (by have := HDB.out; omega))
      have RS := hide (RS0.out.kept hb3)
      obtain ⟨x, HX⟩ : ∃ x, Hid (root nd em (L.drop k) = x) := ⟨_, rfl⟩
      have LM := hide hb3
      obtain ⟨M, HMw⟩ : ∃ M, Hid (w3.heap.size = M) := ⟨_, rfl⟩
      have HLN3 := hide hrp.len
      clear hb3 hrp
      go_upto_region 8 with fail
      refine wp_region_fresh2 Tryd.mixed (KS (fun i_ => match i_ with | 0 => .of (fun w v_ => ∃ g, v_ = .slice (some ⟨g, 0, none⟩) 0 0 ∧ OwnG HE w M 30 v_ ([])) (fun _ _ _ hg h => by obtain ⟨g, h1, h2⟩ := h; exact ⟨g, h1, OwnG.kept h2 hg⟩) | 1 => .val (.slice pa np pc) | 2 => .of (fun w v_ => OwnG HE w M 30 v_ (P)) (fun _ _ _ hg h => OwnG.kept h hg) | 3 => .val (.slice p n cp) | 4 => .val (.int .i64 (k : Int)) | 5 => .val (.slice a2 (n - k) (cp - k)) | 6 => .val (HV x) | 7 => .of (fun w v_ => RdG HE w v_ ([x])) (fun _ _ _ hg h => RdG.kept h hg) | 8 | 9 => .of (fun w v_ => RdG HE w v_ (P ++ [x])) (fun _ _ _ hg h => RdG.kept h hg) | 10 => .val (.bool true) | _ => .free)) (fun i_ => i_ == 0 || i_ == 2 || i_ == 7) 8 64 rfl (by decide +kernel) (KS_mono _) (fun i_ h1 h2 h3 w1 w2 x_ _ h_ => (show Kn.isVal ((fun i_ => match i_ with | 0 => .of (fun w v_ => ∃ g, v_ = .slice (some ⟨g, 0, none⟩) 0 0 ∧ OwnG HE w M 30 v_ ([])) (fun _ _ _ hg h => by obtain ⟨g, h1, h2⟩ := h; exact ⟨g, h1, OwnG.kept h2 hg⟩) | 1 => .val (.slice pa np pc) | 2 => .of (fun w v_ => OwnG HE w M 30 v_ (P)) (fun _ _ _ hg h => OwnG.kept h hg) | 3 => .val (.slice p n cp) | 4 => .val (.int .i64 (k : Int)) | 5 => .val (.slice a2 (n - k) (cp - k)) | 6 => .val (HV x) | 7 => .of (fun w v_ => RdG HE w v_ ([x])) (fun _ _ _ hg h => RdG.kept h hg) | 8 | 9 => .of (fun w v_ => RdG HE w v_ (P ++ [x])) (fun _ _ _ hg h => RdG.kept h hg) | 10 => .val (.bool true) | _ => .free) i_) by dsimp only; split <;> first | exact (fun _ _ _ h => h) | exact absurd rfl h2 | exact absurd h1 (by decide) | exact absurd h3 (by decide +kernel)) w1 w2 x_ h_) ?_ ?_
      · refine AllFrom.cons (fun a' w' hg hk hd => ?_) (AllFrom.cons (fun a' w' hg hk hd => ?_) (AllFrom.cons (fun a' w' hg hk hd => ?_) (AllFrom.cons (fun a' w' hg hk hd => ?_) (AllFrom.cons (fun a' w' hg hk hd => ?_) (AllFrom.cons (fun a' w' hg hk hd => ?_) (AllFrom.cons (fun a' w' hg hk hd => ?_) (AllFrom.cons (fun a' w' hg hk hd => ?_) (AllFrom.cons (fun a' w' hg hk hd => ?_) (AllFrom.cons (fun a' w' hg hk hd => ?_) (AllFrom.cons (fun a' w' hg hk hd => ?_) AllFrom.nil))))))))))
        · skip
          refine ⟨fun h => absurd h (by decide), fun _ => ?_⟩
          intro Q
          have hb0 := build0H w'
          exact wp_grow _ _ (by simp only [execOp, List.map_toArray, List.map_nil, hb0, Sem.run_bind, Sem.run_pure, Result.andThen_ok]) ((Below.refl _ _).alloc (Nat.le_refl _) _) (KS_mko rfl ⟨_, rfl, ownG_none w' M 30 (by have := hg.size; have := HMw.out; omega)⟩)
        · skip
          refine ⟨fun h => absurd h (by decide), fun _ => ?_⟩
          intro Q
          have e7 : a'.eval (.tmp 7) = .slice pa np pc := hk.at 7 (by decide +kernel)
          exact wp_value _ (by simp only [execOp, e7]; rfl) (KS_mkv rfl rfl)
        · skip
          refine ⟨fun h => absurd h (by decide), fun _ => ?_⟩
          intro Q
          have r36 := KS_of (hd.val 0 36 (by decide +kernel)) rfl
          have e37 : a'.eval (.tmp 37) = .slice pa np pc := KS_val (hd.val 1 37 (by decide +kernel)) rfl
          obtain ⟨g, f36, ho8⟩ := r36
          rw [f36] at ho8
          obtain ⟨v2, w6, hr6, O6, G6⟩ := run_append_own w' M 22 22 22 g ho8 _ (P) (RP.out.kept hg) (by have := HPn.out; omega) Tryd.underlying22 Tryd.underlying22
          exact wp_append_grow f36 e37 hr6 G6 (KS_mko rfl O6)
        · skip
          refine ⟨fun h => absurd h (by decide), fun _ => ?_⟩
          intro Q
          have e0 : a'.eval (.tmp 0) = .slice p n cp := hk.at 0 (by decide +kernel)
          exact wp_value _ (by simp only [execOp, e0]; rfl) (KS_mkv rfl rfl)
        · skip
          refine ⟨fun h => absurd h (by decide), fun _ => ?_⟩
          intro Q
          have e6 : a'.eval (.tmp 6) = .int .i64 (k : Int) := hk.at 6 (by decide +kernel)
          exact wp_value _ (by simp only [execOp, e6]; rfl) (KS_mkv rfl rfl)
        · skip
          refine ⟨fun h => absurd h (by decide), fun _ => ?_⟩
          intro Q
          have e39 : a'.eval (.tmp 39) = .slice p n cp := KS_val (hd.val 3 39 (by decide +kernel)) rfl
          have e40 : a'.eval (.tmp 40) = .int .i64 (k : Int) := KS_val (hd.val 4 40 (by decide +kernel)) rfl
          exact wp_value _ (by simp only [execOp, e39, e40, hs2, Sem.run_bind, Result.andThen_ok, Option.map_none, Option.map_some]; rfl) (KS_mkv rfl rfl)
        · skip
          refine ⟨fun h => absurd h (by decide), fun _ => ?_⟩
          intro Q
          have e41 : a'.eval (.tmp 41) = .slice a2 (n - k) (cp - k) := KS_val (hd.val 5 41 (by decide +kernel)) rfl
          refine wp_call 22 _ (run_enter 22 _ _ rfl (by kernel_rfl)) ?_
          simp only [List.map_toArray, List.map_nil, List.map_cons, e41]
          have CC := nroot_any (L.drop k) _ w' (RS.out.kept hg)
          rw [HX.out] at CC
          refine (CC).mono ?_
          rintro e w5 ⟨rfl, hb5⟩
          exact ⟨_, rfl, KS_mkv rfl rfl, hb5⟩
        · skip
          refine ⟨fun h => absurd h (by decide), fun _ => ?_⟩
          intro Q
          have e42 : a'.eval (.tmp 42) = HV x := KS_val (hd.val 6 42 (by decide +kernel)) rfl
          obtain ⟨w9, hr9, hg9, hrd9⟩ := hash_new w' x
          exact wp_grow _ w9 (by simp only [execOp, List.map_toArray, List.map_cons, List.map_nil, e42, hr9, Sem.run_bind, Sem.run_pure, Result.andThen_ok]) hg9 (KS_mko rfl hrd9)
        · skip
          refine ⟨fun _ => ⟨rfl, fun Q => ?_⟩, fun h => absurd rfl h⟩
          have r38 := KS_of (hd.val 2 38 (by decide +kernel)) rfl
          have r43 := KS_of (hd.val 7 43 (by decide +kernel)) rfl
          obtain ⟨v2, w6, hr6, O6, G6, H6⟩ := append_own r38 r43 (by have := HPn.out; simp; omega) (by have := hg.size; have := HMw.out; omega)
          refine wp_append10 _ _ _ _ rfl rfl rfl hr6 ⟨v2, rfl, KS_mko rfl O6.rd, ?_⟩
          have hc6 : Chg (fun k => M ≤ k) w' w6 := Chg.of_grown G6 (fun k hk _ => (r38.block hk).1)
          rw [HMw.out]
          exact hc6.below (by have := hg.size; have := HMw.out; omega) (fun k hk h => by omega)
        · skip
          refine ⟨fun h => absurd h (by decide), fun _ => ?_⟩
          intro Q
          have r44 := KS_of (hd.val 8 44 (by decide +kernel)) rfl
          exact wp_value (a'.eval (.tmp 44)) (by simp only [execOp]; rfl) (KS_mko rfl r44)
        · skip
          refine ⟨fun h => absurd h (by decide), fun _ => ?_⟩
          intro Q
          exact wp_value _ (by simp only [execOp]; rfl) (KS_mkv rfl rfl)
      intro a' w9 hsz hdf hk hall hg
      have r4 : RdG HE w9 (a'.eval (.tmp 4)) (P ++ [x]) := KS_of (hall 9 _ 4 rfl rfl rfl) rfl
      have e5 : a'.eval (.tmp 5) = .bool true := KS_val (hall 10 _ 5 rfl rfl rfl) rfl
      have hd0 : a'.defers = [] := hdf
      have hL9 : Below w.heap.size w w9 := LM.out.trans (Below.mono hg LM.out.size)
      clear hall hk hsz hdf
      go_wp2_with fail
      obtain ⟨a9, c9, h9⟩ := r4.slice
      refine bodyPost_ret (results_tmp2 rfl _ _ _) hd0 ⟨⟨a9, (P ++ [x]).length, c9, ?_, ?_⟩, hL9⟩
      · have h4 : a'.tmps.getD 4 undef = _ := h9
        have h5 : a'.tmps.getD 5 undef = _ := e5
        rw [h4, h5]
      · rw [← h9, HPR.out]
        rw [HP.out, HX.out]
        exact r4
    · have q4 : ¬ (i : Int) < (k : Int) := by omega
      have RO := RD
      have RS0 := RT
      have HTL := HTL2
      have HKP := HKP2
      obtain ⟨j, HJ⟩ : ∃ j, Hid (i - k = j) := ⟨_, rfl⟩
      have hij : (i : Int) - (k : Int) = (j : Int) := by have := HJ.out; omega
      have hjn : j < n - k := by have := HJ.out; omega
      have HPR : Hid (pathR f L i = pathR d (L.drop k) j ++ [root nd em (L.take k)]) := (show _ = _ by
        rw [HFD.out, pathR, HN.out, HK.out, if_neg (by omega), if_neg hik, HJ.out])
      have CI := IH.out d HFD.out (L.drop k) (.slice a2 (n - k) (cp - k)) (j : Int) w (by rw [HTL.out]; exact HKP.out) (by rw [HTL.out]; omega) RO.out
      rw [HTL.out, if_pos (by omega), decide_eq_true (by omega : (0 : Int) ≤ (j : Int) ∧ (j : Int) < ((n - k : Nat) : Int)), Int.toNat_natCast] at CI
      have HCI := hide CI
      clear CI
      go_wp2_with fail
      refine HCI.out.mono ?_
      rintro e w3 ⟨⟨pa, np, pc, rfl, hrp⟩, hb3⟩
      obtain ⟨P, HP⟩ : ∃ P, Hid (pathR d (L.drop k) j = P) := ⟨_, rfl⟩
      rw [HP.out] at hrp
      have RP := hide hrp
      have HPn : Hid (P.length ≤ 1000) := (show P.length ≤ 1000 by
        rw [← HP.out]
        exact Nat.le_trans (pathR_len d _ _) (by have := HDB.out; omega))
      have RS := hide (RS0.out.kept hb3)
      obtain ⟨x, HX⟩ : ∃ x, Hid (root nd em (L.take k) = x) := ⟨_, rfl⟩
      have LM := hide hb3
      obtain ⟨M, HMw⟩ : ∃ M, Hid (w3.heap.size = M) := ⟨_, rfl⟩
      have HLN3 := hide hrp.len
      clear hb3 hrp
      go_upto_region 10 with fail
      refine wp_region_fresh2 Tryd.mixed (KS (fun i_ => match i_ with | 0 => .of (fun w v_ => ∃ g, v_ = .slice (some ⟨g, 0, none⟩) 0 0 ∧ OwnG HE w M 30 v_ ([])) (fun _ _ _ hg h => by obtain ⟨g, h1, h2⟩ := h; exact ⟨g, h1, OwnG.kept h2 hg⟩) | 1 => .val (.slice pa np pc) | 2 => .of (fun w v_ => OwnG HE w M 30 v_ (P)) (fun _ _ _ hg h => OwnG.kept h hg) | 3 => .val (.slice p n cp) | 4 => .val (.int .i64 (k : Int)) | 5 => .val (.slice p k cp) | 6 => .val (HV x) | 7 => .of (fun w v_ => RdG HE w v_ ([x])) (fun _ _ _ hg h => RdG.kept h hg) | 8 | 9 => .of (fun w v_ => RdG HE w v_ (P ++ [x])) (fun _ _ _ hg h => RdG.kept h hg) | 10 => .val (.bool true) | _ => .free)) (fun i_ => i_ == 0 || i_ == 2 || i_ == 7) 8 64 rfl (by decide +kernel) (KS_mono _) (fun i_ h1 h2 h3 w1 w2 x_ _ h_ => (show Kn.isVal ((fun i_ => match i_ with | 0 => .of (fun w v_ => ∃ g, v_ = .slice (some ⟨g, 0, none⟩) 0 0 ∧ OwnG HE w M 30 v_ ([])) (fun _ _ _ hg h => by obtain ⟨g, h1, h2⟩ := h; exact ⟨g, h1, OwnG.kept h2 hg⟩) | 1 => .val (.slice pa np pc) | 2 => .of (fun w v_ => OwnG HE w M 30 v_ (P)) (fun _ _ _ hg h => OwnG.kept h hg) | 3 => .val (.slice p n cp) | 4 => .val (.int .i64 (k : Int)) | 5 => .val (.slice p k cp) | 6 => .val (HV x) | 7 => .of (fun w v_ => RdG HE w v_ ([x])) (fun _ _ _ hg h => RdG.kept h hg) | 8 | 9 => .of (fun w v_ => RdG HE w v_ (P ++ [x])) (fun _ _ _ hg h => RdG.kept h hg) | 10 => .val (.bool true) | _ => .free) i_) by dsimp only; split <;> first | exact (fun _ _ _ h => h) | exact absurd rfl h2 | exact absurd h1 (by decide) | exact absurd h3 (by decide +kernel)) w1 w2 x_ h_) ?_ ?_
      · refine AllFrom.cons (fun a' w' hg hk hd => ?_) (AllFrom.cons (fun a' w' hg hk hd => ?_) (AllFrom.cons (fun a' w' hg hk hd => ?_) (AllFrom.cons (fun a' w' hg hk hd => ?_) (AllFrom.cons (fun a' w' hg hk hd => ?_) (AllFrom.cons (fun a' w' hg hk hd => ?_) (AllFrom.cons (fun a' w' hg hk hd => ?_) (AllFrom.cons (fun a' w' hg hk hd => ?_) (AllFrom.cons (fun a' w' hg hk hd => ?_) (AllFrom.cons (fun a' w' hg hk hd => ?_) (AllFrom.cons (fun a' w' hg hk hd => ?_) AllFrom.nil))))))))))
        · skip
          refine ⟨fun h => absurd h (by decide), fun _ => ?_⟩
          intro Q
          have hb0 := build0H w'
          exact wp_grow _ _ (by simp only [execOp, List.map_toArray, List.map_nil, hb0, Sem.run_bind, Sem.run_pure, Result.andThen_ok]) ((Below.refl _ _).alloc (Nat.le_refl _) _) (KS_mko rfl ⟨_, rfl, ownG_none w' M 30 (by have := hg.size; have := HMw.out; omega)⟩)
        · skip
          refine ⟨fun h => absurd h (by decide), fun _ => ?_⟩
          intro Q
          have e9 : a'.eval (.tmp 9) = .slice pa np pc := hk.at 9 (by decide +kernel)
          exact wp_value _ (by simp only [execOp, e9]; rfl) (KS_mkv rfl rfl)
        · skip
          refine ⟨fun h => absurd h (by decide), fun _ => ?_⟩
          intro Q
          have r55 := KS_of (hd.val 0 55 (by decide +kernel)) rfl
          have e56 : a'.eval (.tmp 56) = .slice pa np pc := KS_val (hd.val 1 56 (by decide +kernel)) rfl
          obtain ⟨g, f55, ho8⟩ := r55
          rw [f55] at ho8
          obtain ⟨v2, w6, hr6, O6, G6⟩ := run_append_own w' M 22 22 22 g ho8 _ (P) (RP.out.kept hg) (by have := HPn.out; omega) Tryd.underlying22 Tryd.underlying22
          exact wp_append_grow f55 e56 hr6 G6 (KS_mko rfl O6)
        · skip
          refine ⟨fun h => absurd h (by decide), fun _ => ?_⟩
          intro Q
          have e0 : a'.eval (.tmp 0) = .slice p n cp := hk.at 0 (by decide +kernel)
          exact wp_value _ (by simp only [execOp, e0]; rfl) (KS_mkv rfl rfl)
        · skip
          refine ⟨fun h => absurd h (by decide), fun _ => ?_⟩
          intro Q
          have e6 : a'.eval (.tmp 6) = .int .i64 (k : Int) := hk.at 6 (by decide +kernel)
          exact wp_value _ (by simp only [execOp, e6]; rfl) (KS_mkv rfl rfl)
        · skip
          refine ⟨fun h => absurd h (by decide), fun _ => ?_⟩
          intro Q
          have e58 : a'.eval (.tmp 58) = .slice p n cp := KS_val (hd.val 3 58 (by decide +kernel)) rfl
          have e59 : a'.eval (.tmp 59) = .int .i64 (k : Int) := KS_val (hd.val 4 59 (by decide +kernel)) rfl
          exact wp_value _ (by simp only [execOp, e58, e59, hs1, Sem.run_bind, Result.andThen_ok, Option.map_none, Option.map_some]; rfl) (KS_mkv rfl rfl)
        · skip
          refine ⟨fun h => absurd h (by decide), fun _ => ?_⟩
          intro Q
          have e60 : a'.eval (.tmp 60) = .slice p k cp := KS_val (hd.val 5 60 (by decide +kernel)) rfl
          refine wp_call 22 _ (run_enter 22 _ _ rfl (by kernel_rfl)) ?_
          simp only [List.map_toArray, List.map_nil, List.map_cons, e60]
          have CC := nroot_any (L.take k) _ w' (RS.out.kept hg)
          rw [HX.out] at CC
          refine (CC).mono ?_
          rintro e w5 ⟨rfl, hb5⟩
          exact ⟨_, rfl, KS_mkv rfl rfl, hb5⟩
        · skip
          refine ⟨fun h => absurd h (by decide), fun _ => ?_⟩
          intro Q
          have e61 : a'.eval (.tmp 61) = HV x := KS_val (hd.val 6 61 (by decide +kernel)) rfl
          obtain ⟨w9, hr9, hg9, hrd9⟩ := hash_new w' x
          exact wp_grow _ w9 (by simp only [execOp, List.map_toArray, List.map_cons, List.map_nil, e61, hr9, Sem.run_bind, Sem.run_pure, Result.andThen_ok]) hg9 (KS_mko rfl hrd9)
        · skip
          refine ⟨fun _ => ⟨rfl, fun Q => ?_⟩, fun h => absurd rfl h⟩
          have r57 := KS_of (hd.val 2 57 (by decide +kernel)) rfl
          have r62 := KS_of (hd.val 7 62 (by decide +kernel)) rfl
          obtain ⟨v2, w6, hr6, O6, G6, H6⟩ := append_own r57 r62 (by have := HPn.out; simp; omega) (by have := hg.size; have := HMw.out; omega)
          refine wp_append10 _ _ _ _ rfl rfl rfl hr6 ⟨v2, rfl, KS_mko rfl O6.rd, ?_⟩
          have hc6 : Chg (fun k => M ≤ k) w' w6 := Chg.of_grown G6 (fun k hk _ => (r57.block hk).1)
          rw [HMw.out]
          exact hc6.below (by have := hg.size; have := HMw.out; omega) (fun k hk h => by omega)
        · skip
          refine ⟨fun h => absurd h (by decide), fun _ => ?_⟩
          intro Q
          have r63 := KS_of (hd.val 8 63 (by decide +kernel)) rfl
          exact wp_value (a'.eval (.tmp 63)) (by simp only [execOp]; rfl) (KS_mko rfl r63)
        · skip
          refine ⟨fun h => absurd h (by decide), fun _ => ?_⟩
          intro Q
          exact wp_value _ (by simp only [execOp]; rfl) (KS_mkv rfl rfl)
      intro a' w9 hsz hdf hk hall hg
      have r4 : RdG HE w9 (a'.eval (.tmp 4)) (P ++ [x]) := KS_of (hall 9 _ 4 rfl rfl rfl) rfl
      have e5 : a'.eval (.tmp 5) = .bool true := KS_val (hall 10 _ 5 rfl rfl rfl) rfl
      have hd0 : a'.defers = [] := hdf
      have hL9 : Below w.heap.size w w9 := LM.out.trans (Below.mono hg LM.out.size)
      clear hall hk hsz hdf
      go_wp2_with fail
      obtain ⟨a9, c9, h9⟩ := r4.slice
      refine bodyPost_ret (results_tmp2 rfl _ _ _) hd0 ⟨⟨a9, (P ++ [x]).length, c9, ?_, ?_⟩, hL9⟩
      · have h4 : a'.tmps.getD 4 undef = _ := h9
        have h5 : a'.tmps.getD 5 undef = _ := e5
        rw [h4, h5]
      · rw [← h9, HPR.out]
        rw [HP.out, HX.out]
        exact r4
  · rw [if_neg hi, decide_eq_false hi]
    go_enter Tryd.func12, Tryd.ntmps12
    by_cases q1 : i < 0
    · go_wp2_with fail
      refine bodyPost_ret (results_tmp2 rfl _ _ _) rfl ?_
      exact ⟨⟨none, 0, 0, rfl, RdG_nil _⟩, Below.refl _ _⟩
    · have q2 : (n : Int) ≤ i := by omega
      clear hi
      go_wp2_with fail
      refine bodyPost_ret (results_tmp2 rfl _ _ _) rfl ?_
      exact ⟨⟨none, 0, 0, rfl, RdG_nil _⟩, Below.refl _ _⟩
theorem xpath_any : ∀ f, f ≤ 40 → XPathAt f
  | 0, h => xpath_step 0 h (fun d hd => by omega)
  | f + 1, h => xpath_step (f + 1) h (fun d hd => by
    have : d = f := by omega
    subst this
    exact xpath_any d (by omega))
#print axioms xpath_any
end Go.Proofs.YtfclmjfbcmjfbaaDoor
