/-
  The reference's two: what the call does.
-/
import Derived.Test.YtfclmjfbcmjfbaaDoorPfM
namespace Go.Proofs.YtfclmjfbcmjfbaaDoor
open Go.RowKit
/-- What the reference's two is said to do, of a tree of that height. -/
def XTwoAt (f : Nat) : Prop := ∀ (x : Hs) (m n : Nat) (pv : Value) (p : List Hs) (wh : Bool) (w : World), 1 ≤ m → m ≤ n → n ≤ 2 ^ f → n ≤ 1099511627776 → RdG HE w pv p →
  Calls Tryd.prog 34 #[HV x, .int .i64 (m : Int), .int .i64 (n : Int), pv, .bool wh] w fun e w' => e = .returned (.tuple #[HV (twoR f x m n p wh).1, HV (twoR f x m n p wh).2.1, .bool (twoR f x m n p wh).2.2]) ∧ Below w.heap.size w w'
theorem twoR_stop (f n : Nat) (a : Hs) (p : List Hs) (wh : Bool) : twoR f a n n p wh = (if wh = true then (a, a, decide (p.length = 0)) else if p.length = 1 then (p.getD 0 zh, p.getD 0 zh, true) else (zh, zh, false)) := by
  cases f with
  | zero => rfl
  | succ f => rw [twoR, if_pos rfl]
set_option maxHeartbeats 8000000 in
set_option maxRecDepth 100000 in
theorem xtwo_step (f : Nat) (ih : ∀ d, f = d + 1 → XTwoAt d) : XTwoAt f := by
  intro x m n pv p wh w hm0 hmn hlf hn hP
  have IH := hide ih
  have RP := hide hP
  obtain ⟨pa, cp, rfl⟩ := hP.slice
  have hcp := hP.cap
  obtain ⟨np, HNP⟩ : ∃ n, Hid (p.length = n) := ⟨_, rfl⟩
  rw [HNP.out] at RP hcp ⊢
  have hmax := hP.max
  obtain ⟨N, HNw⟩ : ∃ N, Hid (w.heap.size = N) := ⟨_, rfl⟩
  clear hP ih
  go_enter Tryd.func34, Tryd.ntmps34
  go_upto_region 1 with fail
  obtain ⟨w0, hw0⟩ : ∃ z, z = ((w.alloc (.cells (By x.1).toArray 30 (0, 0))).alloc (.cells (By zh.1).toArray 30 (0, 0))).alloc (.cells (By zh.1).toArray 30 (0, 0)) := ⟨_, rfl⟩
  change Code.wp _ _ _ _ (((w.alloc (.cells (By x.1).toArray 30 (0, 0))).alloc (.cells (By zh.1).toArray 30 (0, 0))).alloc (.cells (By zh.1).toArray 30 (0, 0)))
  rw [← hw0, HNw.out]
  obtain ⟨b0, b1, b2, ln⟩ := boxes9 HNw hw0
  have B0 := hide b0
  have B1 := hide b1
  have B2 := hide b2
  have LN := hide ln
  have S0 : Hid (N + 1 + 1 < w0.heap.size) := b2.lt
  have R0 := hide (RP.out.kept (show Below w.heap.size w w0 by rw [HNw.out]; exact ln))
  clear hw0 b0 b1 b2 ln
  by_cases h1 : m = n
  · subst h1
    have HPR0 := hide (twoR_stop f m x p wh)
    clear hlf IH
    cases wh with
    | true =>
      obtain ⟨z0, HZ0⟩ : ∃ z, Hid (decide (np = 0) = z) := ⟨_, rfl⟩
      have HPR : Hid (twoR f x m m p true = (x, x, z0)) := (show _ = _ by rw [HPR0.out, if_pos rfl, HNP.out, HZ0.out])
      have q0 : ((np : Int) == 0) = z0 := by rw [← HZ0.out]; by_cases h : np = 0 <;> simp [h]
      clear HZ0 HPR0
      go_upto_region 3 with fail
      refine pivots_by (jl_wp Tryd.mixed) (fun i_ => match i_ with | 0 | 1 => HV x | 2 => .slice pa np cp | 3 => .int .i64 (np : Int) | 4 => .bool z0 | 5 | 6 => undef | _ => undef) (fun b_ w' => Blk w' (N + 1) 30 (By (if 1 ≤ b_ then x else zh).1) ∧ Blk w' (N + 1 + 1) 30 (By (if 2 ≤ b_ then x else zh).1) ∧ Chg (fun k => k = N + 1 ∨ k = N + 1 + 1) w0 w') [5, 6] 100 rfl (by decide +kernel) 7 (by decide) (by decide) (by decide) (by decide +kernel) (by decide +kernel) ?_ ?_ ?_
      · intro w' hh hg
        exact ⟨by simpa using B1.out.kept hg, by simpa using B2.out.kept hg, Chg.of_below hg⟩
      · refine AllFrom.cons ⟨rfl, ?_, ?_⟩ (AllFrom.cons ⟨rfl, ?_, ?_⟩ (AllFrom.cons ⟨rfl, ?_, ?_⟩ (AllFrom.cons ⟨rfl, ?_, ?_⟩ (AllFrom.cons ⟨rfl, ?_, ?_⟩ (AllFrom.cons ⟨rfl, ?_, ?_⟩ (AllFrom.cons ⟨rfl, ?_, ?_⟩ AllFrom.nil))))))
        · intro _ a' b' w' hC hk hd Q
          have e5 : a'.eval (.tmp 5) = .pointer (some ⟨N, 0, none⟩) := hk.at 5 (by decide +kernel)
          exact wp_sameRow 30 _ rfl _ _ e5 (By x.1) _ (B0.out.chg hC.2.2 (by omega)).range0 Tryd.underlying30 rfl (Tryd.sizeH _) hC
        · intro j hj; exact absurd hj (pv_no (by decide) _)
        · intro _ a' b' w' hC hk hd Q
          have e5 : a'.eval (.tmp 5) = .pointer (some ⟨N, 0, none⟩) := hk.at 5 (by decide +kernel)
          exact wp_sameRow 30 _ rfl _ _ e5 (By x.1) _ (B0.out.chg hC.2.2 (by omega)).range0 Tryd.underlying30 rfl (Tryd.sizeH _) hC
        · intro j hj; exact absurd hj (pv_no (by decide) _)
        · intro _ a' b' w' hC hk hd Q
          have e3 : a'.eval (.tmp 3) = .slice pa np cp := hk.at 3 (by decide +kernel)
          exact wp_same _ (by simp only [execOp, e3]; rfl) hC
        · intro j hj; exact absurd hj (pv_no (by decide) _)
        · intro _ a' b' w' hC hk hd Q
          have e27 : a'.eval (.tmp 27) = .slice pa np cp := hd 2 27 (by decide +kernel)
          exact wp_same _ (by clear hd hk hC; simp only [execOp, resolve, invoke, builtin, Sem.run_bind, Sem.run_pure, Result.andThen_ok, List.map_toArray, List.map_cons, List.map_nil, e27]; go_simp) hC
        · intro j hj; exact absurd hj (pv_no (by decide) _)
        · intro _ a' b' w' hC hk hd Q
          have e28 : a'.eval (.tmp 28) = .int .i64 (np : Int) := hd 3 28 (by decide +kernel)
          exact wp_same _ (by clear hd hk hC; simp only [execOp, e28]; go_simp) hC
        · intro j hj; exact absurd hj (pv_no (by decide) _)
        · intro h; exact absurd (by decide) h
        · intro j hj
          obtain rfl : j = 0 := pv_at (by decide) rfl hj
          refine ⟨rfl, fun a' w' hC hk hd Q => ?_⟩
          have e10 : a'.eval (.tmp 10) = .pointer (some ⟨N + 1, 0, none⟩) := hk.at 10 (by decide +kernel)
          have e25 : a'.eval (.tmp 25) = HV x := hd 0 25 (by decide +kernel)
          obtain ⟨hC1, hC2, hC3⟩ := hC
          have hD1 : Blk w' (N + 1) 30 (By zh.1) := by simpa using hC1
          have hD2 : Blk w' (N + 1 + 1) 30 (By zh.1) := by simpa using hC2
          refine wp_store_blk 30 _ _ rfl (N + 1) (By zh.1) (By x.1) 30 e10 e25 hD1 (by rw [By_len, By_len]) (Tryd.sizeH x) (By_one _) ?_
          intro w4 hb4 hu4
          exact ⟨rfl, by simpa using hb4, by simpa using hD2.but hu4 (by omega), hC3.trans (Chg.of_but hu4 (.inl rfl))⟩
        · intro h; exact absurd (by decide) h
        · intro j hj
          obtain rfl : j = 1 := pv_at (by decide) rfl hj
          refine ⟨rfl, fun a' w' hC hk hd Q => ?_⟩
          have e11 : a'.eval (.tmp 11) = .pointer (some ⟨N + 1 + 1, 0, none⟩) := hk.at 11 (by decide +kernel)
          have e26 : a'.eval (.tmp 26) = HV x := hd 1 26 (by decide +kernel)
          obtain ⟨hC1, hC2, hC3⟩ := hC
          have hD1 : Blk w' (N + 1) 30 (By x.1) := by simpa using hC1
          have hD2 : Blk w' (N + 1 + 1) 30 (By zh.1) := by simpa using hC2
          refine wp_store_blk 30 _ _ rfl (N + 1 + 1) (By zh.1) (By x.1) 30 e11 e26 hD2 (by rw [By_len, By_len]) (Tryd.sizeH x) (By_one _) ?_
          intro w4 hb4 hu4
          exact ⟨rfl, by simpa using hD1.but hu4 (by omega), by simpa using hb4, hC3.trans (Chg.of_but hu4 (.inr rfl))⟩
      · intro a' w9 hsz hdf hk hall hC
        obtain ⟨hC1, hC2, hC3⟩ := hC
        have hD1 : Blk w9 (N + 1) 30 (By x.1) := by simpa using hC1
        have hD2 : Blk w9 (N + 1 + 1) 30 (By x.1) := by simpa using hC2
        have e25 : a'.eval (.tmp 25) = HV x := hall 0 _ 25 (by decide) rfl rfl
        have e26 : a'.eval (.tmp 26) = HV x := hall 1 _ 26 (by decide) rfl rfl
        have e27 : a'.eval (.tmp 27) = .slice pa np cp := hall 2 _ 27 (by decide) rfl rfl
        have e28 : a'.eval (.tmp 28) = .int .i64 (np : Int) := hall 3 _ 28 (by decide) rfl rfl
        have e29 : a'.eval (.tmp 29) = .bool z0 := hall 4 _ 29 (by decide) rfl rfl
        obtain ⟨z12, e12⟩ : ∃ v, a'.eval (.tmp 12) = v := ⟨_, rfl⟩
        refine ⟨rfl, ?_⟩
        refine ⟨_, rfl, ?_⟩
        show Exit.then _ _ Exit.normal (a'.put (some 12) (a'.eval (.tmp 29))) w9
        rw [e29]
        have ha := act_puts 100 rfl hsz hdf hk.all [25, 26, 27, 28, 29, 12] (by decide +kernel)
        simp only [puts, List.foldl_cons, List.foldl_nil, e25, e26, e27, e28, e29, e12] at ha
        simp only [Act.put, List.setIfInBounds_toArray, List.set_cons_succ, List.set_cons_zero] at ha
        clear hall hk hsz hdf hC1 hC2 e25 e26 e27 e28 e29 e12
        subst ha
        simp only [Act.put, List.setIfInBounds_toArray, List.set_cons_succ, List.set_cons_zero]
        go_wp2_with fail
        refine bodyPost_ret (results_hhb rfl _ _ (N + 1) (N + 1 + 1) 30 (By x.1) (By x.1) (.bool z0) rfl rfl rfl hD1 hD2 Tryd.underlying30 rfl (Tryd.sizeH x) (Tryd.sizeH x)) rfl ⟨by rw [HPR.out]; rfl, ?_⟩
        rw [HNw.out]
        exact LN.out.trans (hC3.below (by have := S0.out; omega) (fun k hk h => by omega))
    | false =>
      by_cases hp1 : np = 1
      · subst hp1
        have q0 : ((1 : Int) == 1) = true := rfl
        obtain ⟨b, off, rfl, hlb, hx9⟩ := R0.out.nth (by omega)
        have hpl : 0 < p.length := by rw [HNP.out]; omega
        have hrl0 : w0.rangeAt b (off + 0 * 32) (By p[0].1) := hx9 0 hpl
        have hrl : w0.rangeAt b off (By p[0].1) := by simpa using hrl0
        have HGD : Hid (p.getD 0 zh = p[0]) := (show _ = _ by simp [List.getD, List.getElem?_eq_getElem hpl])
        generalize p[0] = l at hrl HGD
        have HPR : Hid (twoR f x m m p false = (l, l, true)) := (show _ = _ by rw [HPR0.out, if_neg (by simp), if_pos HNP.out, HGD.out])
        have hbN : b < N := by
          have := RP.out.inB_lt (b := b) ⟨off, 1, cp, rfl, by omega⟩
          rw [HNw.out] at this
          exact this
        have hbw : b < w0.heap.size := hlb
        clear hrl0 hx9 hpl HGD HPR0 hlb
        go_upto_region 6 with fail
        refine pivots_by (jl_wp Tryd.mixed) (fun i_ => match i_ with | 0 | 3 => .slice (some ⟨b, off, none⟩) 1 cp | 1 | 4 => .pointer (some ⟨b, off, none⟩) | 2 | 5 => HV l | 6 | 7 => undef | _ => undef) (fun b_ w' => Blk w' (N + 1) 30 (By (if 1 ≤ b_ then l else zh).1) ∧ Blk w' (N + 1 + 1) 30 (By (if 2 ≤ b_ then l else zh).1) ∧ Chg (fun k => k = N + 1 ∨ k = N + 1 + 1) w0 w') [6, 7] 100 rfl (by decide +kernel) 8 (by decide) (by decide) (by decide) (by decide +kernel) (by decide +kernel) ?_ ?_ ?_
        · intro w' hh hg
          exact ⟨by simpa using B1.out.kept hg, by simpa using B2.out.kept hg, Chg.of_below hg⟩
        · refine AllFrom.cons ⟨rfl, ?_, ?_⟩ (AllFrom.cons ⟨rfl, ?_, ?_⟩ (AllFrom.cons ⟨rfl, ?_, ?_⟩ (AllFrom.cons ⟨rfl, ?_, ?_⟩ (AllFrom.cons ⟨rfl, ?_, ?_⟩ (AllFrom.cons ⟨rfl, ?_, ?_⟩ (AllFrom.cons ⟨rfl, ?_, ?_⟩ (AllFrom.cons ⟨rfl, ?_, ?_⟩ AllFrom.nil)))))))
          · intro _ a' b' w' hC hk hd Q
            have e3 : a'.eval (.tmp 3) = .slice (some ⟨b, off, none⟩) 1 cp := hk.at 3 (by decide +kernel)
            exact wp_same _ (by simp only [execOp, e3]; rfl) hC
          · intro j hj; exact absurd hj (pv_no (by decide) _)
          · intro _ a' b' w' hC hk hd Q
            have e35 : a'.eval (.tmp 35) = .slice (some ⟨b, off, none⟩) 1 cp := hd 0 35 (by decide +kernel)
            exact wp_same _ (by clear hd hk hC; simp only [execOp, e35]; go_simp) hC
          · intro j hj; exact absurd hj (pv_no (by decide) _)
          · intro _ a' b' w' hC hk hd Q
            have e36 : a'.eval (.tmp 36) = .pointer (some ⟨b, off, none⟩) := hd 1 36 (by decide +kernel)
            exact wp_sameRow 30 _ rfl _ _ e36 (By l.1) _ (fun j u hj => (hC.2.2.cellAt hbw (by omega)).trans (hrl j u hj)) Tryd.underlying30 rfl (Tryd.sizeH _) hC
          · intro j hj; exact absurd hj (pv_no (by decide) _)
          · intro _ a' b' w' hC hk hd Q
            have e3 : a'.eval (.tmp 3) = .slice (some ⟨b, off, none⟩) 1 cp := hk.at 3 (by decide +kernel)
            exact wp_same _ (by simp only [execOp, e3]; rfl) hC
          · intro j hj; exact absurd hj (pv_no (by decide) _)
          · intro _ a' b' w' hC hk hd Q
            have e38 : a'.eval (.tmp 38) = .slice (some ⟨b, off, none⟩) 1 cp := hd 3 38 (by decide +kernel)
            exact wp_same _ (by clear hd hk hC; simp only [execOp, e38]; go_simp) hC
          · intro j hj; exact absurd hj (pv_no (by decide) _)
          · intro _ a' b' w' hC hk hd Q
            have e39 : a'.eval (.tmp 39) = .pointer (some ⟨b, off, none⟩) := hd 4 39 (by decide +kernel)
            exact wp_sameRow 30 _ rfl _ _ e39 (By l.1) _ (fun j u hj => (hC.2.2.cellAt hbw (by omega)).trans (hrl j u hj)) Tryd.underlying30 rfl (Tryd.sizeH _) hC
          · intro j hj; exact absurd hj (pv_no (by decide) _)
          · intro h; exact absurd (by decide) h
          · intro j hj
            obtain rfl : j = 0 := pv_at (by decide) rfl hj
            refine ⟨rfl, fun a' w' hC hk hd Q => ?_⟩
            have e10 : a'.eval (.tmp 10) = .pointer (some ⟨N + 1, 0, none⟩) := hk.at 10 (by decide +kernel)
            have e37 : a'.eval (.tmp 37) = HV l := hd 2 37 (by decide +kernel)
            obtain ⟨hC1, hC2, hC3⟩ := hC
            have hD1 : Blk w' (N + 1) 30 (By zh.1) := by simpa using hC1
            have hD2 : Blk w' (N + 1 + 1) 30 (By zh.1) := by simpa using hC2
            refine wp_store_blk 30 _ _ rfl (N + 1) (By zh.1) (By l.1) 30 e10 e37 hD1 (by rw [By_len, By_len]) (Tryd.sizeH l) (By_one _) ?_
            intro w4 hb4 hu4
            exact ⟨rfl, by simpa using hb4, by simpa using hD2.but hu4 (by omega), hC3.trans (Chg.of_but hu4 (.inl rfl))⟩
          · intro h; exact absurd (by decide) h
          · intro j hj
            obtain rfl : j = 1 := pv_at (by decide) rfl hj
            refine ⟨rfl, fun a' w' hC hk hd Q => ?_⟩
            have e11 : a'.eval (.tmp 11) = .pointer (some ⟨N + 1 + 1, 0, none⟩) := hk.at 11 (by decide +kernel)
            have e40 : a'.eval (.tmp 40) = HV l := hd 5 40 (by decide +kernel)
            obtain ⟨hC1, hC2, hC3⟩ := hC
            have hD1 : Blk w' (N + 1) 30 (By l.1) := by simpa using hC1
            have hD2 : Blk w' (N + 1 + 1) 30 (By zh.1) := by simpa using hC2
            refine wp_store_blk 30 _ _ rfl (N + 1 + 1) (By zh.1) (By l.1) 30 e11 e40 hD2 (by rw [By_len, By_len]) (Tryd.sizeH l) (By_one _) ?_
            intro w4 hb4 hu4
            exact ⟨rfl, by simpa using hD1.but hu4 (by omega), by simpa using hb4, hC3.trans (Chg.of_but hu4 (.inr rfl))⟩
        · intro a' w9 hsz hdf hk hall hC
          obtain ⟨hC1, hC2, hC3⟩ := hC
          have hD1 : Blk w9 (N + 1) 30 (By l.1) := by simpa using hC1
          have hD2 : Blk w9 (N + 1 + 1) 30 (By l.1) := by simpa using hC2
          have e35 : a'.eval (.tmp 35) = .slice (some ⟨b, off, none⟩) 1 cp := hall 0 _ 35 (by decide) rfl rfl
          have e36 : a'.eval (.tmp 36) = .pointer (some ⟨b, off, none⟩) := hall 1 _ 36 (by decide) rfl rfl
          have e37 : a'.eval (.tmp 37) = HV l := hall 2 _ 37 (by decide) rfl rfl
          have e38 : a'.eval (.tmp 38) = .slice (some ⟨b, off, none⟩) 1 cp := hall 3 _ 38 (by decide) rfl rfl
          have e39 : a'.eval (.tmp 39) = .pointer (some ⟨b, off, none⟩) := hall 4 _ 39 (by decide) rfl rfl
          have e40 : a'.eval (.tmp 40) = HV l := hall 5 _ 40 (by decide) rfl rfl
          obtain ⟨z12, e12⟩ : ∃ v, a'.eval (.tmp 12) = v := ⟨_, rfl⟩
          refine ⟨rfl, ?_⟩
          refine ⟨_, rfl, ?_⟩
          show Exit.then _ _ Exit.normal (a'.put (some 12) (.bool true)) w9
          have ha := act_puts 100 rfl hsz hdf hk.all [35, 36, 37, 38, 39, 40, 12] (by decide +kernel)
          simp only [puts, List.foldl_cons, List.foldl_nil, e35, e36, e37, e38, e39, e40, e12] at ha
          simp only [Act.put, List.setIfInBounds_toArray, List.set_cons_succ, List.set_cons_zero] at ha
          clear hall hk hsz hdf hC1 hC2 e35 e36 e37 e38 e39 e40 e12
          subst ha
          simp only [Act.put, List.setIfInBounds_toArray, List.set_cons_succ, List.set_cons_zero]
          go_wp2_with fail
          refine bodyPost_ret (results_hhb rfl _ _ (N + 1) (N + 1 + 1) 30 (By l.1) (By l.1) (.bool true) rfl rfl rfl hD1 hD2 Tryd.underlying30 rfl (Tryd.sizeH l) (Tryd.sizeH l)) rfl ⟨by rw [HPR.out]; rfl, ?_⟩
          rw [HNw.out]
          exact LN.out.trans (hC3.below (by have := S0.out; omega) (fun k hk h => by omega))
      · have q0 : ((np : Int) == 1) = false := by simp; omega
        have HPR : Hid (twoR f x m m p false = (zh, zh, false)) := (show _ = _ by rw [HPR0.out, if_neg (by simp), if_neg (by rw [HNP.out]; exact hp1)])
        clear HPR0
        go_wp2_with (first
          | (refine wpList_store_blk rfl 30 _ _ rfl (N + 1) (By zh.1) (By zh.1) 30 rfl rfl B1.out (by rw [By_len]) (Tryd.sizeH zh) (By_one _) ?_; intro w2 hb2 hu2)
          | (refine wpList_store_blk rfl 30 _ _ rfl (N + 1 + 1) (By zh.1) (By zh.1) 30 rfl rfl (B2.out.but hu2 (by omega)) (by rw [By_len]) (Tryd.sizeH zh) (By_one _) ?_; intro w3 hb3 hu3)
          | fail)
        refine bodyPost_ret (results_hhb rfl _ _ (N + 1) (N + 1 + 1) 30 (By zh.1) (By zh.1) (.bool false) rfl rfl rfl (hb2.but hu3 (by omega)) hb3 Tryd.underlying30 rfl (Tryd.sizeH zh) (Tryd.sizeH zh)) rfl ⟨by rw [HPR.out]; rfl, ?_⟩
        rw [HNw.out]
        exact (LN.out.trans (hu2.below (by omega) (by have := S0.out; omega))).trans (hu3.below (by omega) (by have := hb2.lt; have := hu2.size; have := S0.out; omega))
  have h2 : 2 ≤ n := by omega
  have q3 : ((m : Int) == (n : Int)) = false := by simp; omega
  obtain ⟨d, hfd⟩ := pow_two_pos h2 hlf
  by_cases hp0 : np = 0
  · have HPR : Hid (twoR f x m n p wh = (zh, zh, false)) := (show _ = _ by rw [hfd, twoR, if_neg h1, if_pos (by rw [HNP.out]; exact hp0)])
    have q : ((np : Int) == 0) = true := by simp; omega
    go_wp2_with (first
      | (refine wpList_store_blk rfl 30 _ _ rfl (N + 1) (By zh.1) (By zh.1) 30 rfl rfl B1.out (by rw [By_len]) (Tryd.sizeH zh) (By_one _) ?_; intro w2 hb2 hu2)
      | (refine wpList_store_blk rfl 30 _ _ rfl (N + 1 + 1) (By zh.1) (By zh.1) 30 rfl rfl (B2.out.but hu2 (by omega)) (by rw [By_len]) (Tryd.sizeH zh) (By_one _) ?_; intro w3 hb3 hu3)
      | fail)
    refine bodyPost_ret (results_hhb rfl _ _ (N + 1) (N + 1 + 1) 30 (By zh.1) (By zh.1) (.bool false) rfl rfl rfl (hb2.but hu3 (by omega)) hb3 Tryd.underlying30 rfl (Tryd.sizeH zh) (Tryd.sizeH zh)) rfl ⟨by rw [HPR.out]; rfl, ?_⟩
    rw [HNw.out]
    exact (LN.out.trans (hu2.below (by omega) (by have := S0.out; omega))).trans (hu3.below (by omega) (by have := hb2.lt; have := hu2.size; have := S0.out; omega))
  have q5 : ((np : Int) == 0) = false := by simp; omega
  have hlf2 := hlf
  rw [hfd] at hlf2
  have ks := spl_le h2 hlf2
  have kl := spl_lt h2
  have kp := spl_pos h2
  have kg := spl_ge h2
  have CS := nsplit_any (n : Int) (by omega) w0
  rw [Int.toNat_natCast] at CS
  obtain ⟨k, HK⟩ : ∃ k, Hid (spl n = k) := ⟨_, rfl⟩
  rw [HK.out] at CS ks kl kp kg
  have HCS := hide CS
  have HFD := hide hfd
  have HKP1 : Hid (k ≤ 2 ^ d) := ks
  have HKP2 : Hid (n - k ≤ 2 ^ d) := (show n - k ≤ 2 ^ d by omega)
  obtain ⟨n1, HN1⟩ : ∃ n1, Hid (np - 1 = n1) := ⟨_, rfl⟩
  have hn1 : (np : Int) - 1 = (n1 : Int) := by have := HN1.out; omega
  have hnn : n1 < np := by have := HN1.out; omega
  have hnq : (n1 : Int) < (np : Int) := by omega
  obtain ⟨b, off, rfl, hlb, hx9⟩ := R0.out.nth (by omega)
  have hpl : n1 < p.length := by rw [HNP.out]; exact hnn
  have hrl : w0.rangeAt b (off + n1 * 32) (By p[n1].1) := hx9 n1 hpl
  have HGD : Hid (p.getD (p.length - 1) zh = p[n1]) := (show _ = _ by
    have e1 : p.length - 1 = n1 := by rw [HNP.out]; exact HN1.out
    rw [e1]
    simp [List.getD, List.getElem?_eq_getElem hpl])
  generalize p[n1] = l at hrl HGD
  obtain ⟨hs1, hs1r⟩ := slice_G_to (E := HE) (P := Tryd.prog) Tryd.underlying22 Tryd.size30 (some ⟨b, off, none⟩) np cp n1 (by omega) hcp
  have HS1 := hide hs1r
  have HDL : Hid (p.take n1 = p.dropLast) := (show _ = _ by rw [List.dropLast_eq_take, HNP.out, HN1.out])
  clear hlf hlf2 CS ks hfd hx9 hs1r hpl
  have BEn := Blk.new w0 30 (By zh.1)
  obtain ⟨E, HEw⟩ : ∃ E, Hid (w0.heap.size = E) := ⟨_, rfl⟩
  rw [HEw.out] at BEn
  have hNE : N + 1 + 1 < E := by rw [← HEw.out]; exact S0.out
  go_wp2_with fail
  refine HCS.out.mono ?_
  rintro e w1 ⟨rfl, hw1⟩
  subst w1
  by_cases hik : m ≤ k
  · have q4 : (m : Int) ≤ (k : Int) := by omega
    go_upto_region 12 with (first
      | (refine wpList_load_mid rfl 30 _ rfl b (off + n1 * 32) rfl (By l.1) _ hrl Tryd.underlying30 rfl (Tryd.sizeH l) ?_)
      | (rw [HEw.out]; refine wpList_store_blk rfl 30 _ _ rfl E (By zh.1) (By l.1) 30 rfl rfl BEn (by rw [By_len, By_len]) (Tryd.sizeH l) (By_one _) ?_; intro w1 hb1 hu1)
      | fail)
    have G0 : Hid (Below w0.heap.size w0 w1) := ((Below.refl _ _).alloc (Nat.le_refl _) _).trans (hu1.below (by rw [HEw.out]; exact Nat.le_refl _) (by simp))
    have BE1 := hide hb1
    have BA1 := hide (B0.out.kept G0.out)
    have B11 := hide (B1.out.kept G0.out)
    have B21 := hide (B2.out.kept G0.out)
    have L1 : Hid (Below N w w1) := LN.out.trans (G0.out.mono (by have := S0.out; omega))
    have S1 : Hid (N ≤ w1.heap.size) := (show N ≤ w1.heap.size by have := G0.out.size; have := S0.out; omega)
    have RQ : Hid (RdG HE w1 (.slice (some ⟨b, off, none⟩) n1 cp) p.dropLast) := (show RdG _ _ _ _ by rw [← HDL.out]; exact HS1.out w1 p (R0.out.kept G0.out))
    obtain ⟨y1, y2, ok, HYO⟩ : ∃ y1 y2 ok, Hid (twoR d x m k p.dropLast wh = (y1, y2, ok)) := ⟨_, _, _, rfl⟩
    have HCI : Hid (∀ w2, RdG HE w2 (.slice (some ⟨b, off, none⟩) n1 cp) p.dropLast → Calls Tryd.prog 34 #[HV x, .int .i64 (m : Int), .int .i64 (k : Int), .slice (some ⟨b, off, none⟩) n1 cp, .bool wh] w2 fun e w' => e = .returned (.tuple #[HV y1, HV y2, .bool ok]) ∧ Below w2.heap.size w2 w') := (fun w2 hr => by
      have := IH.out d HFD.out x m k _ p.dropLast wh w2 hm0 hik HKP1.out (by omega) hr
      rw [HYO.out] at this
      exact this)
    obtain ⟨v2, HV2⟩ : ∃ z, Hid (nd y2 l = z) := ⟨_, rfl⟩
    have HPR : Hid (twoR f x m n p wh = (y1, v2, ok)) := (show _ = _ by
      rw [HFD.out, twoR, if_neg h1, if_neg (by rw [HNP.out]; exact hp0), HK.out, HGD.out, if_pos hik, HYO.out, HV2.out])
    clear hb1 hu1 BEn hrl
    refine wp_region_cells Tryd.mixed (KS (fun i_ => match i_ with | 0 => .val (HV x) | 1 => .val (.int .i64 (m : Int)) | 2 => .val (.int .i64 (k : Int)) | 3 | 4 => .val (.slice (some ⟨b, off, none⟩) np cp) | 5 => .val (.int .i64 (np : Int)) | 6 => .val (.int .i64 (n1 : Int)) | 7 => .val (.slice (some ⟨b, off, none⟩) n1 cp) | 8 => .val (.bool wh) | 9 | 10 => .val (.tuple #[HV y1, HV y2, .bool ok]) | 11 => .val (HV y1) | 12 => .val (HV y2) | 13 | 18 => .val (.bool ok) | _ => .free)) [⟨14, 15, 16, 30, By zh.1, By y1.1⟩, ⟨15, 16, 17, 30, By zh.1, By y2.1⟩] 100 rfl (by decide +kernel) (KS_mono_val _ (fun i => by split <;> exact fun _ _ _ h => h)) (by intro c hc c' hc' e; simp only [List.mem_cons, List.not_mem_nil, or_false] at hc hc'; rcases hc with rfl | rfl <;> rcases hc' with rfl | rfl <;> first | rfl | (simp at e)) (by intro c hc c' hc' e; simp only [List.mem_cons, List.not_mem_nil, or_false] at hc hc'; rcases hc with rfl | rfl <;> rcases hc' with rfl | rfl <;> first | rfl | (simp at e)) (by intro c hc; simp only [List.mem_cons, List.not_mem_nil, or_false] at hc; rcases hc with rfl | rfl <;> rfl) ?_ ?_
    · refine AllFrom.cons ?_ (AllFrom.cons ?_ (AllFrom.cons ?_ (AllFrom.cons ?_ (AllFrom.cons ?_ (AllFrom.cons ?_ (AllFrom.cons ?_ (AllFrom.cons ?_ (AllFrom.cons ?_ (AllFrom.cons ?_ (AllFrom.cons ?_ (AllFrom.cons ?_ (AllFrom.cons ?_ (AllFrom.cons ?_ (AllFrom.cons ?_ (AllFrom.cons ?_ (AllFrom.cons ?_ (AllFrom.cons ?_ (AllFrom.cons ?_ AllFrom.nil))))))))))))))))))
      · skip
        refine .val rfl (notI rfl) (notS rfl) (fun a' w' hb hk hd Q => ?_)
        have e5 : a'.eval (.tmp 5) = .pointer (some ⟨N, 0, none⟩) := hk.at 5 (by decide +kernel)
        exact wp_load_row 30 _ rfl _ _ e5 (By (x).1) _ ((BA1.out.kept hb).range0) Tryd.underlying30 rfl (Tryd.sizeH _) (KS_mkv rfl rfl)
      · skip
        refine .val rfl (notI rfl) (notS rfl) (fun a' w' hb hk hd Q => ?_)
        have e1 : a'.eval (.tmp 1) = .int .i64 (m : Int) := hk.at 1 (by decide +kernel)
        exact wp_value _ (by simp only [execOp, e1]; rfl) (KS_mkv rfl rfl)
      · skip
        refine .val rfl (notI rfl) (notS rfl) (fun a' w' hb hk hd Q => ?_)
        have e13 : a'.eval (.tmp 13) = .int .i64 (k : Int) := hk.at 13 (by decide +kernel)
        exact wp_value _ (by simp only [execOp, e13]; rfl) (KS_mkv rfl rfl)
      · skip
        refine .val rfl (notI rfl) (notS rfl) (fun a' w' hb hk hd Q => ?_)
        have e3 : a'.eval (.tmp 3) = .slice (some ⟨b, off, none⟩) np cp := hk.at 3 (by decide +kernel)
        exact wp_value _ (by simp only [execOp, e3]; rfl) (KS_mkv rfl rfl)
      · skip
        refine .val rfl (notI rfl) (notS rfl) (fun a' w' hb hk hd Q => ?_)
        have e3 : a'.eval (.tmp 3) = .slice (some ⟨b, off, none⟩) np cp := hk.at 3 (by decide +kernel)
        exact wp_value _ (by simp only [execOp, e3]; rfl) (KS_mkv rfl rfl)
      · skip
        refine .val rfl (notI rfl) (notS rfl) (fun a' w' hb hk hd Q => ?_)
        have e62 : a'.eval (.tmp 62) = .slice (some ⟨b, off, none⟩) np cp := KS_val (hd 4 62 (by decide +kernel) (notI rfl)) rfl
        clear hd hk
        exact wp_value (.int .i64 (np : Int)) (by simp only [execOp, resolve, invoke, builtin, Sem.run_bind, Sem.run_pure, Result.andThen_ok, List.map_toArray, List.map_cons, List.map_nil, e62]; go_simp) (KS_mkv rfl rfl)
      · skip
        refine .val rfl (notI rfl) (notS rfl) (fun a' w' hb hk hd Q => ?_)
        have e63 : a'.eval (.tmp 63) = .int .i64 (np : Int) := KS_val (hd 5 63 (by decide +kernel) (notI rfl)) rfl
        clear hd hk
        have hw : IntKind.i64.wrap (n1 : Int) = (n1 : Int) := wr64 (by omega) (by omega)
        have hq : (np : Int) - 1 = (n1 : Int) := hn1
        exact wp_value (.int .i64 (n1 : Int)) (by simp only [execOp, e63]; go_simp) (KS_mkv rfl rfl)
      · skip
        refine .val rfl (notI rfl) (notS rfl) (fun a' w' hb hk hd Q => ?_)
        have e61 : a'.eval (.tmp 61) = .slice (some ⟨b, off, none⟩) np cp := KS_val (hd 3 61 (by decide +kernel) (notI rfl)) rfl
        have e64 : a'.eval (.tmp 64) = .int .i64 (n1 : Int) := KS_val (hd 6 64 (by decide +kernel) (notI rfl)) rfl
        exact wp_value _ (by simp only [execOp, e61, e64, hs1, Sem.run_bind, Result.andThen_ok, Option.map_none, Option.map_some]; rfl) (KS_mkv rfl rfl)
      · skip
        refine .val rfl (notI rfl) (notS rfl) (fun a' w' hb hk hd Q => ?_)
        have e4 : a'.eval (.tmp 4) = .bool wh := hk.at 4 (by decide +kernel)
        exact wp_value _ (by simp only [execOp, e4]; rfl) (KS_mkv rfl rfl)
      · skip
        refine .val rfl (notI rfl) (notS rfl) (fun a' w' hb hk hd Q => ?_)
        have e58 : a'.eval (.tmp 58) = HV x := KS_val (hd 0 58 (by decide +kernel) (notI rfl)) rfl
        have e59 : a'.eval (.tmp 59) = .int .i64 (m : Int) := KS_val (hd 1 59 (by decide +kernel) (notI rfl)) rfl
        have e60 : a'.eval (.tmp 60) = .int .i64 (k : Int) := KS_val (hd 2 60 (by decide +kernel) (notI rfl)) rfl
        have e65 : a'.eval (.tmp 65) = .slice (some ⟨b, off, none⟩) n1 cp := KS_val (hd 7 65 (by decide +kernel) (notI rfl)) rfl
        have e66 : a'.eval (.tmp 66) = .bool wh := KS_val (hd 8 66 (by decide +kernel) (notI rfl)) rfl
        have CC := HCI.out w' (RQ.out.kept (show Below w1.heap.size w1 w' from hb))
        refine wp_call 34 _ (run_enter 34 _ _ rfl (by kernel_rfl)) ?_
        simp only [List.map_toArray, List.map_nil, List.map_cons, e58, e59, e60, e65, e66]
        refine CC.mono ?_
        rintro e w5 ⟨rfl, hb5⟩
        exact ⟨_, rfl, KS_mkv rfl rfl, hb5⟩
      · skip
        refine .val rfl (notI rfl) (notS rfl) (fun a' w' hb hk hd Q => ?_)
        have e67 : a'.eval (.tmp 67) = .tuple #[HV y1, HV y2, .bool ok] := KS_val (hd 9 67 (by decide +kernel) (notI rfl)) rfl
        exact wp_value _ (by simp only [execOp, e67]; rfl) (KS_mkv rfl rfl)
      · skip
        refine .val rfl (notI rfl) (notS rfl) (fun a' w' hb hk hd Q => ?_)
        have e57 : a'.eval (.tmp 57) = .tuple #[HV y1, HV y2, .bool ok] := KS_val (hd 10 57 (by decide +kernel) (notI rfl)) rfl
        clear hd hk
        exact wp_value (HV y1) (by simp only [execOp, e57]; go_simp) (KS_mkv rfl rfl)
      · skip
        refine .val rfl (notI rfl) (notS rfl) (fun a' w' hb hk hd Q => ?_)
        have e57 : a'.eval (.tmp 57) = .tuple #[HV y1, HV y2, .bool ok] := KS_val (hd 10 57 (by decide +kernel) (notI rfl)) rfl
        clear hd hk
        exact wp_value (HV y2) (by simp only [execOp, e57]; go_simp) (KS_mkv rfl rfl)
      · skip
        refine .val rfl (notI rfl) (notS rfl) (fun a' w' hb hk hd Q => ?_)
        have e57 : a'.eval (.tmp 57) = .tuple #[HV y1, HV y2, .bool ok] := KS_val (hd 10 57 (by decide +kernel) (notI rfl)) rfl
        clear hd hk
        exact wp_value (.bool ok) (by simp only [execOp, e57]; go_simp) (KS_mkv rfl rfl)
      · skip
        refine .new rfl _ (List.Mem.head _) rfl (notS rfl) rfl (fun a' w' => ?_)
        simp only [execOp]; go_simp; rfl
      · skip
        refine .new rfl _ (List.Mem.tail _ (List.Mem.head _)) rfl (notS rfl) rfl (fun a' w' => ?_)
        simp only [execOp]; go_simp; rfl
      · skip
        refine .put rfl _ (List.Mem.head _) (notI rfl) rfl rfl (.tmp 68) rfl (by kernel_rfl) (fun a' w' hb hk hd => ?_) (by rw [By_len, By_len]) (Tryd.sizeH y1) (By_one _)
        have e68 : a'.eval (.tmp 68) = HV y1 := KS_val (hd 11 68 (by decide +kernel) (notI rfl)) rfl
        exact e68
      · skip
        refine .put rfl _ (List.Mem.tail _ (List.Mem.head _)) (notI rfl) rfl rfl (.tmp 69) rfl (by kernel_rfl) (fun a' w' hb hk hd => ?_) (by rw [By_len, By_len]) (Tryd.sizeH y2) (By_one _)
        have e69 : a'.eval (.tmp 69) = HV y2 := KS_val (hd 12 69 (by decide +kernel) (notI rfl)) rfl
        exact e69
      · skip
        refine .val rfl (notI rfl) (notS rfl) (fun a' w' hb hk hd Q => ?_)
        have e70 : a'.eval (.tmp 70) = .bool ok := KS_val (hd 13 70 (by decide +kernel) (notI rfl)) rfl
        exact wp_value _ (by simp only [execOp, e70]; rfl) (KS_mkv rfl rfl)
    intro a' w3 hsz hdf hk hall hb3 hBB
    obtain ⟨BF, hB1, -⟩ := hBB
    obtain ⟨E12, hl12, BH⟩ := hB1 _ (List.Mem.head _) (show (14 : Nat) < 19 by decide) (show (16 : Nat) < 19 by decide)
    obtain ⟨E13, hl13, BG⟩ := hB1 _ (List.Mem.tail _ (List.Mem.head _)) (show (15 : Nat) < 19 by decide) (show (17 : Nat) < 19 by decide)
    simp only at E12 hl12 BH E13 hl13 BG
    clear hB1
    generalize BF 14 = eh at E12 hl12 BH
    generalize BF 15 = eg at E13 hl13 BG
    have e58 : a'.eval (.tmp 58) = HV x := KS_val (hall 0 _ 58 rfl (notI rfl) rfl) rfl
    have e59 : a'.eval (.tmp 59) = .int .i64 (m : Int) := KS_val (hall 1 _ 59 rfl (notI rfl) rfl) rfl
    have e60 : a'.eval (.tmp 60) = .int .i64 (k : Int) := KS_val (hall 2 _ 60 rfl (notI rfl) rfl) rfl
    have e61 : a'.eval (.tmp 61) = .slice (some ⟨b, off, none⟩) np cp := KS_val (hall 3 _ 61 rfl (notI rfl) rfl) rfl
    have e62 : a'.eval (.tmp 62) = .slice (some ⟨b, off, none⟩) np cp := KS_val (hall 4 _ 62 rfl (notI rfl) rfl) rfl
    have e63 : a'.eval (.tmp 63) = .int .i64 (np : Int) := KS_val (hall 5 _ 63 rfl (notI rfl) rfl) rfl
    have e64 : a'.eval (.tmp 64) = .int .i64 (n1 : Int) := KS_val (hall 6 _ 64 rfl (notI rfl) rfl) rfl
    have e65 : a'.eval (.tmp 65) = .slice (some ⟨b, off, none⟩) n1 cp := KS_val (hall 7 _ 65 rfl (notI rfl) rfl) rfl
    have e66 : a'.eval (.tmp 66) = .bool wh := KS_val (hall 8 _ 66 rfl (notI rfl) rfl) rfl
    have e67 : a'.eval (.tmp 67) = .tuple #[HV y1, HV y2, .bool ok] := KS_val (hall 9 _ 67 rfl (notI rfl) rfl) rfl
    have e57 : a'.eval (.tmp 57) = .tuple #[HV y1, HV y2, .bool ok] := KS_val (hall 10 _ 57 rfl (notI rfl) rfl) rfl
    have e68 : a'.eval (.tmp 68) = HV y1 := KS_val (hall 11 _ 68 rfl (notI rfl) rfl) rfl
    have e69 : a'.eval (.tmp 69) = HV y2 := KS_val (hall 12 _ 69 rfl (notI rfl) rfl) rfl
    have e70 : a'.eval (.tmp 70) = .bool ok := KS_val (hall 13 _ 70 rfl (notI rfl) rfl) rfl
    have e17 : a'.eval (.tmp 17) = .bool ok := KS_val (hall 18 _ 17 rfl (notI rfl) rfl) rfl
    have ha := act_puts 100 rfl hsz hdf hk [58, 59, 60, 61, 62, 63, 64, 65, 66, 67, 57, 68, 69, 70, 15, 16, 17] (by decide +kernel)
    simp only [puts, List.foldl_cons, List.foldl_nil, e58, e59, e60, e61, e62, e63, e64, e65, e66, e67, e57, e68, e69, e70, E12, E13, e17] at ha
    simp only [Act.put, List.setIfInBounds_toArray, List.set_cons_succ, List.set_cons_zero] at ha
    clear hall hk hsz hdf e58 e59 e60 e61 e62 e63 e64 e65 e66 e67 e57 e68 e69 e70 E12 E13 e17
    subst ha
    have BX3 := hide BH
    have BY3 := hide BG
    have BE3 := hide (BE1.out.kept hb3)
    have B13 := hide (B11.out.kept hb3)
    have B23 := hide (B21.out.kept hb3)
    have L3 : Hid (Below N w w3) := L1.out.trans (Below.mono hb3 S1.out)
    have S3 : Hid (N ≤ w3.heap.size) := Nat.le_trans S1.out hb3.size
    have nh : N + 1 + 1 < eh := Nat.lt_of_lt_of_le B21.out.lt hl12
    have ng : N + 1 + 1 < eg := Nat.lt_of_lt_of_le B21.out.lt hl13
    clear hb3 BH BG hl12 hl13
    go_upto_region 13 with fail
    refine pivots_by (jl_wp Tryd.mixed) (fun i_ => match i_ with | 0 => HV y1 | 1 => HV y2 | 2 => HV l | 3 => HV v2 | 4 => .bool ok | 5 | 6 => undef | _ => undef) (fun b_ w' => Blk w' (N + 1) 30 (By (if 1 ≤ b_ then y1 else zh).1) ∧ Blk w' (N + 1 + 1) 30 (By (if 2 ≤ b_ then v2 else zh).1) ∧ Chg (fun k => k = N + 1 ∨ k = N + 1 + 1) w3 w') [5, 6] 100 rfl (by decide +kernel) 7 (by decide) (by decide) (by decide) (by decide +kernel) (by decide +kernel) ?_ ?_ ?_
    · intro w' hh hg
      exact ⟨by simpa using B13.out.kept hg, by simpa using B23.out.kept hg, Chg.of_below hg⟩
    · refine AllFrom.cons ⟨rfl, ?_, ?_⟩ (AllFrom.cons ⟨rfl, ?_, ?_⟩ (AllFrom.cons ⟨rfl, ?_, ?_⟩ (AllFrom.cons ⟨rfl, ?_, ?_⟩ (AllFrom.cons ⟨rfl, ?_, ?_⟩ (AllFrom.cons ⟨rfl, ?_, ?_⟩ (AllFrom.cons ⟨rfl, ?_, ?_⟩ AllFrom.nil))))))
      · intro _ a' b' w' hC hk hd Q
        have e15 : a'.eval (.tmp 15) = .pointer (some ⟨eh, 0, none⟩) := hk.at 15 (by decide +kernel)
        exact wp_sameRow 30 _ rfl _ _ e15 (By y1.1) _ (BX3.out.chg hC.2.2 (by omega)).range0 Tryd.underlying30 rfl (Tryd.sizeH _) hC
      · intro j hj; exact absurd hj (pv_no (by decide) _)
      · intro _ a' b' w' hC hk hd Q
        have e16 : a'.eval (.tmp 16) = .pointer (some ⟨eg, 0, none⟩) := hk.at 16 (by decide +kernel)
        exact wp_sameRow 30 _ rfl _ _ e16 (By y2.1) _ (BY3.out.chg hC.2.2 (by omega)).range0 Tryd.underlying30 rfl (Tryd.sizeH _) hC
      · intro j hj; exact absurd hj (pv_no (by decide) _)
      · intro _ a' b' w' hC hk hd Q
        have e14 : a'.eval (.tmp 14) = .pointer (some ⟨E, 0, none⟩) := hk.at 14 (by decide +kernel)
        exact wp_sameRow 30 _ rfl _ _ e14 (By l.1) _ (BE3.out.chg hC.2.2 (by omega)).range0 Tryd.underlying30 rfl (Tryd.sizeH _) hC
      · intro j hj; exact absurd hj (pv_no (by decide) _)
      · intro _ a' b' w' hC hk hd Q
        have e72 : a'.eval (.tmp 72) = HV y2 := hd 1 72 (by decide +kernel)
        have e73 : a'.eval (.tmp 73) = HV l := hd 2 73 (by decide +kernel)
        refine wp_callC 23 _ (HV v2) (run_enter 23 _ _ rfl (by kernel_rfl)) ?_
        simp only [List.map_toArray, List.map_nil, List.map_cons, e72, e73]
        refine (rnode_any y2 l w').mono ?_
        rintro e w5 ⟨rfl, hb5⟩
        exact ⟨by rw [HV2.out], hC.1.kept hb5, hC.2.1.kept hb5, hC.2.2.trans (Chg.of_below hb5)⟩
      · intro j hj; exact absurd hj (pv_no (by decide) _)
      · intro _ a' b' w' hC hk hd Q
        have e17 : a'.eval (.tmp 17) = .bool ok := hk.at 17 (by decide +kernel)
        exact wp_same _ (by simp only [execOp, e17]; rfl) hC
      · intro j hj; exact absurd hj (pv_no (by decide) _)
      · intro h; exact absurd (by decide) h
      · intro j hj
        obtain rfl : j = 0 := pv_at (by decide) rfl hj
        refine ⟨rfl, fun a' w' hC hk hd Q => ?_⟩
        have e10 : a'.eval (.tmp 10) = .pointer (some ⟨N + 1, 0, none⟩) := hk.at 10 (by decide +kernel)
        have e71 : a'.eval (.tmp 71) = HV y1 := hd 0 71 (by decide +kernel)
        obtain ⟨hC1, hC2, hC3⟩ := hC
        have hD1 : Blk w' (N + 1) 30 (By zh.1) := by simpa using hC1
        have hD2 : Blk w' (N + 1 + 1) 30 (By zh.1) := by simpa using hC2
        refine wp_store_blk 30 _ _ rfl (N + 1) (By zh.1) (By y1.1) 30 e10 e71 hD1 (by rw [By_len, By_len]) (Tryd.sizeH y1) (By_one _) ?_
        intro w4 hb4 hu4
        exact ⟨rfl, by simpa using hb4, by simpa using hD2.but hu4 (by omega), hC3.trans (Chg.of_but hu4 (.inl rfl))⟩
      · intro h; exact absurd (by decide) h
      · intro j hj
        obtain rfl : j = 1 := pv_at (by decide) rfl hj
        refine ⟨rfl, fun a' w' hC hk hd Q => ?_⟩
        have e11 : a'.eval (.tmp 11) = .pointer (some ⟨N + 1 + 1, 0, none⟩) := hk.at 11 (by decide +kernel)
        have e74 : a'.eval (.tmp 74) = HV v2 := hd 3 74 (by decide +kernel)
        obtain ⟨hC1, hC2, hC3⟩ := hC
        have hD1 : Blk w' (N + 1) 30 (By y1.1) := by simpa using hC1
        have hD2 : Blk w' (N + 1 + 1) 30 (By zh.1) := by simpa using hC2
        refine wp_store_blk 30 _ _ rfl (N + 1 + 1) (By zh.1) (By v2.1) 30 e11 e74 hD2 (by rw [By_len, By_len]) (Tryd.sizeH v2) (By_one _) ?_
        intro w4 hb4 hu4
        exact ⟨rfl, by simpa using hD1.but hu4 (by omega), by simpa using hb4, hC3.trans (Chg.of_but hu4 (.inr rfl))⟩
    · intro a' w9 hsz hdf hk hall hC
      obtain ⟨hC1, hC2, hC3⟩ := hC
      have hD1 : Blk w9 (N + 1) 30 (By y1.1) := by simpa using hC1
      have hD2 : Blk w9 (N + 1 + 1) 30 (By v2.1) := by simpa using hC2
      have e71 : a'.eval (.tmp 71) = HV y1 := hall 0 _ 71 (by decide) rfl rfl
      have e72 : a'.eval (.tmp 72) = HV y2 := hall 1 _ 72 (by decide) rfl rfl
      have e73 : a'.eval (.tmp 73) = HV l := hall 2 _ 73 (by decide) rfl rfl
      have e74 : a'.eval (.tmp 74) = HV v2 := hall 3 _ 74 (by decide) rfl rfl
      have e75 : a'.eval (.tmp 75) = .bool ok := hall 4 _ 75 (by decide) rfl rfl
      obtain ⟨z12, e12⟩ : ∃ v, a'.eval (.tmp 12) = v := ⟨_, rfl⟩
      refine ⟨rfl, ?_⟩
      refine ⟨_, rfl, ?_⟩
      show Exit.then _ _ Exit.normal (a'.put (some 12) (a'.eval (.tmp 75))) w9
      rw [e75]
      have ha := act_puts 100 rfl hsz hdf hk.all [71, 72, 73, 74, 75, 12] (by decide +kernel)
      simp only [puts, List.foldl_cons, List.foldl_nil, e71, e72, e73, e74, e75, e12] at ha
      simp only [Act.put, List.setIfInBounds_toArray, List.set_cons_succ, List.set_cons_zero] at ha
      clear hall hk hsz hdf hC1 hC2 e71 e72 e73 e74 e75 e12
      subst ha
      simp only [Act.put, List.setIfInBounds_toArray, List.set_cons_succ, List.set_cons_zero]
      go_wp2_with fail
      refine bodyPost_ret (results_hhb rfl _ _ (N + 1) (N + 1 + 1) 30 (By y1.1) (By v2.1) (.bool ok) rfl rfl rfl hD1 hD2 Tryd.underlying30 rfl (Tryd.sizeH y1) (Tryd.sizeH v2)) rfl ⟨by rw [HPR.out]; rfl, ?_⟩
      rw [HNw.out]
      exact L3.out.trans (hC3.below (by have := S3.out; omega) (fun k hk h => by omega))
  · have q4 : decide ((m : Int) ≤ (k : Int)) = false := decide_eq_false (by omega)
    go_upto_region 14 with (first
      | (refine wpList_load_mid rfl 30 _ rfl b (off + n1 * 32) rfl (By l.1) _ hrl Tryd.underlying30 rfl (Tryd.sizeH l) ?_)
      | (rw [HEw.out]; refine wpList_store_blk rfl 30 _ _ rfl E (By zh.1) (By l.1) 30 rfl rfl BEn (by rw [By_len, By_len]) (Tryd.sizeH l) (By_one _) ?_; intro w1 hb1 hu1)
      | fail)
    have G0 : Hid (Below w0.heap.size w0 w1) := ((Below.refl _ _).alloc (Nat.le_refl _) _).trans (hu1.below (by rw [HEw.out]; exact Nat.le_refl _) (by simp))
    have BE1 := hide hb1
    have BA1 := hide (B0.out.kept G0.out)
    have B11 := hide (B1.out.kept G0.out)
    have B21 := hide (B2.out.kept G0.out)
    have L1 : Hid (Below N w w1) := LN.out.trans (G0.out.mono (by have := S0.out; omega))
    have S1 : Hid (N ≤ w1.heap.size) := (show N ≤ w1.heap.size by have := G0.out.size; have := S0.out; omega)
    have RQ : Hid (RdG HE w1 (.slice (some ⟨b, off, none⟩) n1 cp) p.dropLast) := (show RdG _ _ _ _ by rw [← HDL.out]; exact HS1.out w1 p (R0.out.kept G0.out))
    obtain ⟨mk, HMK⟩ : ∃ z, Hid (m - k = z) := ⟨_, rfl⟩
    obtain ⟨nk, HNK⟩ : ∃ z, Hid (n - k = z) := ⟨_, rfl⟩
    have hmk : (m : Int) - (k : Int) = (mk : Int) := by have := HMK.out; omega
    have hnk : (n : Int) - (k : Int) = (nk : Int) := by have := HNK.out; omega
    have hmk1 : 1 ≤ mk ∧ mk ≤ nk ∧ nk ≤ n := by have := HMK.out; have := HNK.out; omega
    obtain ⟨y1, y2, ok, HYO⟩ : ∃ y1 y2 ok, Hid (twoR d x mk nk p.dropLast false = (y1, y2, ok)) := ⟨_, _, _, rfl⟩
    have HCI : Hid (∀ w2, RdG HE w2 (.slice (some ⟨b, off, none⟩) n1 cp) p.dropLast → Calls Tryd.prog 34 #[HV x, .int .i64 (mk : Int), .int .i64 (nk : Int), .slice (some ⟨b, off, none⟩) n1 cp, .bool false] w2 fun e w' => e = .returned (.tuple #[HV y1, HV y2, .bool ok]) ∧ Below w2.heap.size w2 w') := (fun w2 hr => by
      have := IH.out d HFD.out x mk nk _ p.dropLast false w2 hmk1.1 hmk1.2.1 (by rw [← HNK.out]; exact HKP2.out) (by omega) hr
      rw [HYO.out] at this
      exact this)
    obtain ⟨v1, HV1⟩ : ∃ z, Hid (nd l y1 = z) := ⟨_, rfl⟩
    obtain ⟨v2, HV2⟩ : ∃ z, Hid (nd l y2 = z) := ⟨_, rfl⟩
    have HPR : Hid (twoR f x m n p wh = (v1, v2, ok)) := (show _ = _ by
      rw [HFD.out, twoR, if_neg h1, if_neg (by rw [HNP.out]; exact hp0), HK.out, HGD.out, if_neg hik, HMK.out, HNK.out, HYO.out, HV1.out, HV2.out])
    clear hb1 hu1 BEn hrl
    refine wp_region_cells Tryd.mixed (KS (fun i_ => match i_ with | 0 => .val (HV x) | 1 => .val (.int .i64 (m : Int)) | 2 | 5 => .val (.int .i64 (k : Int)) | 3 => .val (.int .i64 (mk : Int)) | 4 => .val (.int .i64 (n : Int)) | 6 => .val (.int .i64 (nk : Int)) | 7 | 8 => .val (.slice (some ⟨b, off, none⟩) np cp) | 9 => .val (.int .i64 (np : Int)) | 10 => .val (.int .i64 (n1 : Int)) | 11 => .val (.slice (some ⟨b, off, none⟩) n1 cp) | 12 | 13 => .val (.tuple #[HV y1, HV y2, .bool ok]) | 14 => .val (HV y1) | 15 => .val (HV y2) | 16 | 21 => .val (.bool ok) | _ => .free)) [⟨17, 18, 19, 30, By zh.1, By y1.1⟩, ⟨18, 19, 20, 30, By zh.1, By y2.1⟩] 100 rfl (by decide +kernel) (KS_mono_val _ (fun i => by split <;> exact fun _ _ _ h => h)) (by intro c hc c' hc' e; simp only [List.mem_cons, List.not_mem_nil, or_false] at hc hc'; rcases hc with rfl | rfl <;> rcases hc' with rfl | rfl <;> first | rfl | (simp at e)) (by intro c hc c' hc' e; simp only [List.mem_cons, List.not_mem_nil, or_false] at hc hc'; rcases hc with rfl | rfl <;> rcases hc' with rfl | rfl <;> first | rfl | (simp at e)) (by intro c hc; simp only [List.mem_cons, List.not_mem_nil, or_false] at hc; rcases hc with rfl | rfl <;> rfl) ?_ ?_
    · refine AllFrom.cons ?_ (AllFrom.cons ?_ (AllFrom.cons ?_ (AllFrom.cons ?_ (AllFrom.cons ?_ (AllFrom.cons ?_ (AllFrom.cons ?_ (AllFrom.cons ?_ (AllFrom.cons ?_ (AllFrom.cons ?_ (AllFrom.cons ?_ (AllFrom.cons ?_ (AllFrom.cons ?_ (AllFrom.cons ?_ (AllFrom.cons ?_ (AllFrom.cons ?_ (AllFrom.cons ?_ (AllFrom.cons ?_ (AllFrom.cons ?_ (AllFrom.cons ?_ (AllFrom.cons ?_ (AllFrom.cons ?_ AllFrom.nil)))))))))))))))))))))
      · skip
        refine .val rfl (notI rfl) (notS rfl) (fun a' w' hb hk hd Q => ?_)
        have e5 : a'.eval (.tmp 5) = .pointer (some ⟨N, 0, none⟩) := hk.at 5 (by decide +kernel)
        exact wp_load_row 30 _ rfl _ _ e5 (By (x).1) _ ((BA1.out.kept hb).range0) Tryd.underlying30 rfl (Tryd.sizeH _) (KS_mkv rfl rfl)
      · skip
        refine .val rfl (notI rfl) (notS rfl) (fun a' w' hb hk hd Q => ?_)
        have e1 : a'.eval (.tmp 1) = .int .i64 (m : Int) := hk.at 1 (by decide +kernel)
        exact wp_value _ (by simp only [execOp, e1]; rfl) (KS_mkv rfl rfl)
      · skip
        refine .val rfl (notI rfl) (notS rfl) (fun a' w' hb hk hd Q => ?_)
        have e13 : a'.eval (.tmp 13) = .int .i64 (k : Int) := hk.at 13 (by decide +kernel)
        exact wp_value _ (by simp only [execOp, e13]; rfl) (KS_mkv rfl rfl)
      · skip
        refine .val rfl (notI rfl) (notS rfl) (fun a' w' hb hk hd Q => ?_)
        have e78 : a'.eval (.tmp 78) = .int .i64 (m : Int) := KS_val (hd 1 78 (by decide +kernel) (notI rfl)) rfl
        have e79 : a'.eval (.tmp 79) = .int .i64 (k : Int) := KS_val (hd 2 79 (by decide +kernel) (notI rfl)) rfl
        clear hd hk
        have hw : IntKind.i64.wrap (mk : Int) = (mk : Int) := wr64 (by omega) (by omega)
        have hq := hmk
        exact wp_value (.int .i64 (mk : Int)) (by simp only [execOp, e78, e79]; go_simp) (KS_mkv rfl rfl)
      · skip
        refine .val rfl (notI rfl) (notS rfl) (fun a' w' hb hk hd Q => ?_)
        have e2 : a'.eval (.tmp 2) = .int .i64 (n : Int) := hk.at 2 (by decide +kernel)
        exact wp_value _ (by simp only [execOp, e2]; rfl) (KS_mkv rfl rfl)
      · skip
        refine .val rfl (notI rfl) (notS rfl) (fun a' w' hb hk hd Q => ?_)
        have e13 : a'.eval (.tmp 13) = .int .i64 (k : Int) := hk.at 13 (by decide +kernel)
        exact wp_value _ (by simp only [execOp, e13]; rfl) (KS_mkv rfl rfl)
      · skip
        refine .val rfl (notI rfl) (notS rfl) (fun a' w' hb hk hd Q => ?_)
        have e81 : a'.eval (.tmp 81) = .int .i64 (n : Int) := KS_val (hd 4 81 (by decide +kernel) (notI rfl)) rfl
        have e82 : a'.eval (.tmp 82) = .int .i64 (k : Int) := KS_val (hd 5 82 (by decide +kernel) (notI rfl)) rfl
        clear hd hk
        have hw : IntKind.i64.wrap (nk : Int) = (nk : Int) := wr64 (by omega) (by omega)
        have hq := hnk
        exact wp_value (.int .i64 (nk : Int)) (by simp only [execOp, e81, e82]; go_simp) (KS_mkv rfl rfl)
      · skip
        refine .val rfl (notI rfl) (notS rfl) (fun a' w' hb hk hd Q => ?_)
        have e3 : a'.eval (.tmp 3) = .slice (some ⟨b, off, none⟩) np cp := hk.at 3 (by decide +kernel)
        exact wp_value _ (by simp only [execOp, e3]; rfl) (KS_mkv rfl rfl)
      · skip
        refine .val rfl (notI rfl) (notS rfl) (fun a' w' hb hk hd Q => ?_)
        have e3 : a'.eval (.tmp 3) = .slice (some ⟨b, off, none⟩) np cp := hk.at 3 (by decide +kernel)
        exact wp_value _ (by simp only [execOp, e3]; rfl) (KS_mkv rfl rfl)
      · skip
        refine .val rfl (notI rfl) (notS rfl) (fun a' w' hb hk hd Q => ?_)
        have e85 : a'.eval (.tmp 85) = .slice (some ⟨b, off, none⟩) np cp := KS_val (hd 8 85 (by decide +kernel) (notI rfl)) rfl
        clear hd hk
        exact wp_value (.int .i64 (np : Int)) (by simp only [execOp, resolve, invoke, builtin, Sem.run_bind, Sem.run_pure, Result.andThen_ok, List.map_toArray, List.map_cons, List.map_nil, e85]; go_simp) (KS_mkv rfl rfl)
      · skip
        refine .val rfl (notI rfl) (notS rfl) (fun a' w' hb hk hd Q => ?_)
        have e86 : a'.eval (.tmp 86) = .int .i64 (np : Int) := KS_val (hd 9 86 (by decide +kernel) (notI rfl)) rfl
        clear hd hk
        have hw : IntKind.i64.wrap (n1 : Int) = (n1 : Int) := wr64 (by omega) (by omega)
        have hq : (np : Int) - 1 = (n1 : Int) := hn1
        exact wp_value (.int .i64 (n1 : Int)) (by simp only [execOp, e86]; go_simp) (KS_mkv rfl rfl)
      · skip
        refine .val rfl (notI rfl) (notS rfl) (fun a' w' hb hk hd Q => ?_)
        have e84 : a'.eval (.tmp 84) = .slice (some ⟨b, off, none⟩) np cp := KS_val (hd 7 84 (by decide +kernel) (notI rfl)) rfl
        have e87 : a'.eval (.tmp 87) = .int .i64 (n1 : Int) := KS_val (hd 10 87 (by decide +kernel) (notI rfl)) rfl
        exact wp_value _ (by simp only [execOp, e84, e87, hs1, Sem.run_bind, Result.andThen_ok, Option.map_none, Option.map_some]; rfl) (KS_mkv rfl rfl)
      · skip
        refine .val rfl (notI rfl) (notS rfl) (fun a' w' hb hk hd Q => ?_)
        have e77 : a'.eval (.tmp 77) = HV x := KS_val (hd 0 77 (by decide +kernel) (notI rfl)) rfl
        have e80 : a'.eval (.tmp 80) = .int .i64 (mk : Int) := KS_val (hd 3 80 (by decide +kernel) (notI rfl)) rfl
        have e83 : a'.eval (.tmp 83) = .int .i64 (nk : Int) := KS_val (hd 6 83 (by decide +kernel) (notI rfl)) rfl
        have e88 : a'.eval (.tmp 88) = .slice (some ⟨b, off, none⟩) n1 cp := KS_val (hd 11 88 (by decide +kernel) (notI rfl)) rfl
        have CC := HCI.out w' (RQ.out.kept (show Below w1.heap.size w1 w' from hb))
        refine wp_call 34 _ (run_enter 34 _ _ rfl (by kernel_rfl)) ?_
        simp only [List.map_toArray, List.map_nil, List.map_cons, e77, e80, e83, e88, show a'.eval (.const (.bool false)) = .bool false from rfl]
        refine CC.mono ?_
        rintro e w5 ⟨rfl, hb5⟩
        exact ⟨_, rfl, KS_mkv rfl rfl, hb5⟩
      · skip
        refine .val rfl (notI rfl) (notS rfl) (fun a' w' hb hk hd Q => ?_)
        have e89 : a'.eval (.tmp 89) = .tuple #[HV y1, HV y2, .bool ok] := KS_val (hd 12 89 (by decide +kernel) (notI rfl)) rfl
        exact wp_value _ (by simp only [execOp, e89]; rfl) (KS_mkv rfl rfl)
      · skip
        refine .val rfl (notI rfl) (notS rfl) (fun a' w' hb hk hd Q => ?_)
        have e76 : a'.eval (.tmp 76) = .tuple #[HV y1, HV y2, .bool ok] := KS_val (hd 13 76 (by decide +kernel) (notI rfl)) rfl
        clear hd hk
        exact wp_value (HV y1) (by simp only [execOp, e76]; go_simp) (KS_mkv rfl rfl)
      · skip
        refine .val rfl (notI rfl) (notS rfl) (fun a' w' hb hk hd Q => ?_)
        have e76 : a'.eval (.tmp 76) = .tuple #[HV y1, HV y2, .bool ok] := KS_val (hd 13 76 (by decide +kernel) (notI rfl)) rfl
        clear hd hk
        exact wp_value (HV y2) (by simp only [execOp, e76]; go_simp) (KS_mkv rfl rfl)
      · skip
        refine .val rfl (notI rfl) (notS rfl) (fun a' w' hb hk hd Q => ?_)
        have e76 : a'.eval (.tmp 76) = .tuple #[HV y1, HV y2, .bool ok] := KS_val (hd 13 76 (by decide +kernel) (notI rfl)) rfl
        clear hd hk
        exact wp_value (.bool ok) (by simp only [execOp, e76]; go_simp) (KS_mkv rfl rfl)
      · skip
        refine .new rfl _ (List.Mem.head _) rfl (notS rfl) rfl (fun a' w' => ?_)
        simp only [execOp]; go_simp; rfl
      · skip
        refine .new rfl _ (List.Mem.tail _ (List.Mem.head _)) rfl (notS rfl) rfl (fun a' w' => ?_)
        simp only [execOp]; go_simp; rfl
      · skip
        refine .put rfl _ (List.Mem.head _) (notI rfl) rfl rfl (.tmp 90) rfl (by kernel_rfl) (fun a' w' hb hk hd => ?_) (by rw [By_len, By_len]) (Tryd.sizeH y1) (By_one _)
        have e90 : a'.eval (.tmp 90) = HV y1 := KS_val (hd 14 90 (by decide +kernel) (notI rfl)) rfl
        exact e90
      · skip
        refine .put rfl _ (List.Mem.tail _ (List.Mem.head _)) (notI rfl) rfl rfl (.tmp 91) rfl (by kernel_rfl) (fun a' w' hb hk hd => ?_) (by rw [By_len, By_len]) (Tryd.sizeH y2) (By_one _)
        have e91 : a'.eval (.tmp 91) = HV y2 := KS_val (hd 15 91 (by decide +kernel) (notI rfl)) rfl
        exact e91
      · skip
        refine .val rfl (notI rfl) (notS rfl) (fun a' w' hb hk hd Q => ?_)
        have e92 : a'.eval (.tmp 92) = .bool ok := KS_val (hd 16 92 (by decide +kernel) (notI rfl)) rfl
        exact wp_value _ (by simp only [execOp, e92]; rfl) (KS_mkv rfl rfl)
    intro a' w3 hsz hdf hk hall hb3 hBB
    obtain ⟨BF, hB1, -⟩ := hBB
    obtain ⟨E12, hl12, BH⟩ := hB1 _ (List.Mem.head _) (show (17 : Nat) < 22 by decide) (show (19 : Nat) < 22 by decide)
    obtain ⟨E13, hl13, BG⟩ := hB1 _ (List.Mem.tail _ (List.Mem.head _)) (show (18 : Nat) < 22 by decide) (show (20 : Nat) < 22 by decide)
    simp only at E12 hl12 BH E13 hl13 BG
    clear hB1
    generalize BF 17 = eh at E12 hl12 BH
    generalize BF 18 = eg at E13 hl13 BG
    have e77 : a'.eval (.tmp 77) = HV x := KS_val (hall 0 _ 77 rfl (notI rfl) rfl) rfl
    have e78 : a'.eval (.tmp 78) = .int .i64 (m : Int) := KS_val (hall 1 _ 78 rfl (notI rfl) rfl) rfl
    have e79 : a'.eval (.tmp 79) = .int .i64 (k : Int) := KS_val (hall 2 _ 79 rfl (notI rfl) rfl) rfl
    have e80 : a'.eval (.tmp 80) = .int .i64 (mk : Int) := KS_val (hall 3 _ 80 rfl (notI rfl) rfl) rfl
    have e81 : a'.eval (.tmp 81) = .int .i64 (n : Int) := KS_val (hall 4 _ 81 rfl (notI rfl) rfl) rfl
    have e82 : a'.eval (.tmp 82) = .int .i64 (k : Int) := KS_val (hall 5 _ 82 rfl (notI rfl) rfl) rfl
    have e83 : a'.eval (.tmp 83) = .int .i64 (nk : Int) := KS_val (hall 6 _ 83 rfl (notI rfl) rfl) rfl
    have e84 : a'.eval (.tmp 84) = .slice (some ⟨b, off, none⟩) np cp := KS_val (hall 7 _ 84 rfl (notI rfl) rfl) rfl
    have e85 : a'.eval (.tmp 85) = .slice (some ⟨b, off, none⟩) np cp := KS_val (hall 8 _ 85 rfl (notI rfl) rfl) rfl
    have e86 : a'.eval (.tmp 86) = .int .i64 (np : Int) := KS_val (hall 9 _ 86 rfl (notI rfl) rfl) rfl
    have e87 : a'.eval (.tmp 87) = .int .i64 (n1 : Int) := KS_val (hall 10 _ 87 rfl (notI rfl) rfl) rfl
    have e88 : a'.eval (.tmp 88) = .slice (some ⟨b, off, none⟩) n1 cp := KS_val (hall 11 _ 88 rfl (notI rfl) rfl) rfl
    have e89 : a'.eval (.tmp 89) = .tuple #[HV y1, HV y2, .bool ok] := KS_val (hall 12 _ 89 rfl (notI rfl) rfl) rfl
    have e76 : a'.eval (.tmp 76) = .tuple #[HV y1, HV y2, .bool ok] := KS_val (hall 13 _ 76 rfl (notI rfl) rfl) rfl
    have e90 : a'.eval (.tmp 90) = HV y1 := KS_val (hall 14 _ 90 rfl (notI rfl) rfl) rfl
    have e91 : a'.eval (.tmp 91) = HV y2 := KS_val (hall 15 _ 91 rfl (notI rfl) rfl) rfl
    have e92 : a'.eval (.tmp 92) = .bool ok := KS_val (hall 16 _ 92 rfl (notI rfl) rfl) rfl
    have e20 : a'.eval (.tmp 20) = .bool ok := KS_val (hall 21 _ 20 rfl (notI rfl) rfl) rfl
    have ha := act_puts 100 rfl hsz hdf hk [77, 78, 79, 80, 81, 82, 83, 84, 85, 86, 87, 88, 89, 76, 90, 91, 92, 18, 19, 20] (by decide +kernel)
    simp only [puts, List.foldl_cons, List.foldl_nil, e77, e78, e79, e80, e81, e82, e83, e84, e85, e86, e87, e88, e89, e76, e90, e91, e92, E12, E13, e20] at ha
    simp only [Act.put, List.setIfInBounds_toArray, List.set_cons_succ, List.set_cons_zero] at ha
    clear hall hk hsz hdf e77 e78 e79 e80 e81 e82 e83 e84 e85 e86 e87 e88 e89 e76 e90 e91 e92 E12 E13 e20
    subst ha
    have BX3 := hide BH
    have BY3 := hide BG
    have BE3 := hide (BE1.out.kept hb3)
    have B13 := hide (B11.out.kept hb3)
    have B23 := hide (B21.out.kept hb3)
    have L3 : Hid (Below N w w3) := L1.out.trans (Below.mono hb3 S1.out)
    have S3 : Hid (N ≤ w3.heap.size) := Nat.le_trans S1.out hb3.size
    have nh : N + 1 + 1 < eh := Nat.lt_of_lt_of_le B21.out.lt hl12
    have ng : N + 1 + 1 < eg := Nat.lt_of_lt_of_le B21.out.lt hl13
    clear hb3 BH BG hl12 hl13
    go_upto_region 15 with fail
    refine pivots_by (jl_wp Tryd.mixed) (fun i_ => match i_ with | 0 | 3 => HV l | 1 => HV y1 | 2 => HV v1 | 4 => HV y2 | 5 => HV v2 | 6 => .bool ok | 7 | 8 => undef | _ => undef) (fun b_ w' => Blk w' (N + 1) 30 (By (if 1 ≤ b_ then v1 else zh).1) ∧ Blk w' (N + 1 + 1) 30 (By (if 2 ≤ b_ then v2 else zh).1) ∧ Chg (fun k => k = N + 1 ∨ k = N + 1 + 1) w3 w') [7, 8] 100 rfl (by decide +kernel) 9 (by decide) (by decide) (by decide) (by decide +kernel) (by decide +kernel) ?_ ?_ ?_
    · intro w' hh hg
      exact ⟨by simpa using B13.out.kept hg, by simpa using B23.out.kept hg, Chg.of_below hg⟩
    · refine AllFrom.cons ⟨rfl, ?_, ?_⟩ (AllFrom.cons ⟨rfl, ?_, ?_⟩ (AllFrom.cons ⟨rfl, ?_, ?_⟩ (AllFrom.cons ⟨rfl, ?_, ?_⟩ (AllFrom.cons ⟨rfl, ?_, ?_⟩ (AllFrom.cons ⟨rfl, ?_, ?_⟩ (AllFrom.cons ⟨rfl, ?_, ?_⟩ (AllFrom.cons ⟨rfl, ?_, ?_⟩ (AllFrom.cons ⟨rfl, ?_, ?_⟩ AllFrom.nil))))))))
      · intro _ a' b' w' hC hk hd Q
        have e14 : a'.eval (.tmp 14) = .pointer (some ⟨E, 0, none⟩) := hk.at 14 (by decide +kernel)
        exact wp_sameRow 30 _ rfl _ _ e14 (By l.1) _ (BE3.out.chg hC.2.2 (by omega)).range0 Tryd.underlying30 rfl (Tryd.sizeH _) hC
      · intro j hj; exact absurd hj (pv_no (by decide) _)
      · intro _ a' b' w' hC hk hd Q
        have e18 : a'.eval (.tmp 18) = .pointer (some ⟨eh, 0, none⟩) := hk.at 18 (by decide +kernel)
        exact wp_sameRow 30 _ rfl _ _ e18 (By y1.1) _ (BX3.out.chg hC.2.2 (by omega)).range0 Tryd.underlying30 rfl (Tryd.sizeH _) hC
      · intro j hj; exact absurd hj (pv_no (by decide) _)
      · intro _ a' b' w' hC hk hd Q
        have e93 : a'.eval (.tmp 93) = HV l := hd 0 93 (by decide +kernel)
        have e94 : a'.eval (.tmp 94) = HV y1 := hd 1 94 (by decide +kernel)
        refine wp_callC 23 _ (HV v1) (run_enter 23 _ _ rfl (by kernel_rfl)) ?_
        simp only [List.map_toArray, List.map_nil, List.map_cons, e93, e94]
        refine (rnode_any l y1 w').mono ?_
        rintro e w5 ⟨rfl, hb5⟩
        exact ⟨by rw [HV1.out], hC.1.kept hb5, hC.2.1.kept hb5, hC.2.2.trans (Chg.of_below hb5)⟩
      · intro j hj; exact absurd hj (pv_no (by decide) _)
      · intro _ a' b' w' hC hk hd Q
        have e14 : a'.eval (.tmp 14) = .pointer (some ⟨E, 0, none⟩) := hk.at 14 (by decide +kernel)
        exact wp_sameRow 30 _ rfl _ _ e14 (By l.1) _ (BE3.out.chg hC.2.2 (by omega)).range0 Tryd.underlying30 rfl (Tryd.sizeH _) hC
      · intro j hj; exact absurd hj (pv_no (by decide) _)
      · intro _ a' b' w' hC hk hd Q
        have e19 : a'.eval (.tmp 19) = .pointer (some ⟨eg, 0, none⟩) := hk.at 19 (by decide +kernel)
        exact wp_sameRow 30 _ rfl _ _ e19 (By y2.1) _ (BY3.out.chg hC.2.2 (by omega)).range0 Tryd.underlying30 rfl (Tryd.sizeH _) hC
      · intro j hj; exact absurd hj (pv_no (by decide) _)
      · intro _ a' b' w' hC hk hd Q
        have e96 : a'.eval (.tmp 96) = HV l := hd 3 96 (by decide +kernel)
        have e97 : a'.eval (.tmp 97) = HV y2 := hd 4 97 (by decide +kernel)
        refine wp_callC 23 _ (HV v2) (run_enter 23 _ _ rfl (by kernel_rfl)) ?_
        simp only [List.map_toArray, List.map_nil, List.map_cons, e96, e97]
        refine (rnode_any l y2 w').mono ?_
        rintro e w5 ⟨rfl, hb5⟩
        exact ⟨by rw [HV2.out], hC.1.kept hb5, hC.2.1.kept hb5, hC.2.2.trans (Chg.of_below hb5)⟩
      · intro j hj; exact absurd hj (pv_no (by decide) _)
      · intro _ a' b' w' hC hk hd Q
        have e20 : a'.eval (.tmp 20) = .bool ok := hk.at 20 (by decide +kernel)
        exact wp_same _ (by simp only [execOp, e20]; rfl) hC
      · intro j hj; exact absurd hj (pv_no (by decide) _)
      · intro h; exact absurd (by decide) h
      · intro j hj
        obtain rfl : j = 0 := pv_at (by decide) rfl hj
        refine ⟨rfl, fun a' w' hC hk hd Q => ?_⟩
        have e10 : a'.eval (.tmp 10) = .pointer (some ⟨N + 1, 0, none⟩) := hk.at 10 (by decide +kernel)
        have e95 : a'.eval (.tmp 95) = HV v1 := hd 2 95 (by decide +kernel)
        obtain ⟨hC1, hC2, hC3⟩ := hC
        have hD1 : Blk w' (N + 1) 30 (By zh.1) := by simpa using hC1
        have hD2 : Blk w' (N + 1 + 1) 30 (By zh.1) := by simpa using hC2
        refine wp_store_blk 30 _ _ rfl (N + 1) (By zh.1) (By v1.1) 30 e10 e95 hD1 (by rw [By_len, By_len]) (Tryd.sizeH v1) (By_one _) ?_
        intro w4 hb4 hu4
        exact ⟨rfl, by simpa using hb4, by simpa using hD2.but hu4 (by omega), hC3.trans (Chg.of_but hu4 (.inl rfl))⟩
      · intro h; exact absurd (by decide) h
      · intro j hj
        obtain rfl : j = 1 := pv_at (by decide) rfl hj
        refine ⟨rfl, fun a' w' hC hk hd Q => ?_⟩
        have e11 : a'.eval (.tmp 11) = .pointer (some ⟨N + 1 + 1, 0, none⟩) := hk.at 11 (by decide +kernel)
        have e98 : a'.eval (.tmp 98) = HV v2 := hd 5 98 (by decide +kernel)
        obtain ⟨hC1, hC2, hC3⟩ := hC
        have hD1 : Blk w' (N + 1) 30 (By v1.1) := by simpa using hC1
        have hD2 : Blk w' (N + 1 + 1) 30 (By zh.1) := by simpa using hC2
        refine wp_store_blk 30 _ _ rfl (N + 1 + 1) (By zh.1) (By v2.1) 30 e11 e98 hD2 (by rw [By_len, By_len]) (Tryd.sizeH v2) (By_one _) ?_
        intro w4 hb4 hu4
        exact ⟨rfl, by simpa using hD1.but hu4 (by omega), by simpa using hb4, hC3.trans (Chg.of_but hu4 (.inr rfl))⟩
    · intro a' w9 hsz hdf hk hall hC
      obtain ⟨hC1, hC2, hC3⟩ := hC
      have hD1 : Blk w9 (N + 1) 30 (By v1.1) := by simpa using hC1
      have hD2 : Blk w9 (N + 1 + 1) 30 (By v2.1) := by simpa using hC2
      have e93 : a'.eval (.tmp 93) = HV l := hall 0 _ 93 (by decide) rfl rfl
      have e94 : a'.eval (.tmp 94) = HV y1 := hall 1 _ 94 (by decide) rfl rfl
      have e95 : a'.eval (.tmp 95) = HV v1 := hall 2 _ 95 (by decide) rfl rfl
      have e96 : a'.eval (.tmp 96) = HV l := hall 3 _ 96 (by decide) rfl rfl
      have e97 : a'.eval (.tmp 97) = HV y2 := hall 4 _ 97 (by decide) rfl rfl
      have e98 : a'.eval (.tmp 98) = HV v2 := hall 5 _ 98 (by decide) rfl rfl
      have e99 : a'.eval (.tmp 99) = .bool ok := hall 6 _ 99 (by decide) rfl rfl
      obtain ⟨z12, e12⟩ : ∃ v, a'.eval (.tmp 12) = v := ⟨_, rfl⟩
      refine ⟨rfl, ?_⟩
      refine ⟨_, rfl, ?_⟩
      show Exit.then _ _ Exit.normal (a'.put (some 12) (a'.eval (.tmp 99))) w9
      rw [e99]
      have ha := act_puts 100 rfl hsz hdf hk.all [93, 94, 95, 96, 97, 98, 99, 12] (by decide +kernel)
      simp only [puts, List.foldl_cons, List.foldl_nil, e93, e94, e95, e96, e97, e98, e99, e12] at ha
      simp only [Act.put, List.setIfInBounds_toArray, List.set_cons_succ, List.set_cons_zero] at ha
      clear hall hk hsz hdf hC1 hC2 e93 e94 e95 e96 e97 e98 e99 e12
      subst ha
      simp only [Act.put, List.setIfInBounds_toArray, List.set_cons_succ, List.set_cons_zero]
      go_wp2_with fail
      refine bodyPost_ret (results_hhb rfl _ _ (N + 1) (N + 1 + 1) 30 (By v1.1) (By v2.1) (.bool ok) rfl rfl rfl hD1 hD2 Tryd.underlying30 rfl (Tryd.sizeH v1) (Tryd.sizeH v2)) rfl ⟨by rw [HPR.out]; rfl, ?_⟩
      rw [HNw.out]
      exact L3.out.trans (hC3.below (by have := S3.out; omega) (fun k hk h => by omega))
theorem xtwo_any : ∀ f, XTwoAt f
  | 0 => xtwo_step 0 (fun d h => by omega)
  | f + 1 => xtwo_step (f + 1) (fun d h => by
      have : d = f := by omega
      rw [this]
      exact xtwo_any f)
#print axioms xtwo_any
end Go.Proofs.YtfclmjfbcmjfbaaDoor
