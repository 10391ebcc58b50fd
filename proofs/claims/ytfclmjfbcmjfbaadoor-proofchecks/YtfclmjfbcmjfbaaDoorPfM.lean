/-
  The reference's climb, Climb and Check: what the calls do.
-/
import Derived.Test.YtfclmjfbcmjfbaaDoorPfK
namespace Go.Proofs.YtfclmjfbcmjfbaaDoor
open Go.RowKit
/-- What the reference's climb is said to do, of a tree of that height. -/
def XClimbAt (f : Nat) : Prop := ∀ (n i : Nat) (x : Hs) (pv : Value) (p : List Hs) (w : World), i < n → n ≤ 2 ^ f → n ≤ 1099511627776 → RdG HE w pv p →
  Calls Tryd.prog 32 #[.int .i64 (n : Int), .int .i64 (i : Int), HV x, pv] w fun e w' => e = .returned (.tuple #[HV (climbR f n i x p).1, .bool (climbR f n i x p).2]) ∧ Below w.heap.size w w'
set_option maxHeartbeats 8000000 in
set_option maxRecDepth 100000 in
theorem xclimb_step (f : Nat) (ih : ∀ d, f = d + 1 → XClimbAt d) : XClimbAt f := by
  intro n i x pv p w hin hlf hn hP
  have IH := hide ih
  have RP := hide hP
  obtain ⟨pa, cp, rfl⟩ := hP.slice
  have hcp := hP.cap
  obtain ⟨np, HNP⟩ : ∃ n, Hid (p.length = n) := ⟨_, rfl⟩
  rw [HNP.out] at RP hcp ⊢
  have hmax := hP.max
  obtain ⟨N, HNw⟩ : ∃ N, Hid (w.heap.size = N) := ⟨_, rfl⟩
  clear hP ih
  go_enter Tryd.func32, Tryd.ntmps32
  go_upto_region 1 with fail
  obtain ⟨w0, hw0⟩ : ∃ z, z = (w.alloc (.cells (By x.1).toArray 30 (0, 0))).alloc (.cells (By zh.1).toArray 30 (0, 0)) := ⟨_, rfl⟩
  change Code.wp _ _ _ _ ((w.alloc (.cells (By x.1).toArray 30 (0, 0))).alloc (.cells (By zh.1).toArray 30 (0, 0)))
  rw [← hw0, HNw.out]
  obtain ⟨b0, b1, ln⟩ := boxes2' HNw hw0
  have B0 := hide b0
  have B1 := hide b1
  have LN := hide ln
  have S0 : Hid (N + 1 < w0.heap.size) := b1.lt
  have R0 := hide (RP.out.kept (show Below w.heap.size w w0 by rw [HNw.out]; exact ln))
  have hr0 : w0.rangeAt N 0 (By x.1) := b0.range0
  clear hw0 b0 b1 ln
  by_cases h1 : n = 1
  · subst h1
    have HPR : Hid (climbR f 1 i x p = (x, decide (np = 0))) := (show _ = _ by
      rw [← HNP.out]
      cases f with
      | zero => rfl
      | succ f => rw [climbR, if_pos rfl])
    by_cases hp0 : np = 0
    · rw [decide_eq_true hp0] at HPR
      have q : ((np : Int) == 0) = true := by simp; omega
      go_wp2_with (first
        | (refine wpList_load_mid rfl 30 _ rfl N 0 rfl (By x.1) _ hr0 Tryd.underlying30 rfl (Tryd.sizeH x) ?_)
        | (refine wpList_store_blk rfl 30 _ _ rfl (N + 1) (By zh.1) (By x.1) 30 rfl rfl B1.out (by rw [By_len, By_len]) (Tryd.sizeH x) (By_one _) ?_; intro w2 hb2 hu2)
        | fail)
      refine bodyPost_ret (results_peaks rfl _ _ (N + 1) 30 (By x.1) (.bool true) rfl rfl hb2 Tryd.underlying30 rfl (Tryd.sizeH x)) rfl ⟨by rw [HPR.out]; rfl, ?_⟩
      rw [HNw.out]
      exact LN.out.trans (hu2.below (by omega) (by have := S0.out; omega))
    · rw [decide_eq_false hp0] at HPR
      have q : ((np : Int) == 0) = false := by simp; omega
      go_wp2_with (first
        | (refine wpList_load_mid rfl 30 _ rfl N 0 rfl (By x.1) _ hr0 Tryd.underlying30 rfl (Tryd.sizeH x) ?_)
        | (refine wpList_store_blk rfl 30 _ _ rfl (N + 1) (By zh.1) (By x.1) 30 rfl rfl B1.out (by rw [By_len, By_len]) (Tryd.sizeH x) (By_one _) ?_; intro w2 hb2 hu2)
        | fail)
      refine bodyPost_ret (results_peaks rfl _ _ (N + 1) 30 (By x.1) (.bool false) rfl rfl hb2 Tryd.underlying30 rfl (Tryd.sizeH x)) rfl ⟨by rw [HPR.out]; rfl, ?_⟩
      rw [HNw.out]
      exact LN.out.trans (hu2.below (by omega) (by have := S0.out; omega))
  have h2 : 2 ≤ n := by omega
  have q3 : ((n : Int) == 1) = false := by simp; omega
  obtain ⟨d, hfd⟩ := pow_two_pos h2 hlf
  by_cases hp0 : np = 0
  · have HPR : Hid (climbR f n i x p = (zh, false)) := (show _ = _ by rw [hfd, climbR, if_neg h1, if_pos (by rw [HNP.out]; exact hp0)])
    have q : ((np : Int) == 0) = true := by simp; omega
    go_wp2_with (first
      | (refine wpList_store_blk rfl 30 _ _ rfl (N + 1) (By zh.1) (By zh.1) 30 rfl rfl B1.out (by rw [By_len]) (Tryd.sizeH zh) (By_one _) ?_; intro w2 hb2 hu2)
      | fail)
    refine bodyPost_ret (results_peaks rfl _ _ (N + 1) 30 (By zh.1) (.bool false) rfl rfl hb2 Tryd.underlying30 rfl (Tryd.sizeH zh)) rfl ⟨by rw [HPR.out]; rfl, ?_⟩
    rw [HNw.out]
    exact LN.out.trans (hu2.below (by omega) (by have := S0.out; omega))
  have q5 : ((np : Int) == 0) = false := by simp; omega
  have hlf2 := hlf
  rw [hfd] at hlf2
  have ks := spl_le h2 hlf2
  have kl := spl_lt h2
  have kp := spl_pos h2
  have kg := spl_ge h2
  have CS := nsplit_any (n : Int) (by omega) w0
  rw [Int.toNat_natCast] at CS
  obtain ⟨k, HK⟩ : ∃ k, Hid (spl n = k) := ⟨_, rfl⟩
  rw [HK.out] at CS ks kl kp kg
  have HCS := hide CS
  have HFD := hide hfd
  have HKP1 : Hid (k ≤ 2 ^ d) := ks
  have HKP2 : Hid (n - k ≤ 2 ^ d) := (show n - k ≤ 2 ^ d by omega)
  obtain ⟨n1, HN1⟩ : ∃ n1, Hid (np - 1 = n1) := ⟨_, rfl⟩
  have hn1 : (np : Int) - 1 = (n1 : Int) := by have := HN1.out; omega
  have hnn : n1 < np := by have := HN1.out; omega
  have hnq : (n1 : Int) < (np : Int) := by omega
  obtain ⟨b, off, rfl, hlb, hx9⟩ := R0.out.nth (by omega)
  have hpl : n1 < p.length := by rw [HNP.out]; exact hnn
  have hrl : w0.rangeAt b (off + n1 * 32) (By p[n1].1) := hx9 n1 hpl
  have HGD : Hid (p.getD (p.length - 1) zh = p[n1]) := (show _ = _ by
    have e1 : p.length - 1 = n1 := by rw [HNP.out]; exact HN1.out
    rw [e1]
    simp [List.getD, List.getElem?_eq_getElem hpl])
  generalize p[n1] = l at hrl HGD
  obtain ⟨hs1, hs1r⟩ := slice_G_to (E := HE) (P := Tryd.prog) Tryd.underlying22 Tryd.size30 (some ⟨b, off, none⟩) np cp n1 (by omega) hcp
  have HS1 := hide hs1r
  have HDL : Hid (p.take n1 = p.dropLast) := (show _ = _ by rw [List.dropLast_eq_take, HNP.out, HN1.out])
  clear hlf hlf2 CS ks hfd hx9 hs1r hpl
  have BEn := Blk.new w0 30 (By zh.1)
  obtain ⟨E, HEw⟩ : ∃ E, Hid (w0.heap.size = E) := ⟨_, rfl⟩
  rw [HEw.out] at BEn
  have hNE : N + 1 < E := by rw [← HEw.out]; exact S0.out
  go_wp2_with fail
  refine HCS.out.mono ?_
  rintro e w1 ⟨rfl, hw1⟩
  subst w1
  by_cases hik : i < k
  · have q4 : (i : Int) < (k : Int) := by omega
    go_upto_region 8 with (first
      | (refine wpList_load_mid rfl 30 _ rfl b (off + n1 * 32) rfl (By l.1) _ hrl Tryd.underlying30 rfl (Tryd.sizeH l) ?_)
      | (rw [HEw.out]; refine wpList_store_blk rfl 30 _ _ rfl E (By zh.1) (By l.1) 30 rfl rfl BEn (by rw [By_len, By_len]) (Tryd.sizeH l) (By_one _) ?_; intro w1 hb1 hu1)
      | fail)
    have G0 : Hid (Below w0.heap.size w0 w1) := ((Below.refl _ _).alloc (Nat.le_refl _) _).trans (hu1.below (by rw [HEw.out]; exact Nat.le_refl _) (by simp))
    have BE1 := hide hb1
    have BR1 := hide (B1.out.kept G0.out)
    have L1 : Hid (Below N w w1) := LN.out.trans (G0.out.mono (by have := S0.out; omega))
    have S1 : Hid (N ≤ w1.heap.size) := (show N ≤ w1.heap.size by have := G0.out.size; have := S0.out; omega)
    have RQ : Hid (RdG HE w1 (.slice (some ⟨b, off, none⟩) n1 cp) p.dropLast) := (show RdG _ _ _ _ by rw [← HDL.out]; exact HS1.out w1 p (R0.out.kept G0.out))
    obtain ⟨y, ok, HYO⟩ : ∃ y ok, Hid (climbR d k i x p.dropLast = (y, ok)) := ⟨_, _, rfl⟩
    have HCI : Hid (∀ w', RdG HE w' (.slice (some ⟨b, off, none⟩) n1 cp) p.dropLast → Calls Tryd.prog 32 #[.int .i64 (k : Int), .int .i64 (i : Int), HV x, .slice (some ⟨b, off, none⟩) n1 cp] w' fun e w'' => e = .returned (.tuple #[HV y, .bool ok]) ∧ Below w'.heap.size w' w'') := (fun w' hr => by
      have := IH.out d HFD.out k i x _ _ w' (by omega) HKP1.out (by omega) hr
      rw [HYO.out] at this
      exact this)
    have HPR : Hid (climbR f n i x p = (nd y l, ok)) := (show _ = _ by
      rw [HFD.out, climbR, if_neg h1, if_neg (by rw [HNP.out]; exact hp0), HK.out, HGD.out, if_pos hik, HYO.out])
    clear hb1 hu1 BEn hr0 hrl
    refine wp_region_cells Tryd.mixed (KS (fun i_ => match i_ with | 0 => .val (.int .i64 (k : Int)) | 1 => .val (.int .i64 (i : Int)) | 2 => .val (HV x) | 3 | 4 => .val (.slice (some ⟨b, off, none⟩) np cp) | 5 => .val (.int .i64 (np : Int)) | 6 => .val (.int .i64 (n1 : Int)) | 7 => .val (.slice (some ⟨b, off, none⟩) n1 cp) | 8 | 9 => .val (.tuple #[HV y, .bool ok]) | 10 => .val (HV y) | 11 | 14 => .val (.bool ok) | _ => .free)) [⟨12, 12, 13, 30, By zh.1, By y.1⟩] 73 rfl (by decide +kernel) (KS_mono_val _ (fun i => by split <;> exact fun _ _ _ h => h)) (by intro c hc c' hc' e; simp only [List.mem_cons, List.not_mem_nil, or_false] at hc hc'; rcases hc with rfl <;> rcases hc' with rfl <;> first | rfl | (simp at e)) (by intro c hc c' hc' e; simp only [List.mem_cons, List.not_mem_nil, or_false] at hc hc'; rcases hc with rfl <;> rcases hc' with rfl <;> first | rfl | (simp at e)) (by intro c hc; simp only [List.mem_cons, List.not_mem_nil, or_false] at hc; rcases hc with rfl <;> rfl) ?_ ?_
    · refine AllFrom.cons ?_ (AllFrom.cons ?_ (AllFrom.cons ?_ (AllFrom.cons ?_ (AllFrom.cons ?_ (AllFrom.cons ?_ (AllFrom.cons ?_ (AllFrom.cons ?_ (AllFrom.cons ?_ (AllFrom.cons ?_ (AllFrom.cons ?_ (AllFrom.cons ?_ (AllFrom.cons ?_ (AllFrom.cons ?_ (AllFrom.cons ?_ AllFrom.nil))))))))))))))
      · skip
        refine .val rfl (notI rfl) (notS rfl) (fun a' w' hb hk hd Q => ?_)
        have e10 : a'.eval (.tmp 10) = .int .i64 (k : Int) := hk.at 10 (by decide +kernel)
        exact wp_value _ (by simp only [execOp, e10]; rfl) (KS_mkv rfl rfl)
      · skip
        refine .val rfl (notI rfl) (notS rfl) (fun a' w' hb hk hd Q => ?_)
        have e1 : a'.eval (.tmp 1) = .int .i64 (i : Int) := hk.at 1 (by decide +kernel)
        exact wp_value _ (by simp only [execOp, e1]; rfl) (KS_mkv rfl rfl)
      · skip
        refine .val rfl (notI rfl) (notS rfl) (fun a' w' hb hk hd Q => ?_)
        have e6 : a'.eval (.tmp 6) = .pointer (some ⟨N, 0, none⟩) := hk.at 6 (by decide +kernel)
        exact wp_load_row 30 _ rfl _ _ e6 (By (x).1) _ ((B0.out.kept (show Below w0.heap.size w0 w' from Below.trans G0.out (Below.mono hb G0.out.size))).range0) Tryd.underlying30 rfl (Tryd.sizeH _) (KS_mkv rfl rfl)
      · skip
        refine .val rfl (notI rfl) (notS rfl) (fun a' w' hb hk hd Q => ?_)
        have e3 : a'.eval (.tmp 3) = .slice (some ⟨b, off, none⟩) np cp := hk.at 3 (by decide +kernel)
        exact wp_value _ (by simp only [execOp, e3]; rfl) (KS_mkv rfl rfl)
      · skip
        refine .val rfl (notI rfl) (notS rfl) (fun a' w' hb hk hd Q => ?_)
        have e3 : a'.eval (.tmp 3) = .slice (some ⟨b, off, none⟩) np cp := hk.at 3 (by decide +kernel)
        exact wp_value _ (by simp only [execOp, e3]; rfl) (KS_mkv rfl rfl)
      · skip
        refine .val rfl (notI rfl) (notS rfl) (fun a' w' hb hk hd Q => ?_)
        have e42 : a'.eval (.tmp 42) = .slice (some ⟨b, off, none⟩) np cp := KS_val (hd 4 42 (by decide +kernel) (notI rfl)) rfl
        clear hd hk
        exact wp_value (.int .i64 (np : Int)) (by simp only [execOp, resolve, invoke, builtin, Sem.run_bind, Sem.run_pure, Result.andThen_ok, List.map_toArray, List.map_cons, List.map_nil, e42]; go_simp) (KS_mkv rfl rfl)
      · skip
        refine .val rfl (notI rfl) (notS rfl) (fun a' w' hb hk hd Q => ?_)
        have e43 : a'.eval (.tmp 43) = .int .i64 (np : Int) := KS_val (hd 5 43 (by decide +kernel) (notI rfl)) rfl
        clear hd hk
        have hw : IntKind.i64.wrap (n1 : Int) = (n1 : Int) := wr64 (by omega) (by omega)
        have hq : (np : Int) - 1 = (n1 : Int) := hn1
        exact wp_value (.int .i64 (n1 : Int)) (by simp only [execOp, e43]; go_simp) (KS_mkv rfl rfl)
      · skip
        refine .val rfl (notI rfl) (notS rfl) (fun a' w' hb hk hd Q => ?_)
        have e41 : a'.eval (.tmp 41) = .slice (some ⟨b, off, none⟩) np cp := KS_val (hd 3 41 (by decide +kernel) (notI rfl)) rfl
        have e44 : a'.eval (.tmp 44) = .int .i64 (n1 : Int) := KS_val (hd 6 44 (by decide +kernel) (notI rfl)) rfl
        exact wp_value _ (by simp only [execOp, e41, e44, hs1, Sem.run_bind, Result.andThen_ok, Option.map_none, Option.map_some]; rfl) (KS_mkv rfl rfl)
      · skip
        refine .val rfl (notI rfl) (notS rfl) (fun a' w' hb hk hd Q => ?_)
        have e38 : a'.eval (.tmp 38) = .int .i64 (k : Int) := KS_val (hd 0 38 (by decide +kernel) (notI rfl)) rfl
        have e39 : a'.eval (.tmp 39) = .int .i64 (i : Int) := KS_val (hd 1 39 (by decide +kernel) (notI rfl)) rfl
        have e40 : a'.eval (.tmp 40) = HV x := KS_val (hd 2 40 (by decide +kernel) (notI rfl)) rfl
        have e45 : a'.eval (.tmp 45) = .slice (some ⟨b, off, none⟩) n1 cp := KS_val (hd 7 45 (by decide +kernel) (notI rfl)) rfl
        have CC := HCI.out w' (RQ.out.kept (show Below w1.heap.size w1 w' from hb))
        refine wp_call 32 _ (run_enter 32 _ _ rfl (by kernel_rfl)) ?_
        simp only [List.map_toArray, List.map_nil, List.map_cons, e38, e39, e40, e45]
        refine CC.mono ?_
        rintro e w5 ⟨rfl, hb5⟩
        exact ⟨_, rfl, KS_mkv rfl rfl, hb5⟩
      · skip
        refine .val rfl (notI rfl) (notS rfl) (fun a' w' hb hk hd Q => ?_)
        have e46 : a'.eval (.tmp 46) = .tuple #[HV y, .bool ok] := KS_val (hd 8 46 (by decide +kernel) (notI rfl)) rfl
        exact wp_value _ (by simp only [execOp, e46]; rfl) (KS_mkv rfl rfl)
      · skip
        refine .val rfl (notI rfl) (notS rfl) (fun a' w' hb hk hd Q => ?_)
        have e37 : a'.eval (.tmp 37) = .tuple #[HV y, .bool ok] := KS_val (hd 9 37 (by decide +kernel) (notI rfl)) rfl
        clear hd hk
        exact wp_value (HV y) (by simp only [execOp, e37]; go_simp) (KS_mkv rfl rfl)
      · skip
        refine .val rfl (notI rfl) (notS rfl) (fun a' w' hb hk hd Q => ?_)
        have e37 : a'.eval (.tmp 37) = .tuple #[HV y, .bool ok] := KS_val (hd 9 37 (by decide +kernel) (notI rfl)) rfl
        clear hd hk
        exact wp_value (.bool ok) (by simp only [execOp, e37]; go_simp) (KS_mkv rfl rfl)
      · skip
        refine .new rfl _ (List.Mem.head _) rfl (notS rfl) rfl (fun a' w' => ?_)
        simp only [execOp]; go_simp; rfl
      · skip
        refine .put rfl _ (List.Mem.head _) (notI rfl) rfl rfl (.tmp 47) rfl (by kernel_rfl) (fun a' w' hb hk hd => ?_) (by rw [By_len, By_len]) (Tryd.sizeH y) (By_one _)
        have e47 : a'.eval (.tmp 47) = HV y := KS_val (hd 10 47 (by decide +kernel) (notI rfl)) rfl
        exact e47
      · skip
        refine .val rfl (notI rfl) (notS rfl) (fun a' w' hb hk hd Q => ?_)
        have e48 : a'.eval (.tmp 48) = .bool ok := KS_val (hd 11 48 (by decide +kernel) (notI rfl)) rfl
        exact wp_value _ (by simp only [execOp, e48]; rfl) (KS_mkv rfl rfl)
    intro a' w3 hsz hdf hk hall hb3 hBB
    obtain ⟨BF, hB1, -⟩ := hBB
    obtain ⟨E12, hl12, BH⟩ := hB1 _ (List.Mem.head _) (show (12 : Nat) < 15 by decide) (show (13 : Nat) < 15 by decide)
    simp only at E12 hl12 BH
    clear hB1
    generalize BF 12 = eh at E12 hl12 BH
    have e38 : a'.eval (.tmp 38) = .int .i64 (k : Int) := KS_val (hall 0 _ 38 rfl (notI rfl) rfl) rfl
    have e39 : a'.eval (.tmp 39) = .int .i64 (i : Int) := KS_val (hall 1 _ 39 rfl (notI rfl) rfl) rfl
    have e40 : a'.eval (.tmp 40) = HV x := KS_val (hall 2 _ 40 rfl (notI rfl) rfl) rfl
    have e41 : a'.eval (.tmp 41) = .slice (some ⟨b, off, none⟩) np cp := KS_val (hall 3 _ 41 rfl (notI rfl) rfl) rfl
    have e42 : a'.eval (.tmp 42) = .slice (some ⟨b, off, none⟩) np cp := KS_val (hall 4 _ 42 rfl (notI rfl) rfl) rfl
    have e43 : a'.eval (.tmp 43) = .int .i64 (np : Int) := KS_val (hall 5 _ 43 rfl (notI rfl) rfl) rfl
    have e44 : a'.eval (.tmp 44) = .int .i64 (n1 : Int) := KS_val (hall 6 _ 44 rfl (notI rfl) rfl) rfl
    have e45 : a'.eval (.tmp 45) = .slice (some ⟨b, off, none⟩) n1 cp := KS_val (hall 7 _ 45 rfl (notI rfl) rfl) rfl
    have e46 : a'.eval (.tmp 46) = .tuple #[HV y, .bool ok] := KS_val (hall 8 _ 46 rfl (notI rfl) rfl) rfl
    have e37 : a'.eval (.tmp 37) = .tuple #[HV y, .bool ok] := KS_val (hall 9 _ 37 rfl (notI rfl) rfl) rfl
    have e47 : a'.eval (.tmp 47) = HV y := KS_val (hall 10 _ 47 rfl (notI rfl) rfl) rfl
    have e48 : a'.eval (.tmp 48) = .bool ok := KS_val (hall 11 _ 48 rfl (notI rfl) rfl) rfl
    have e13 : a'.eval (.tmp 13) = .bool ok := KS_val (hall 14 _ 13 rfl (notI rfl) rfl) rfl
    have ha := act_puts 73 rfl hsz hdf hk [38, 39, 40, 41, 42, 43, 44, 45, 46, 37, 47, 48, 12, 13] (by decide +kernel)
    simp only [puts, List.foldl_cons, List.foldl_nil, e38, e39, e40, e41, e42, e43, e44, e45, e46, e37, e47, e48, E12, e13] at ha
    simp only [Act.put, List.setIfInBounds_toArray, List.set_cons_succ, List.set_cons_zero] at ha
    clear hall hk hsz hdf e38 e39 e40 e41 e42 e43 e44 e45 e46 e37 e47 e48 E12 e13
    subst ha
    have rh : w3.rangeAt eh 0 (By y.1) := BH.range0
    have rl : w3.rangeAt E 0 (By l.1) := (BE1.out.kept hb3).range0
    have BR3 := hide (BR1.out.kept hb3)
    have L3 : Hid (Below N w w3) := L1.out.trans (Below.mono hb3 S1.out)
    have S3 : Hid (N ≤ w3.heap.size) := Nat.le_trans S1.out hb3.size
    clear hb3 BH hl12
    go_wp2_with (first
      | (refine wpList_load_mid rfl 30 _ rfl eh 0 rfl (By y.1) _ rh Tryd.underlying30 rfl (Tryd.sizeH y) ?_)
      | (refine wpList_load_mid rfl 30 _ rfl E 0 rfl (By l.1) _ rl Tryd.underlying30 rfl (Tryd.sizeH l) ?_)
      | fail)
    refine (rnode_any y l w3).mono ?_
    rintro e w4 ⟨rfl, hb4⟩
    have BR4 := hide (BR3.out.kept hb4)
    have L4 : Hid (Below N w w4) := L3.out.trans (hb4.mono S3.out)
    clear hb4 rh rl
    obtain ⟨z, HZ⟩ : ∃ z, Hid (nd y l = z) := ⟨_, rfl⟩
    rw [HZ.out]
    go_wp2_with (first
      | (refine wpList_store_blk rfl 30 _ _ rfl (N + 1) (By zh.1) (By z.1) 30 rfl rfl BR4.out (by rw [By_len, By_len]) (Tryd.sizeH z) (By_one _) ?_; intro w5 hb5 hu5)
      | fail)
    refine bodyPost_ret (results_peaks rfl _ _ (N + 1) 30 (By z.1) (.bool ok) rfl rfl hb5 Tryd.underlying30 rfl (Tryd.sizeH z)) rfl ⟨by rw [HPR.out, HZ.out]; rfl, ?_⟩
    rw [HNw.out]
    exact L4.out.trans (hu5.below (by omega) (by have := BR4.out.lt; omega))
  · have q4 : ¬ (i : Int) < (k : Int) := by omega
    obtain ⟨nk, HNK⟩ : ∃ j, Hid (n - k = j) := ⟨_, rfl⟩
    obtain ⟨ik, HIK⟩ : ∃ j, Hid (i - k = j) := ⟨_, rfl⟩
    have hnk : (n : Int) - (k : Int) = (nk : Int) := by have := HNK.out; omega
    have hik2 : (i : Int) - (k : Int) = (ik : Int) := by have := HIK.out; omega
    have hikn : ik < nk := by have := HIK.out; have := HNK.out; omega
    have hnkn : nk ≤ n := by have := HNK.out; omega
    have hiki : ik ≤ i := by have := HIK.out; omega
    go_upto_region 10 with (first
      | (refine wpList_load_mid rfl 30 _ rfl b (off + n1 * 32) rfl (By l.1) _ hrl Tryd.underlying30 rfl (Tryd.sizeH l) ?_)
      | (rw [HEw.out]; refine wpList_store_blk rfl 30 _ _ rfl E (By zh.1) (By l.1) 30 rfl rfl BEn (by rw [By_len, By_len]) (Tryd.sizeH l) (By_one _) ?_; intro w1 hb1 hu1)
      | fail)
    have G0 : Hid (Below w0.heap.size w0 w1) := ((Below.refl _ _).alloc (Nat.le_refl _) _).trans (hu1.below (by rw [HEw.out]; exact Nat.le_refl _) (by simp))
    have BE1 := hide hb1
    have BR1 := hide (B1.out.kept G0.out)
    have L1 : Hid (Below N w w1) := LN.out.trans (G0.out.mono (by have := S0.out; omega))
    have S1 : Hid (N ≤ w1.heap.size) := (show N ≤ w1.heap.size by have := G0.out.size; have := S0.out; omega)
    have RQ : Hid (RdG HE w1 (.slice (some ⟨b, off, none⟩) n1 cp) p.dropLast) := (show RdG _ _ _ _ by rw [← HDL.out]; exact HS1.out w1 p (R0.out.kept G0.out))
    obtain ⟨y, ok, HYO⟩ : ∃ y ok, Hid (climbR d nk ik x p.dropLast = (y, ok)) := ⟨_, _, rfl⟩
    have HCI : Hid (∀ w', RdG HE w' (.slice (some ⟨b, off, none⟩) n1 cp) p.dropLast → Calls Tryd.prog 32 #[.int .i64 (nk : Int), .int .i64 (ik : Int), HV x, .slice (some ⟨b, off, none⟩) n1 cp] w' fun e w'' => e = .returned (.tuple #[HV y, .bool ok]) ∧ Below w'.heap.size w' w'') := (fun w' hr => by
      have := IH.out d HFD.out nk ik x _ _ w' (by omega) (by rw [← HNK.out]; exact HKP2.out) (by omega) hr
      rw [HYO.out] at this
      exact this)
    have HPR : Hid (climbR f n i x p = (nd l y, ok)) := (show _ = _ by
      rw [HFD.out, climbR, if_neg h1, if_neg (by rw [HNP.out]; exact hp0), HK.out, HGD.out, if_neg hik, HNK.out, HIK.out, HYO.out])
    clear hb1 hu1 BEn hr0 hrl
    refine wp_region_cells Tryd.mixed (KS (fun i_ => match i_ with | 0 => .val (.int .i64 (n : Int)) | 1 | 4 => .val (.int .i64 (k : Int)) | 2 => .val (.int .i64 (nk : Int)) | 3 => .val (.int .i64 (i : Int)) | 5 => .val (.int .i64 (ik : Int)) | 6 => .val (HV x) | 7 | 8 => .val (.slice (some ⟨b, off, none⟩) np cp) | 9 => .val (.int .i64 (np : Int)) | 10 => .val (.int .i64 (n1 : Int)) | 11 => .val (.slice (some ⟨b, off, none⟩) n1 cp) | 12 | 13 => .val (.tuple #[HV y, .bool ok]) | 14 => .val (HV y) | 15 | 18 => .val (.bool ok) | _ => .free)) [⟨16, 14, 17, 30, By zh.1, By y.1⟩] 73 rfl (by decide +kernel) (KS_mono_val _ (fun i => by split <;> exact fun _ _ _ h => h)) (by intro c hc c' hc' e; simp only [List.mem_cons, List.not_mem_nil, or_false] at hc hc'; rcases hc with rfl <;> rcases hc' with rfl <;> first | rfl | (simp at e)) (by intro c hc c' hc' e; simp only [List.mem_cons, List.not_mem_nil, or_false] at hc hc'; rcases hc with rfl <;> rcases hc' with rfl <;> first | rfl | (simp at e)) (by intro c hc; simp only [List.mem_cons, List.not_mem_nil, or_false] at hc; rcases hc with rfl <;> rfl) ?_ ?_
    · refine AllFrom.cons ?_ (AllFrom.cons ?_ (AllFrom.cons ?_ (AllFrom.cons ?_ (AllFrom.cons ?_ (AllFrom.cons ?_ (AllFrom.cons ?_ (AllFrom.cons ?_ (AllFrom.cons ?_ (AllFrom.cons ?_ (AllFrom.cons ?_ (AllFrom.cons ?_ (AllFrom.cons ?_ (AllFrom.cons ?_ (AllFrom.cons ?_ (AllFrom.cons ?_ (AllFrom.cons ?_ (AllFrom.cons ?_ (AllFrom.cons ?_ AllFrom.nil))))))))))))))))))
      · skip
        refine .val rfl (notI rfl) (notS rfl) (fun a' w' hb hk hd Q => ?_)
        have e0 : a'.eval (.tmp 0) = .int .i64 (n : Int) := hk.at 0 (by decide +kernel)
        exact wp_value _ (by simp only [execOp, e0]; rfl) (KS_mkv rfl rfl)
      · skip
        refine .val rfl (notI rfl) (notS rfl) (fun a' w' hb hk hd Q => ?_)
        have e10 : a'.eval (.tmp 10) = .int .i64 (k : Int) := hk.at 10 (by decide +kernel)
        exact wp_value _ (by simp only [execOp, e10]; rfl) (KS_mkv rfl rfl)
      · skip
        refine .val rfl (notI rfl) (notS rfl) (fun a' w' hb hk hd Q => ?_)
        have e54 : a'.eval (.tmp 54) = .int .i64 (n : Int) := KS_val (hd 0 54 (by decide +kernel) (notI rfl)) rfl
        have e55 : a'.eval (.tmp 55) = .int .i64 (k : Int) := KS_val (hd 1 55 (by decide +kernel) (notI rfl)) rfl
        clear hd hk
        have hw : IntKind.i64.wrap (nk : Int) = (nk : Int) := wr64 (by omega) (by omega)
        have hq := hnk
        exact wp_value (.int .i64 (nk : Int)) (by simp only [execOp, e54, e55]; go_simp) (KS_mkv rfl rfl)
      · skip
        refine .val rfl (notI rfl) (notS rfl) (fun a' w' hb hk hd Q => ?_)
        have e1 : a'.eval (.tmp 1) = .int .i64 (i : Int) := hk.at 1 (by decide +kernel)
        exact wp_value _ (by simp only [execOp, e1]; rfl) (KS_mkv rfl rfl)
      · skip
        refine .val rfl (notI rfl) (notS rfl) (fun a' w' hb hk hd Q => ?_)
        have e10 : a'.eval (.tmp 10) = .int .i64 (k : Int) := hk.at 10 (by decide +kernel)
        exact wp_value _ (by simp only [execOp, e10]; rfl) (KS_mkv rfl rfl)
      · skip
        refine .val rfl (notI rfl) (notS rfl) (fun a' w' hb hk hd Q => ?_)
        have e57 : a'.eval (.tmp 57) = .int .i64 (i : Int) := KS_val (hd 3 57 (by decide +kernel) (notI rfl)) rfl
        have e58 : a'.eval (.tmp 58) = .int .i64 (k : Int) := KS_val (hd 4 58 (by decide +kernel) (notI rfl)) rfl
        clear hd hk
        have hw : IntKind.i64.wrap (ik : Int) = (ik : Int) := wr64 (by omega) (by omega)
        have hq := hik2
        exact wp_value (.int .i64 (ik : Int)) (by simp only [execOp, e57, e58]; go_simp) (KS_mkv rfl rfl)
      · skip
        refine .val rfl (notI rfl) (notS rfl) (fun a' w' hb hk hd Q => ?_)
        have e6 : a'.eval (.tmp 6) = .pointer (some ⟨N, 0, none⟩) := hk.at 6 (by decide +kernel)
        exact wp_load_row 30 _ rfl _ _ e6 (By (x).1) _ ((B0.out.kept (show Below w0.heap.size w0 w' from Below.trans G0.out (Below.mono hb G0.out.size))).range0) Tryd.underlying30 rfl (Tryd.sizeH _) (KS_mkv rfl rfl)
      · skip
        refine .val rfl (notI rfl) (notS rfl) (fun a' w' hb hk hd Q => ?_)
        have e3 : a'.eval (.tmp 3) = .slice (some ⟨b, off, none⟩) np cp := hk.at 3 (by decide +kernel)
        exact wp_value _ (by simp only [execOp, e3]; rfl) (KS_mkv rfl rfl)
      · skip
        refine .val rfl (notI rfl) (notS rfl) (fun a' w' hb hk hd Q => ?_)
        have e3 : a'.eval (.tmp 3) = .slice (some ⟨b, off, none⟩) np cp := hk.at 3 (by decide +kernel)
        exact wp_value _ (by simp only [execOp, e3]; rfl) (KS_mkv rfl rfl)
      · skip
        refine .val rfl (notI rfl) (notS rfl) (fun a' w' hb hk hd Q => ?_)
        have e62 : a'.eval (.tmp 62) = .slice (some ⟨b, off, none⟩) np cp := KS_val (hd 8 62 (by decide +kernel) (notI rfl)) rfl
        clear hd hk
        exact wp_value (.int .i64 (np : Int)) (by simp only [execOp, resolve, invoke, builtin, Sem.run_bind, Sem.run_pure, Result.andThen_ok, List.map_toArray, List.map_cons, List.map_nil, e62]; go_simp) (KS_mkv rfl rfl)
      · skip
        refine .val rfl (notI rfl) (notS rfl) (fun a' w' hb hk hd Q => ?_)
        have e63 : a'.eval (.tmp 63) = .int .i64 (np : Int) := KS_val (hd 9 63 (by decide +kernel) (notI rfl)) rfl
        clear hd hk
        have hw : IntKind.i64.wrap (n1 : Int) = (n1 : Int) := wr64 (by omega) (by omega)
        have hq : (np : Int) - 1 = (n1 : Int) := hn1
        exact wp_value (.int .i64 (n1 : Int)) (by simp only [execOp, e63]; go_simp) (KS_mkv rfl rfl)
      · skip
        refine .val rfl (notI rfl) (notS rfl) (fun a' w' hb hk hd Q => ?_)
        have e61 : a'.eval (.tmp 61) = .slice (some ⟨b, off, none⟩) np cp := KS_val (hd 7 61 (by decide +kernel) (notI rfl)) rfl
        have e64 : a'.eval (.tmp 64) = .int .i64 (n1 : Int) := KS_val (hd 10 64 (by decide +kernel) (notI rfl)) rfl
        exact wp_value _ (by simp only [execOp, e61, e64, hs1, Sem.run_bind, Result.andThen_ok, Option.map_none, Option.map_some]; rfl) (KS_mkv rfl rfl)
      · skip
        refine .val rfl (notI rfl) (notS rfl) (fun a' w' hb hk hd Q => ?_)
        have e56 : a'.eval (.tmp 56) = .int .i64 (nk : Int) := KS_val (hd 2 56 (by decide +kernel) (notI rfl)) rfl
        have e59 : a'.eval (.tmp 59) = .int .i64 (ik : Int) := KS_val (hd 5 59 (by decide +kernel) (notI rfl)) rfl
        have e60 : a'.eval (.tmp 60) = HV x := KS_val (hd 6 60 (by decide +kernel) (notI rfl)) rfl
        have e65 : a'.eval (.tmp 65) = .slice (some ⟨b, off, none⟩) n1 cp := KS_val (hd 11 65 (by decide +kernel) (notI rfl)) rfl
        have CC := HCI.out w' (RQ.out.kept (show Below w1.heap.size w1 w' from hb))
        refine wp_call 32 _ (run_enter 32 _ _ rfl (by kernel_rfl)) ?_
        simp only [List.map_toArray, List.map_nil, List.map_cons, e56, e59, e60, e65]
        refine CC.mono ?_
        rintro e w5 ⟨rfl, hb5⟩
        exact ⟨_, rfl, KS_mkv rfl rfl, hb5⟩
      · skip
        refine .val rfl (notI rfl) (notS rfl) (fun a' w' hb hk hd Q => ?_)
        have e66 : a'.eval (.tmp 66) = .tuple #[HV y, .bool ok] := KS_val (hd 12 66 (by decide +kernel) (notI rfl)) rfl
        exact wp_value _ (by simp only [execOp, e66]; rfl) (KS_mkv rfl rfl)
      · skip
        refine .val rfl (notI rfl) (notS rfl) (fun a' w' hb hk hd Q => ?_)
        have e53 : a'.eval (.tmp 53) = .tuple #[HV y, .bool ok] := KS_val (hd 13 53 (by decide +kernel) (notI rfl)) rfl
        clear hd hk
        exact wp_value (HV y) (by simp only [execOp, e53]; go_simp) (KS_mkv rfl rfl)
      · skip
        refine .val rfl (notI rfl) (notS rfl) (fun a' w' hb hk hd Q => ?_)
        have e53 : a'.eval (.tmp 53) = .tuple #[HV y, .bool ok] := KS_val (hd 13 53 (by decide +kernel) (notI rfl)) rfl
        clear hd hk
        exact wp_value (.bool ok) (by simp only [execOp, e53]; go_simp) (KS_mkv rfl rfl)
      · skip
        refine .new rfl _ (List.Mem.head _) rfl (notS rfl) rfl (fun a' w' => ?_)
        simp only [execOp]; go_simp; rfl
      · skip
        refine .put rfl _ (List.Mem.head _) (notI rfl) rfl rfl (.tmp 67) rfl (by kernel_rfl) (fun a' w' hb hk hd => ?_) (by rw [By_len, By_len]) (Tryd.sizeH y) (By_one _)
        have e67 : a'.eval (.tmp 67) = HV y := KS_val (hd 14 67 (by decide +kernel) (notI rfl)) rfl
        exact e67
      · skip
        refine .val rfl (notI rfl) (notS rfl) (fun a' w' hb hk hd Q => ?_)
        have e68 : a'.eval (.tmp 68) = .bool ok := KS_val (hd 15 68 (by decide +kernel) (notI rfl)) rfl
        exact wp_value _ (by simp only [execOp, e68]; rfl) (KS_mkv rfl rfl)
    intro a' w3 hsz hdf hk hall hb3 hBB
    obtain ⟨BF, hB1, -⟩ := hBB
    obtain ⟨E12, hl12, BH⟩ := hB1 _ (List.Mem.head _) (show (16 : Nat) < 19 by decide) (show (17 : Nat) < 19 by decide)
    simp only at E12 hl12 BH
    clear hB1
    generalize BF 16 = eh at E12 hl12 BH
    have e54 : a'.eval (.tmp 54) = .int .i64 (n : Int) := KS_val (hall 0 _ 54 rfl (notI rfl) rfl) rfl
    have e55 : a'.eval (.tmp 55) = .int .i64 (k : Int) := KS_val (hall 1 _ 55 rfl (notI rfl) rfl) rfl
    have e56 : a'.eval (.tmp 56) = .int .i64 (nk : Int) := KS_val (hall 2 _ 56 rfl (notI rfl) rfl) rfl
    have e57 : a'.eval (.tmp 57) = .int .i64 (i : Int) := KS_val (hall 3 _ 57 rfl (notI rfl) rfl) rfl
    have e58 : a'.eval (.tmp 58) = .int .i64 (k : Int) := KS_val (hall 4 _ 58 rfl (notI rfl) rfl) rfl
    have e59 : a'.eval (.tmp 59) = .int .i64 (ik : Int) := KS_val (hall 5 _ 59 rfl (notI rfl) rfl) rfl
    have e60 : a'.eval (.tmp 60) = HV x := KS_val (hall 6 _ 60 rfl (notI rfl) rfl) rfl
    have e61 : a'.eval (.tmp 61) = .slice (some ⟨b, off, none⟩) np cp := KS_val (hall 7 _ 61 rfl (notI rfl) rfl) rfl
    have e62 : a'.eval (.tmp 62) = .slice (some ⟨b, off, none⟩) np cp := KS_val (hall 8 _ 62 rfl (notI rfl) rfl) rfl
    have e63 : a'.eval (.tmp 63) = .int .i64 (np : Int) := KS_val (hall 9 _ 63 rfl (notI rfl) rfl) rfl
    have e64 : a'.eval (.tmp 64) = .int .i64 (n1 : Int) := KS_val (hall 10 _ 64 rfl (notI rfl) rfl) rfl
    have e65 : a'.eval (.tmp 65) = .slice (some ⟨b, off, none⟩) n1 cp := KS_val (hall 11 _ 65 rfl (notI rfl) rfl) rfl
    have e66 : a'.eval (.tmp 66) = .tuple #[HV y, .bool ok] := KS_val (hall 12 _ 66 rfl (notI rfl) rfl) rfl
    have e53 : a'.eval (.tmp 53) = .tuple #[HV y, .bool ok] := KS_val (hall 13 _ 53 rfl (notI rfl) rfl) rfl
    have e67 : a'.eval (.tmp 67) = HV y := KS_val (hall 14 _ 67 rfl (notI rfl) rfl) rfl
    have e68 : a'.eval (.tmp 68) = .bool ok := KS_val (hall 15 _ 68 rfl (notI rfl) rfl) rfl
    have e15 : a'.eval (.tmp 15) = .bool ok := KS_val (hall 18 _ 15 rfl (notI rfl) rfl) rfl
    have ha := act_puts 73 rfl hsz hdf hk [54, 55, 56, 57, 58, 59, 60, 61, 62, 63, 64, 65, 66, 53, 67, 68, 14, 15] (by decide +kernel)
    simp only [puts, List.foldl_cons, List.foldl_nil, e54, e55, e56, e57, e58, e59, e60, e61, e62, e63, e64, e65, e66, e53, e67, e68, E12, e15] at ha
    simp only [Act.put, List.setIfInBounds_toArray, List.set_cons_succ, List.set_cons_zero] at ha
    clear hall hk hsz hdf e54 e55 e56 e57 e58 e59 e60 e61 e62 e63 e64 e65 e66 e53 e67 e68 E12 e15
    subst ha
    have rh : w3.rangeAt eh 0 (By y.1) := BH.range0
    have rl : w3.rangeAt E 0 (By l.1) := (BE1.out.kept hb3).range0
    have BR3 := hide (BR1.out.kept hb3)
    have L3 : Hid (Below N w w3) := L1.out.trans (Below.mono hb3 S1.out)
    have S3 : Hid (N ≤ w3.heap.size) := Nat.le_trans S1.out hb3.size
    clear hb3 BH hl12
    go_wp2_with (first
      | (refine wpList_load_mid rfl 30 _ rfl eh 0 rfl (By y.1) _ rh Tryd.underlying30 rfl (Tryd.sizeH y) ?_)
      | (refine wpList_load_mid rfl 30 _ rfl E 0 rfl (By l.1) _ rl Tryd.underlying30 rfl (Tryd.sizeH l) ?_)
      | fail)
    refine (rnode_any l y w3).mono ?_
    rintro e w4 ⟨rfl, hb4⟩
    have BR4 := hide (BR3.out.kept hb4)
    have L4 : Hid (Below N w w4) := L3.out.trans (hb4.mono S3.out)
    clear hb4 rh rl
    obtain ⟨z, HZ⟩ : ∃ z, Hid (nd l y = z) := ⟨_, rfl⟩
    rw [HZ.out]
    go_wp2_with (first
      | (refine wpList_store_blk rfl 30 _ _ rfl (N + 1) (By zh.1) (By z.1) 30 rfl rfl BR4.out (by rw [By_len, By_len]) (Tryd.sizeH z) (By_one _) ?_; intro w5 hb5 hu5)
      | fail)
    refine bodyPost_ret (results_peaks rfl _ _ (N + 1) 30 (By z.1) (.bool ok) rfl rfl hb5 Tryd.underlying30 rfl (Tryd.sizeH z)) rfl ⟨by rw [HPR.out, HZ.out]; rfl, ?_⟩
    rw [HNw.out]
    exact L4.out.trans (hu5.below (by omega) (by have := BR4.out.lt; omega))
theorem xclimb_any : ∀ f, XClimbAt f
  | 0 => xclimb_step 0 (fun d hd => by omega)
  | f + 1 => xclimb_step (f + 1) (fun d hd => by
    have : d = f := by omega
    subst this
    exact xclimb_any d)
#print axioms xclimb_any
theorem climb_same (n i : Nat) (x : Hs) (p : List Hs) (hi : i < n) (hn : n ≤ 1099511627776) : (if (climbR 40 n i x p).2 = true then climbR 40 n i x p else (zh, false)) = climbC (n : Int) (i : Int) x p := by
  obtain ⟨h1, h2⟩ := way_climb x 40 0 n i p (Nat.zero_le _) hi (by omega)
  rw [Nat.sub_zero, Nat.sub_zero] at h1 h2
  have hC : climbC (n : Int) (i : Int) x p = if p.length = (wayP 40 0 n i true).1.length then (climbW (wayP 40 0 n i true).1.reverse x p, true) else (zh, false) := by
    unfold climbC
    rw [if_pos (by omega), Int.toNat_natCast, Int.toNat_natCast]
  rw [hC]
  by_cases h : p.length = (wayP 40 0 n i true).1.length
  · rw [if_pos h, h1 h]
    rfl
  · rw [if_neg h, if_neg (by rw [h2 h]; simp)]
set_option maxHeartbeats 8000000 in
set_option maxRecDepth 100000 in
theorem xClimb_any (n i : Int) (x : Hs) (pv : Value) (p : List Hs) (w : World) (hP : RdG HE w pv p) :
    Calls Tryd.prog 17 #[.int .i64 n, .int .i64 i, HV x, pv] w fun e w' => e = .returned (.tuple #[HV (climbC n i x p).1, .bool (climbC n i x p).2]) ∧ Below w.heap.size w w' := by
  have RP := hide hP
  obtain ⟨pa, cp, rfl⟩ := hP.slice
  obtain ⟨np, HNP⟩ : ∃ n, Hid (p.length = n) := ⟨_, rfl⟩
  rw [HNP.out] at RP ⊢
  obtain ⟨N, HNw⟩ : ∃ N, Hid (w.heap.size = N) := ⟨_, rfl⟩
  clear hP
  go_enter Tryd.func17, Tryd.ntmps17
  go_upto_region 1 with fail
  obtain ⟨w0, hw0⟩ : ∃ z, z = (w.alloc (.cells (By x.1).toArray 30 (0, 0))).alloc (.cells (By zh.1).toArray 30 (0, 0)) := ⟨_, rfl⟩
  change Code.wp _ _ _ _ ((w.alloc (.cells (By x.1).toArray 30 (0, 0))).alloc (.cells (By zh.1).toArray 30 (0, 0)))
  rw [← hw0, HNw.out]
  obtain ⟨b0, b1, ln⟩ := boxes2' HNw hw0
  have B1 := hide b1
  have LN := hide ln
  have S0 : Hid (N + 1 < w0.heap.size) := b1.lt
  have R0 := hide (RP.out.kept (show Below w.heap.size w w0 by rw [HNw.out]; exact ln))
  have hr0 : w0.rangeAt N 0 (By x.1) := b0.range0
  clear hw0 b0 b1 ln
  by_cases h : 0 ≤ i ∧ i < n ∧ n ≤ 1099511627776
  · obtain ⟨k, rfl⟩ : ∃ k : Nat, i = (k : Int) := ⟨i.toNat, by omega⟩
    obtain ⟨m, rfl⟩ : ∃ m : Nat, n = (m : Int) := ⟨n.toNat, by omega⟩
    have hs := climb_same m k x p (by omega) (by omega)
    have q1 : ¬ (m : Int) < 1 := by omega
    have q2 : ¬ (1099511627776 : Int) < (m : Int) := by omega
    have q3 : ¬ (k : Int) < 0 := by omega
    have q4 : ¬ (m : Int) ≤ (k : Int) := by omega
    have CC := xclimb_any 40 m k x _ p w0 (by omega) (by omega) (by omega) R0.out
    obtain ⟨y, ok, HYO⟩ : ∃ y ok, Hid (climbR 40 m k x p = (y, ok)) := ⟨_, _, rfl⟩
    rw [HYO.out] at CC hs
    have HS := hide hs
    have HCC := hide CC
    have HBN := hide (fun (W : World) => Blk.new W 30 (By zh.1))
    clear h CC hs
    go_wp2_with (first
      | (refine wpList_load_mid rfl 30 _ rfl N 0 rfl (By x.1) _ hr0 Tryd.underlying30 rfl (Tryd.sizeH x) ?_)
      | fail)
    refine HCC.out.mono ?_
    rintro e w1 ⟨rfl, hb1⟩
    have BR1 := hide (B1.out.kept hb1)
    have L1 : Hid (Below N w w1) := LN.out.trans (hb1.mono (by have := S0.out; omega))
    have S1 : Hid (N + 1 < w1.heap.size) := (show N + 1 < w1.heap.size from Nat.lt_of_lt_of_le S0.out hb1.size)
    clear hb1 hr0
    cases ok with
    | true =>
      go_wp2_with (first
        | (refine wpList_store_blk rfl 30 _ _ rfl w1.heap.size (By zh.1) (By y.1) 30 rfl rfl (HBN.out w1) (by rw [By_len, By_len]) (Tryd.sizeH y) (By_one _) ?_; intro w2 hb2 hu2; have hry : w2.rangeAt w1.heap.size 0 (By y.1) := hb2.range0; have BR2 : Hid (Blk w2 (N + 1) 30 (By zh.1)) := (BR1.out.alloc _).but hu2 (by have := S1.out; omega))
        | (refine wpList_load_mid rfl 30 _ rfl w1.heap.size 0 rfl (By y.1) _ hry Tryd.underlying30 rfl (Tryd.sizeH y) ?_)
        | (refine wpList_store_blk rfl 30 _ _ rfl (N + 1) (By zh.1) (By y.1) 30 rfl rfl BR2.out (by rw [By_len, By_len]) (Tryd.sizeH y) (By_one _) ?_; intro w3 hb3 hu3)
        | fail)
      refine bodyPost_ret (results_peaks rfl _ _ (N + 1) 30 (By y.1) (.bool true) rfl rfl hb3 Tryd.underlying30 rfl (Tryd.sizeH y)) rfl ⟨by rw [← HS.out]; rfl, ?_⟩
      rw [HNw.out]
      have h1 := S1.out
      exact ((L1.out.trans ((Below.refl _ _).alloc (by omega) _)).trans (hu2.below (by omega) (by simp; omega))).trans (hu3.below (by omega) (by have := BR2.out.lt; omega))
    | false =>
      go_wp2_with (first
        | (refine wpList_store_blk rfl 30 _ _ rfl w1.heap.size (By zh.1) (By y.1) 30 rfl rfl (HBN.out w1) (by rw [By_len, By_len]) (Tryd.sizeH y) (By_one _) ?_; intro w2 hb2 hu2; have BR2 : Hid (Blk w2 (N + 1) 30 (By zh.1)) := (BR1.out.alloc _).but hu2 (by have := S1.out; omega))
        | (refine wpList_store_blk rfl 30 _ _ rfl (N + 1) (By zh.1) (By zh.1) 30 rfl rfl BR2.out (by rw [By_len]) (Tryd.sizeH zh) (By_one _) ?_; intro w3 hb3 hu3)
        | fail)
      refine bodyPost_ret (results_peaks rfl _ _ (N + 1) 30 (By zh.1) (.bool false) rfl rfl hb3 Tryd.underlying30 rfl (Tryd.sizeH zh)) rfl ⟨by rw [← HS.out]; rfl, ?_⟩
      rw [HNw.out]
      have h1 := S1.out
      exact ((L1.out.trans ((Below.refl _ _).alloc (by omega) _)).trans (hu2.below (by omega) (by simp; omega))).trans (hu3.below (by omega) (by have := BR2.out.lt; omega))
  · have HC : Hid (climbC n i x p = (zh, false)) := (show _ = _ by unfold climbC; rw [if_neg h])
    by_cases q1 : n < 1
    · go_wp2_with (first
        | (refine wpList_store_blk rfl 30 _ _ rfl (N + 1) (By zh.1) (By zh.1) 30 rfl rfl B1.out (by rw [By_len]) (Tryd.sizeH zh) (By_one _) ?_; intro w2 hb2 hu2)
        | fail)
      refine bodyPost_ret (results_peaks rfl _ _ (N + 1) 30 (By zh.1) (.bool false) rfl rfl hb2 Tryd.underlying30 rfl (Tryd.sizeH zh)) rfl ⟨by rw [HC.out]; rfl, ?_⟩
      rw [HNw.out]
      exact LN.out.trans (hu2.below (by omega) (by have := S0.out; omega))
    · by_cases q2 : 1099511627776 < n
      · go_wp2_with (first
          | (refine wpList_store_blk rfl 30 _ _ rfl (N + 1) (By zh.1) (By zh.1) 30 rfl rfl B1.out (by rw [By_len]) (Tryd.sizeH zh) (By_one _) ?_; intro w2 hb2 hu2)
          | fail)
        refine bodyPost_ret (results_peaks rfl _ _ (N + 1) 30 (By zh.1) (.bool false) rfl rfl hb2 Tryd.underlying30 rfl (Tryd.sizeH zh)) rfl ⟨by rw [HC.out]; rfl, ?_⟩
        rw [HNw.out]
        exact LN.out.trans (hu2.below (by omega) (by have := S0.out; omega))
      · by_cases q3 : i < 0
        · go_wp2_with (first
            | (refine wpList_store_blk rfl 30 _ _ rfl (N + 1) (By zh.1) (By zh.1) 30 rfl rfl B1.out (by rw [By_len]) (Tryd.sizeH zh) (By_one _) ?_; intro w2 hb2 hu2)
            | fail)
          refine bodyPost_ret (results_peaks rfl _ _ (N + 1) 30 (By zh.1) (.bool false) rfl rfl hb2 Tryd.underlying30 rfl (Tryd.sizeH zh)) rfl ⟨by rw [HC.out]; rfl, ?_⟩
          rw [HNw.out]
          exact LN.out.trans (hu2.below (by omega) (by have := S0.out; omega))
        · have q4 : n ≤ i := by omega
          go_wp2_with (first
            | (refine wpList_store_blk rfl 30 _ _ rfl (N + 1) (By zh.1) (By zh.1) 30 rfl rfl B1.out (by rw [By_len]) (Tryd.sizeH zh) (By_one _) ?_; intro w2 hb2 hu2)
            | fail)
          refine bodyPost_ret (results_peaks rfl _ _ (N + 1) 30 (By zh.1) (.bool false) rfl rfl hb2 Tryd.underlying30 rfl (Tryd.sizeH zh)) rfl ⟨by rw [HC.out]; rfl, ?_⟩
          rw [HNw.out]
          exact LN.out.trans (hu2.below (by omega) (by have := S0.out; omega))
set_option maxHeartbeats 4000000 in
set_option maxRecDepth 100000 in
theorem xcheck_any (r : Hs) (n i : Int) (x : Hs) (pv : Value) (p : List Hs) (w : World) (hP : RdG HE w pv p) :
    Calls Tryd.prog 19 #[HV r, .int .i64 n, .int .i64 i, HV x, pv] w fun e w' => e = .returned (.bool ((climbC n i x p).2 && decide ((climbC n i x p).1 = r))) ∧ Below w.heap.size w w' := by
  obtain ⟨y, ok, HY⟩ : ∃ y ok, Hid (climbC n i x p = (y, ok)) := ⟨_, _, rfl⟩
  rw [HY.out]
  obtain ⟨N, HNw⟩ : ∃ N, Hid (w.heap.size = N) := ⟨_, rfl⟩
  have RP := hide hP
  obtain ⟨pa, cp, rfl⟩ := hP.slice
  obtain ⟨np, HNP⟩ : ∃ k, Hid (p.length = k) := ⟨_, rfl⟩
  rw [HNP.out] at RP ⊢
  have he := eqA y r
  obtain ⟨bq, HBQ⟩ : ∃ bq, Hid (decide (y = r) = bq) := ⟨_, rfl⟩
  simp only [HBQ.out] at he ⊢
  clear hP
  go_enter Tryd.func19, Tryd.ntmps19
  go_upto_region 1 with fail
  obtain ⟨w0, hw0⟩ : ∃ z, z = (w.alloc (.cells (By r.1).toArray 30 (0, 0))).alloc (.cells (By x.1).toArray 30 (0, 0)) := ⟨_, rfl⟩
  change Code.wp _ _ _ _ ((w.alloc (.cells (By r.1).toArray 30 (0, 0))).alloc (.cells (By x.1).toArray 30 (0, 0)))
  rw [← hw0, HNw.out]
  obtain ⟨b0, b1, ln⟩ := boxes2' HNw hw0
  have B0 := hide b0
  have LN := hide ln
  have R0 := hide (RP.out.kept (show Below w.heap.size w w0 by rw [HNw.out]; exact ln))
  have hr1 : w0.rangeAt (N + 1) 0 (By x.1) := b1.range0
  have hlt1 := b1.lt
  clear hw0 b0 b1 ln
  go_wp2_with (first
    | (refine wpList_load_mid rfl 30 _ rfl (N + 1) 0 rfl (By x.1) _ hr1 Tryd.underlying30 rfl (Tryd.sizeH x) ?_)
    | fail)
  refine (xClimb_any n i x (.slice pa np cp) p w0 R0.out).mono ?_
  rw [HY.out]
  rintro e w1 ⟨rfl, hb1⟩
  obtain ⟨E, HE1⟩ : ∃ E, Hid (w1.heap.size = E) := ⟨_, rfl⟩
  have BN := Blk.new w1 30 (By zh.1)
  rw [HE1.out] at BN
  have B01 := hide (B0.out.kept hb1)
  have L1 : Hid (Below N w w1) := LN.out.trans (hb1.mono (by omega))
  have hEN : N + 1 < E := by rw [← HE1.out]; exact Nat.lt_of_lt_of_le hlt1 hb1.size
  clear hb1 hr1
  cases ok with
  | true =>
    go_wp2_with (first
      | (rw [HE1.out]; refine wpList_store_blk rfl 30 _ _ rfl E (By zh.1) (By y.1) 30 rfl rfl BN (by rw [By_len, By_len]) (Tryd.sizeH y) (By_one _) ?_; intro w2 hb2 hu2; have hry : w2.rangeAt E 0 (By y.1) := hb2.range0; have hrr : w2.rangeAt N 0 (By r.1) := ((B01.out.alloc _).but hu2 (by omega)).range0)
      | (refine wpList_load_w9 (by rfl) 30 _ rfl E 0 rfl (By y.1) _ hry Tryd.underlying30 rfl (Tryd.sizeH y) ?_)
      | (refine wpList_load_w9 (by rfl) 30 _ rfl N 0 rfl (By r.1) _ hrr Tryd.underlying30 rfl (Tryd.sizeH r) ?_)
      | fail)
    go_ret
    refine ⟨by simp, ?_⟩
    rw [HNw.out]
    exact (L1.out.trans ((Below.refl _ _).alloc (by rw [HE1.out]; omega) _)).trans (hu2.below (by omega) (by simp [HE1.out]; omega))
  | false =>
    go_wp2_with (first
      | (rw [HE1.out]; refine wpList_store_blk rfl 30 _ _ rfl E (By zh.1) (By y.1) 30 rfl rfl BN (by rw [By_len, By_len]) (Tryd.sizeH y) (By_one _) ?_; intro w2 hb2 hu2)
      | fail)
    go_ret
    refine ⟨by simp, ?_⟩
    rw [HNw.out]
    exact (L1.out.trans ((Below.refl _ _).alloc (by rw [HE1.out]; omega) _)).trans (hu2.below (by omega) (by simp [HE1.out]; omega))
#print axioms xcheck_any
end Go.Proofs.YtfclmjfbcmjfbaaDoor
