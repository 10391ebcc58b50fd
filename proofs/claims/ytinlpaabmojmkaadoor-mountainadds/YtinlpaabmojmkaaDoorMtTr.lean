/-
  indentureref09.Peaks.Root: what the call does.
-/
import Derived.Test.YtinlpaabmojmkaaDoorMtT
import Derived.Test.YtinlpaabmojmkaaDoorMtAr
namespace Go.Proofs.YtinlpaabmojmkaaDoor
open Go.RowKit
set_option maxHeartbeats 4000000 in
set_option maxRecDepth 100000 in
theorem nproot_any (s : Int) (t : Value) (L : List Hs) (h1 : s ≤ 9223372036854775807) (w : World) (hr : RdG HE w t L) :
    Calls Tryd.prog 18 #[.agg #[.int .i64 s, t]] w fun e w' => e = .returned (HV (rootP s L)) ∧ Below w.heap.size w w' := by
  have R := hide hr
  have hcap := hr.cap'
  obtain ⟨a, cp, rfl⟩ := hr.slice
  have hcp := hr.cap
  clear hr
  have HRR : Hid (rootP s L = if s = 0 ∨ goodB s L.length = false then em else joined nd em L) := rfl
  have hpos : goodB s L.length = true → ¬ s = 0 → 0 < L.length ∧ L.length ≤ 63 := fun hg hs0 => by
    unfold goodB at hg
    simp only [Bool.and_eq_true, decide_eq_true_eq] at hg
    rw [hg.2]
    exact ⟨bits_pos (by omega) (by omega), bits_le _ _⟩
  have HPOS := hide hpos
  clear hpos
  obtain ⟨n, HN⟩ : ∃ n, Hid (L.length = n) := ⟨_, rfl⟩
  rw [HN.out] at R hcap hcp HRR HPOS ⊢
  obtain ⟨N, HNw⟩ : ∃ N, Hid (w.heap.size = N) := ⟨_, rfl⟩
  go_enter Tryd.func18, Tryd.ntmps18
  go_upto_region 1 with fail
  obtain ⟨w0, hw0⟩ : ∃ z, z = (w.alloc (.cells [.int .i64 s, .slice a n cp].toArray 27 (0, 0))).alloc (.cells (By zh.1).toArray 30 (0, 0)) := ⟨_, rfl⟩
  change Code.wp _ _ _ _ ((w.alloc (.cells [.int .i64 s, .slice a n cp].toArray 27 (0, 0))).alloc (.cells (By zh.1).toArray 30 (0, 0)))
  rw [← hw0, HNw.out]
  obtain ⟨b0, b1, ln⟩ := boxes2 HNw hw0
  have r0 := R.out.kept (by rw [HNw.out]; exact ln)
  have CG := ngood_any s (.slice a n cp) L h1 w0 r0
  rw [HN.out] at CG
  have D0 := hide b0
  clear hw0
  go_wp2_with (first
    | (refine wpList_load_mid rfl 27 _ rfl N 0 rfl [.int .i64 s, .slice a n cp] _ D0.out.range0 Tryd.underlying27 rfl Tryd.sizeQ ?_)
    | fail)
  refine CG.mono ?_
  clear CG
  rintro e w1 ⟨rfl, hb1⟩
  have B0 := hide (b0.kept hb1)
  have O1 := hide (b1.kept hb1)
  have L1 : Hid (Below N w w1) := ln.trans (hb1.mono (Nat.le_of_lt b0.lt))
  have R1 := hide (r0.kept hb1)
  have c0 : w1.cell? ⟨N, 0, none⟩ = some (.int .i64 s) := B0.out.cell (j := 0) rfl
  have c1 : w1.cell? ⟨N, 1, none⟩ = some (.slice a n cp) := B0.out.cell (j := 1) rfl
  clear b0 b1 ln r0 hb1 D0
  cases hgd : goodB s n with
  | false =>
    have HRP : Hid (rootP s L = em) := (show _ = _ by rw [HRR.out, if_pos (.inr hgd)])
    clear hgd
    go_wp2_with fail
    refine (rempty_any _).mono ?_
    rintro e w2 ⟨rfl, hb2⟩
    have O2 := hide (O1.out.kept hb2)
    have L2 : Hid (Below N w w2) := L1.out.trans (hb2.mono (Nat.le_trans (by omega) (Nat.le_of_lt O1.out.lt)))
    clear hb2
    go_wp2_with (first
      | (refine wpList_store_blk rfl 30 _ _ rfl (N + 1) (By zh.1) (By em.1) 30 rfl rfl O2.out (by rw [By_len, By_len]) (Tryd.sizeH em) (By_one _) ?_; intro w3 hb3 hu3)
      | fail)
    refine bodyPost_ret (ret_hash rfl _ _ (N + 1) em rfl hb3) rfl ⟨by rw [HRP.out], ?_⟩
    rw [HNw.out]
    exact L2.out.trans (hu3.below (by omega) (by have := O2.out.lt; omega))
  | true =>
    by_cases h0 : s = 0
    · have HRP : Hid (rootP s L = em) := (show _ = _ by rw [HRR.out, if_pos (.inl h0)])
      have q0 : (s == 0) = true := by simpa using h0
      clear hgd
      go_wp2_with fail
      refine (rempty_any _).mono ?_
      rintro e w2 ⟨rfl, hb2⟩
      have O2 := hide (O1.out.kept hb2)
      have L2 : Hid (Below N w w2) := L1.out.trans (hb2.mono (Nat.le_trans (by omega) (Nat.le_of_lt O1.out.lt)))
      clear hb2
      go_wp2_with (first
        | (refine wpList_store_blk rfl 30 _ _ rfl (N + 1) (By zh.1) (By em.1) 30 rfl rfl O2.out (by rw [By_len, By_len]) (Tryd.sizeH em) (By_one _) ?_; intro w3 hb3 hu3)
        | fail)
      refine bodyPost_ret (ret_hash rfl _ _ (N + 1) em rfl hb3) rfl ⟨by rw [HRP.out], ?_⟩
      rw [HNw.out]
      exact L2.out.trans (hu3.below (by omega) (by have := O2.out.lt; omega))
    · have HRP : Hid (rootP s L = joined nd em L) := (show _ = _ by rw [HRR.out, if_neg (by rw [hgd]; simp; exact h0)])
      have hpos := HPOS.out hgd h0
      have q0 : (s == 0) = false := by simpa using h0
      clear hgd
      obtain ⟨b, off, rfl, hlb9, hx9⟩ := R1.out.nth (by omega)
      have hlL : n - 1 < L.length := by rw [HN.out]; omega
      have hrk : w1.rangeAt b (off + (n - 1) * 32) (By L[n - 1].1) := hx9 (n - 1) hlL
      have HJ0 : Hid (joined nd em (L.drop (n - 1)) = L[n - 1]) := (show _ = _ by
        rw [List.drop_eq_getElem_cons hlL, List.drop_eq_nil_of_le (by rw [HN.out]; omega)]
        rfl)
      have HX9 := hide hx9
      generalize L[n - 1] = y0 at *
      clear hx9
      have en : (n : Int) - 1 = ((n - 1 : Nat) : Int) := by omega
      obtain ⟨m, HM⟩ : ∃ m, Hid (n - 1 = m) := ⟨_, rfl⟩
      have hmn : m < n := by have := HM.out; omega
      have en2 : (n : Int) - 2 = (m : Int) - 1 := by have := HM.out; omega
      rw [HM.out] at en hrk HJ0
      have BE := Blk.new w1 30 (By zh.1)
      obtain ⟨E, HEw⟩ : ∃ E, Hid (w1.heap.size = E) := ⟨_, rfl⟩
      rw [HEw.out] at BE hlb9
      have q2 : (m : Int) < (n : Int) := by omega
      have HNE : Hid (N + 1 < E) := (show N + 1 < E by rw [← HEw.out]; exact O1.out.lt)
      go_upto_region 4 with (first
        | (refine wpList_load_mid rfl 30 _ rfl b (off + m * 32) rfl (By y0.1) _ hrk Tryd.underlying30 rfl (Tryd.sizeH y0) ?_)
        | (rw [HEw.out]; refine wpList_store_blk rfl 30 _ _ rfl E (By zh.1) (By y0.1) 30 rfl rfl BE (by rw [By_len, By_len]) (Tryd.sizeH y0) (By_one _) ?_; intro w2 hb2 hu2)
        | fail)
      try simp only [Act.put]
      have C0 : Hid (Blk w2 N 27 [.int .i64 s, .slice (some ⟨b, off, none⟩) n cp]) := (B0.out.alloc _).but hu2 (by have := HNE.out; omega)
      have C1 : Hid (Blk w2 (N + 1) 30 (By zh.1)) := (O1.out.alloc _).but hu2 (by have := HNE.out; omega)
      have C2 := hide hb2
      have hb12 : Below E w1 w2 := ((Below.refl _ _).alloc (by rw [HEw.out]; exact Nat.le_refl _) _).trans (hu2.below (Nat.le_refl _) (by simp [HEw.out]))
      have G2 := hide hb12
      have c2 : w2.cell? ⟨N, 1, none⟩ = some (.slice (some ⟨b, off, none⟩) n cp) := C0.out.cell (j := 1) rfl
      clear hb2 hu2 hb12 c0 c1 BE hrk
      go_wp2_with fail
      go_loopg [4] (m + 1) (fun g z wr => ∃ j : Nat, g = j + 1 ∧ j ≤ m ∧ z = .int .i64 ((j : Int) - 1) ∧ Hid (Blk wr E 30 (By (joined nd em (L.drop j)).1)) ∧ Hid (Blk wr N 27 [.int .i64 s, .slice (some ⟨b, off, none⟩) n cp]) ∧ Hid (Blk wr (N + 1) 30 (By zh.1)) ∧ Hid (Below E w1 wr))
      case atStart => exact ⟨m, rfl, Nat.le_refl _, by first | rfl | rw [en2], (show Blk _ _ _ _ by rw [HJ0.out]; exact C2.out), C0.out, C1.out, G2.out⟩
      case round =>
        clear C0 C1 C2 G2 c2 B0 O1
        obtain ⟨j, rfl, hjm, rfl, BX, B0, B1, GR⟩ := hrel
        have L1' : Hid (Below N w wr) := L1.out.trans (GR.out.mono (by have := HNE.out; omega))
        cases j with
        | zero =>
          rw [List.drop_zero] at BX
          obtain ⟨x, HX⟩ : ∃ x, Hid (joined nd em L = x) := ⟨_, rfl⟩
          rw [HX.out] at BX HRP
          have q1 : ¬ (0 : Int) ≤ ((0 : Nat) : Int) - 1 := by omega
          go_wp2_with (first
            | (refine wpList_load_mid rfl 30 _ rfl E 0 rfl (By x.1) _ BX.out.range0 Tryd.underlying30 rfl (Tryd.sizeH x) ?_)
            | (refine wpList_store_blk rfl 30 _ _ rfl (N + 1) (By zh.1) (By x.1) 30 rfl rfl B1.out (by rw [By_len, By_len]) (Tryd.sizeH x) (By_one _) ?_; intro w3 hb3 hu3)
            | fail)
          refine bodyPost_ret (ret_hash rfl _ _ (N + 1) x rfl hb3) rfl ⟨by rw [HRP.out], ?_⟩
          rw [HNw.out]
          exact L1'.out.trans (hu3.below (by omega) (by have := B1.out.lt; omega))
        | succ r =>
        have q1 : (0 : Int) ≤ (((r + 1 : Nat) : Int)) - 1 := by omega
        have er : (((r + 1 : Nat) : Int)) - 1 = (r : Int) := by omega
        have hrn : ¬ n ≤ r := by omega
        have hrn' : (r : Int) < (n : Int) := by omega
        have hrL : r + 1 < L.length := by rw [HN.out]; have := HM.out; omega
        have HJ := hide (joined_drop L r hrL)
        have hry1 : w1.rangeAt b (off + r * 32) (By L[r].1) := HX9.out r (by omega)
        have hry : wr.rangeAt b (off + r * 32) (By L[r].1) := fun i_ u_ hu_ => (GR.out.cell (p := ⟨b, off + r * 32 + i_, none⟩) hlb9).trans (hry1 i_ u_ hu_)
        have hlb9r : b < wr.heap.size := Nat.lt_of_lt_of_le hlb9 (Nat.le_trans (by rw [HEw.out]; exact Nat.le_refl _) GR.out.size)
        generalize L[r] = y at *
        generalize joined nd em (L.drop (r + 1)) = x at *
        rw [er] at q1 ⊢
        clear hry1
        go_upto_region 7 with fail
        refine wp_region_tail Tryd.mixed (KS (fun i_ => match i_ with | 0 => .val (.pointer (some ⟨N, 1, none⟩)) | 1 => .val (.slice (some ⟨b, off, none⟩) n cp) | 2 => .val (.int .i64 (r : Int)) | 3 => .val (.pointer (some ⟨b, off + r * 32, none⟩)) | 4 => .val (HV y) | 5 => .val (HV x) | 6 => .val (HV (nd y x)) | _ => .free)) 38 rfl (by decide +kernel) 7 _ rfl (by decide +kernel) (KS_mono _) ?_ ?_
        · refine AllFrom.cons (fun a' w' hg hk hd => ?_) (AllFrom.cons (fun a' w' hg hk hd => ?_) (AllFrom.cons (fun a' w' hg hk hd => ?_) (AllFrom.cons (fun a' w' hg hk hd => ?_) (AllFrom.cons (fun a' w' hg hk hd => ?_) (AllFrom.cons (fun a' w' hg hk hd => ?_) (AllFrom.cons (fun a' w' hg hk hd => ?_) AllFrom.nil))))))
          · skip
            intro Q
            have e1 : a'.eval (.tmp 1) = .pointer (some ⟨N, 0, none⟩) := hk.at 1 (by decide +kernel)
            clear hd hk
            exact wp_value (.pointer (some ⟨N, 1, none⟩)) (by simp only [execOp, e1]; go_simp) (KS_mkv rfl rfl)
          · skip
            intro Q
            have e30 : a'.eval (.tmp 30) = .pointer (some ⟨N, 1, none⟩) := KS_val (hd.val 0 30 (by decide +kernel)) rfl
            have hc := (B0.out.kept hg).cell (j := 1) rfl
            clear hd hk
            exact wp_value (.slice (some ⟨b, off, none⟩) n cp) (by simp only [execOp, e30]; go_simp) (KS_mkv rfl rfl)
          · skip
            intro Q
            have e4 : a'.eval (.tmp 4) = .int .i64 (r : Int) := hk.at 4 (by decide +kernel)
            exact wp_value _ (by simp only [execOp, e4]; rfl) (KS_mkv rfl rfl)
          · skip
            intro Q
            have e31 : a'.eval (.tmp 31) = .slice (some ⟨b, off, none⟩) n cp := KS_val (hd.val 1 31 (by decide +kernel)) rfl
            have e32 : a'.eval (.tmp 32) = .int .i64 (r : Int) := KS_val (hd.val 2 32 (by decide +kernel)) rfl
            clear hd hk
            exact wp_value (.pointer (some ⟨b, off + r * 32, none⟩)) (by simp only [execOp, e31, e32]; go_simp) (KS_mkv rfl rfl)
          · skip
            intro Q
            have e33 : a'.eval (.tmp 33) = .pointer (some ⟨b, off + r * 32, none⟩) := KS_val (hd.val 3 33 (by decide +kernel)) rfl
            exact wp_load_row 30 _ rfl _ _ e33 (By (y).1) _ (rangeAt_kept9 hry hlb9r hg) Tryd.underlying30 rfl (Tryd.sizeH _) (KS_mkv rfl rfl)
          · skip
            intro Q
            have e3 : a'.eval (.tmp 3) = .pointer (some ⟨E, 0, none⟩) := hk.at 3 (by decide +kernel)
            exact wp_load_row 30 _ rfl _ _ e3 (By (x).1) _ ((BX.out.kept hg).range0) Tryd.underlying30 rfl (Tryd.sizeH _) (KS_mkv rfl rfl)
          · skip
            intro Q
            have e34 : a'.eval (.tmp 34) = HV y := KS_val (hd.val 4 34 (by decide +kernel)) rfl
            have e35 : a'.eval (.tmp 35) = HV x := KS_val (hd.val 5 35 (by decide +kernel)) rfl
            refine wp_call 20 _ (run_enter 20 _ _ rfl (by kernel_rfl)) ?_
            simp only [List.map_toArray, List.map_nil, List.map_cons, e34, e35]
            refine (rnode_any _ _ _).mono ?_
            rintro e w5 ⟨rfl, hb5⟩
            exact ⟨_, rfl, KS_mkv rfl rfl, hb5⟩
        · intro a' w' hsz hdf hk hall hg
          have ev : a'.eval (.tmp 36) = HV (nd y x) := KS_val (hall 6 _ 36 (by decide) rfl rfl) rfl
          have ep : a'.eval (.tmp 3) = .pointer (some ⟨E, 0, none⟩) := hk.at 3 (by decide +kernel)
          have MX := BX.out.kept hg
          have M0 := B0.out.kept hg
          have M1 := B1.out.kept hg
          have MG : Below E w1 w' := GR.out.trans (Below.mono hg (Nat.le_of_lt BX.out.lt))
          refine wp_store_blk 30 _ _ rfl E (By x.1) (By (nd y x).1) 30 ep ev MX (by rw [By_len, By_len]) (Tryd.sizeH _) (By_one _) ?_
          intro w2 hb2 hu2
          have Q0 := hide (M0.but hu2 (by have := HNE.out; omega))
          have Q1 := hide (M1.but hu2 (by have := HNE.out; omega))
          have QX : Hid (Blk w2 E 30 (By (joined nd em (L.drop r)).1)) := (show Blk _ _ _ _ by rw [HJ.out]; exact hb2)
          have QG : Hid (Below E w1 w2) := MG.trans (hu2.below (Nat.le_refl _) (Nat.le_of_lt MX.lt))
          clear MX M0 M1 MG hb2 hu2 ev ep
          have e30 : a'.eval (.tmp 30) = .pointer (some ⟨N, 1, none⟩) := KS_val (hall 0 _ 30 (by decide) rfl rfl) rfl
          have e31 : a'.eval (.tmp 31) = .slice (some ⟨b, off, none⟩) n cp := KS_val (hall 1 _ 31 (by decide) rfl rfl) rfl
          have e32 : a'.eval (.tmp 32) = .int .i64 (r : Int) := KS_val (hall 2 _ 32 (by decide) rfl rfl) rfl
          have e33 : a'.eval (.tmp 33) = .pointer (some ⟨b, off + r * 32, none⟩) := KS_val (hall 3 _ 33 (by decide) rfl rfl) rfl
          have e34 : a'.eval (.tmp 34) = HV y := KS_val (hall 4 _ 34 (by decide) rfl rfl) rfl
          have e35 : a'.eval (.tmp 35) = HV x := KS_val (hall 5 _ 35 (by decide) rfl rfl) rfl
          have e36 : a'.eval (.tmp 36) = HV (nd y x) := KS_val (hall 6 _ 36 (by decide) rfl rfl) rfl
          have ha := act_puts 38 rfl hsz hdf hk [30, 31, 32, 33, 34, 35, 36] (by decide +kernel)
          simp only [puts, List.foldl_cons, List.foldl_nil, e30, e31, e32, e33, e34, e35, e36] at ha
          simp only [Act.put, List.setIfInBounds_toArray, List.set_cons_succ, List.set_cons_zero] at ha
          clear hall hk hsz hdf e30 e31 e32 e33 e34 e35 e36
          subst ha
          simp only [Act.put]
          go_wp2
          go_roundg (r + 1)
          case measure => omega
          case rel => exact ⟨r, rfl, by omega, by go_num, QX.out, Q0.out, Q1.out, QG.out⟩
#print axioms nproot_any
end Go.Proofs.YtinlpaabmojmkaaDoor
