/-
  What is put of a record: put: what the call does.
-/
import Derived.Test.YtmicmbjbclkbjaaRcT
namespace Go.Proofs.Ytmicmbjbclkbjaa
open Go.RowKit
/-- A record, plain. -/
def pdR (r : Rc) : Pd := ⟨r.ses.toNat, r.snap.toNat, r.st, r.rs.map plR, r.ws⟩
theorem zeroK (W : World) : (zeroValue 77).run Try.prog W = .ok (.agg #[.slice none 0 0]) W := by kernel_rfl
theorem Blk.rses {w : World} {b : Nat} {T : TypeId} {r : Rc} (h : Blk w b T (RC r)) : w.cell? ⟨b, 0, none⟩ = some (.int .i64 r.ses) := h.cell (j := 0) rfl
theorem Blk.rsnap {w : World} {b : Nat} {T : TypeId} {r : Rc} (h : Blk w b T (RC r)) : w.cell? ⟨b, 1, none⟩ = some (.int .i64 r.snap) := h.cell (j := 1) rfl
set_option maxHeartbeats 4000000 in
set_option maxRecDepth 100000 in
theorem jput_any {w : World} {r : Rc} (hr : ROk w r) (ho : okD (pdR r)) (h1 : 0 ≤ r.ses) (h2 : 0 ≤ r.snap) :
    Calls Try.prog 26 #[.agg (RC r).toArray] w fun e w' => ∃ v, e = .returned v ∧ Own w' w.heap.size v (eD (pdR r)) ∧ Below w.heap.size w w' := by
  obtain ⟨N, HN⟩ : ∃ N, Hid (w.heap.size = N) := ⟨_, rfl⟩
  obtain ⟨w1, hw1⟩ : ∃ y, y = w.alloc (.cells (RC r).toArray 27 (0, 0)) := ⟨_, rfl⟩
  obtain ⟨b1, l1⟩ := newB HN hw1
  have HW := hide hw1
  obtain ⟨D, HD⟩ : ∃ N, Hid (w1.heap.size = N) := ⟨_, rfl⟩
  obtain ⟨w2, hw2⟩ : ∃ y, y = w1.alloc (.cells #[.slice none 0 0] 77 (0, 0)) := ⟨_, rfl⟩
  obtain ⟨k2, l2⟩ := newB (A := [.slice none 0 0]) HD hw2
  have HW2 := hide hw2
  have S2 : Hid (Snk w2 D D []) := (show Snk _ _ _ _ from ⟨_, k2.out, World.ownsRow_nil _ _ _ _⟩)
  have LW2 : Hid (Below w.heap.size w w2) := (show Below _ _ _ from l1.out.trans (l2.out.mono l1.out.size))
  have B2 := hide (b1.out.kept l2.out)
  have HND : Hid (N < D) := (show N < D by have := b1.out.lt; rw [HD.out] at this; exact this)
  have HWN : Hid (w.heap.size ≤ D) := (show _ ≤ _ by rw [← HD.out]; exact l1.out.size)
  have HBB : Hid (∀ wr, Chg (SkF w2 D) w2 wr → Blk wr N 27 (RC r)) := (show ∀ wr, _ from fun wr hc => hc.sk B2.out (by decide) (by decide))
  have HD2 : Hid (D ≤ w2.heap.size) := (show _ ≤ _ from Nat.le_of_lt k2.out.lt)
  have HBL : Hid (∀ wr, Chg (SkF w2 D) w2 wr → Below w.heap.size w wr) := (show ∀ wr, _ from fun wr hc => LW2.out.trans ((hc.skBelow HD2.out).mono HWN.out))
  have C2 : Hid (Chg (SkF w2 D) w2 w2) := (show Chg _ _ _ from Chg.refl _ _)
  have RO := hide hr
  have OD := hide ho
  obtain ⟨a, Ha⟩ : ∃ a : Nat, Hid (r.ses = (a : Int)) := ⟨r.ses.toNat, (show r.ses = _ by omega)⟩
  obtain ⟨b, Hb⟩ : ∃ b : Nat, Hid (r.snap = (b : Int)) := ⟨r.snap.toNat, (show r.snap = _ by omega)⟩
  have ha8 : a ≤ 8 := by have := ho.a; have h3 : r.ses.toNat ≤ 8 := this; rw [Ha.out] at h3; omega
  have hb8 : b ≤ 1099511627776 := by have := ho.b; have h3 : r.snap.toNat ≤ 1099511627776 := this; rw [Hb.out] at h3; omega
  obtain ⟨st, HSt⟩ : ∃ z, Hid (r.st = z) := ⟨_, rfl⟩
  obtain ⟨Rs, HRs⟩ : ∃ z, Hid (r.rs = z) := ⟨_, rfl⟩
  obtain ⟨Ws, HWs⟩ : ∃ z, Hid (r.ws = z) := ⟨_, rfl⟩
  obtain ⟨n, HRl⟩ : ∃ z, Hid (Rs.length = z) := ⟨_, rfl⟩
  obtain ⟨m, HWl⟩ : ∃ z, Hid (Ws.length = z) := ⟨_, rfl⟩
  obtain ⟨ra, HRA⟩ : ∃ z, Hid (r.ra = z) := ⟨_, rfl⟩
  obtain ⟨rc, HRC⟩ : ∃ z, Hid (r.rc = z) := ⟨_, rfl⟩
  obtain ⟨wa, HWA⟩ : ∃ z, Hid (r.wa = z) := ⟨_, rfl⟩
  obtain ⟨wc, HWC⟩ : ∃ z, Hid (r.wc = z) := ⟨_, rfl⟩
  have HRCc : Hid (RC r = [.int .i64 (a : Int), .int .i64 (b : Int), .bool st, .slice ra n rc, .slice wa m wc]) := (show _ = _ by
    unfold RC
    rw [Ha.out, Hb.out, HSt.out, HRs.out, HWs.out, HRl.out, HWl.out, HRA.out, HRC.out, HWA.out, HWC.out])
  have HXR : Hid (RdX w (.slice ra n rc) Rs) := (show RdX _ _ _ by
    have h := hr.rs
    unfold rv at h
    rwa [HRs.out, HRl.out, HRA.out, HRC.out] at h)
  have HXW : Hid (RdG PE w (.slice wa m wc) Ws) := (show RdG _ _ _ _ by
    have h := hr.ws
    unfold wv at h
    rwa [HWs.out, HWl.out, HWA.out, HWC.out] at h)
  have hn64 : n ≤ 64 := by have := ho.rl; have h3 : (r.rs.map plR).length ≤ 64 := this; rw [List.length_map, HRs.out, HRl.out] at h3; exact h3
  have hm64 : m ≤ 64 := by have := ho.wl; have h3 : r.ws.length ≤ 64 := this; rw [HWs.out, HWl.out] at h3; exact h3
  have HRX : Hid (∀ x ∈ Rs, okX (plR x)) := (show _ from fun x hx => ho.rs _ (List.mem_map.2 ⟨x, by rw [HRs.out]; exact hx, rfl⟩))
  have HWX : Hid (∀ p ∈ Ws, okW p) := (show _ from fun x hx => ho.ws _ (by show x ∈ r.ws; rw [HWs.out]; exact hx))
  have HER : Hid (eD (pdR r) = enc a ++ (enc b ++ (fl st ++ (enc n ++ ((Rs.map plR).flatMap eR ++ (enc m ++ Ws.flatMap eW)))))) := (show _ = _ by
    unfold eD pdR eL
    simp only [Ha.out, Hb.out, HSt.out, HRs.out, HWs.out, HWl.out, List.length_map, HRl.out, Int.toNat_natCast, List.append_assoc])
  rw [HRCc.out] at HBB B2
  have hea := (enc_length a).2
  have heb := (enc_length b).2
  have hen := (enc_length n).2
  have hem := (enc_length m).2
  have hz := zeroK
  have hb1 := build_int1
  have hb2 := build_int2
  have CF := hide (jnum2_any S2.out (Nat.le_refl D) (by simp) a b (by omega) (by omega) rfl)
  have d0 := B2.out.cell (j := 0) rfl
  have d1 := B2.out.cell (j := 1) rfl
  clear hr ho h1 h2 hw1 hw2 b1
  go_enter Try.func26, Try.ntmps26
  go_upto_region 1 with fail
  change Code.wp _ _ _ _ (w.alloc (.cells (RC r).toArray 27 (0, 0)))
  rw [← HW.out, HN.out]
  go_upto_region 2 with fail
  change Code.wp _ _ _ _ (w1.alloc (.cells #[.slice none 0 0] 77 (0, 0)))
  rw [← HW2.out, HD.out]
  go_wp2_with fail
  refine CF.out.mono ?_
  rintro e w3 ⟨rfl, s3, c3⟩
  have S3 := hide s3
  have C3 : Hid (Chg (SkF w2 D) w2 w3) := (show Chg _ _ _ from SkF.trans C2.out c3)
  have B3 := hide (HBB.out w3 C3.out)
  clear s3 c3 CF d0 d1
  have d2 := B3.out.cell (j := 2) rfl
  have CF := hide (jflag_any S3.out (Nat.le_refl D) (by simp; omega) st)
  go_wp2_with fail
  refine CF.out.mono ?_
  rintro e w4 ⟨rfl, s4, c4⟩
  have S4 := hide s4
  have C4 : Hid (Chg (SkF w2 D) w2 w4) := (show Chg _ _ _ from SkF.trans C3.out c4)
  have B4 := hide (HBB.out w4 C4.out)
  clear s4 c4 CF d2
  have d3 := B4.out.cell (j := 3) rfl
  have CF := hide (jnum_any S4.out (Nat.le_refl D) (by simp [fl]; omega) n (by omega) rfl)
  go_wp2_with fail
  refine CF.out.mono ?_
  rintro e w5 ⟨rfl, s5, c5⟩
  have S5 := hide s5
  have C5 : Hid (Chg (SkF w2 D) w2 w5) := (show Chg _ _ _ from SkF.trans C4.out c5)
  have B5 := hide (HBB.out w5 C5.out)
  clear s5 c5 CF d3
  obtain ⟨LT, HLT⟩ : ∃ z, Hid (([] : List UInt8) ++ (enc a ++ enc b) ++ fl st ++ enc n = z) := ⟨_, rfl⟩
  have S5' := S5.out
  rw [HLT.out] at S5'
  have hlt9 : LT.length ≤ 28 := by rw [← HLT.out]; simp [fl]; omega
  have S0 : Hid (Snk w5 D D (LT ++ ((Rs.take 0).map plR).flatMap eR)) := (show Snk _ _ _ _ by simpa using S5')
  have R0 := C5
  clear S5 S5'
  have d3 := B5.out.cell (j := 3) rfl
  go_wp2_with fail
  clear d3
  go_loopg [25] (n + 1) (fun g_ z wr => ∃ (i : Nat), i ≤ n ∧ g_ + i = n + 1 ∧ z = .int .i64 (i : Int) ∧ Hid (Snk wr D D (LT ++ ((Rs.take i).map plR).flatMap eR)) ∧ Hid (Chg (SkF w2 D) w2 wr))
  case atStart => exact ⟨0, Nat.zero_le _, by omega, rfl, S0, R0⟩
  case round =>
    clear S0 R0
    obtain ⟨i, hi, hg, rfl, SR, CR⟩ := hrel
    by_cases hlt : i < n
    · have hlt' : (i : Int) < (n : Int) := by omega
      have hlt2 : i < Rs.length := by rw [HRl.out]; exact hlt
      have RB := HXR.out.kept (HBL.out wr CR.out)
      obtain ⟨bb, off, rfl, hb3, hx⟩ := RB.rd.nth (by omega)
      have hrow : wr.rangeAt bb (off + i * 4) (XC Rs[i]) := hx i hlt2
      have hok := HRX.out Rs[i] (List.getElem_mem hlt2)
      have hxp := HXR.out.ps Rs[i] (List.getElem_mem hlt2)
      have HT : Hid (((Rs.take (i + 1)).map plR).flatMap eR = ((Rs.take i).map plR).flatMap eR ++ eR (plR Rs[i])) := (show _ = _ by rw [List.take_succ_eq_append_getElem hlt2, List.map_append, List.flatMap_append, List.map_singleton, List.flatMap_singleton])
      have HTL : Hid ((((Rs.take i).map plR).flatMap eR).length ≤ 4339200) := (show _ ≤ _ by
        have h1 := fm_length (e := eR) (B := 67800) (l := ((Rs.take i).map plR)) (fun x hx => by
          obtain ⟨y, hy, rfl⟩ := List.mem_map.1 hx
          exact eR_length (HRX.out y (List.mem_of_mem_take hy)))
        rw [List.length_map, List.length_take, HRl.out] at h1
        have : min i n * 67800 ≤ 64 * 67800 := Nat.mul_le_mul_right _ (by omega)
        omega)
      obtain ⟨x, HXx⟩ : ∃ p, Hid (Rs[i] = p) := ⟨Rs[i], (show Rs[i] = Rs[i] from rfl)⟩
      rw [HXx.out] at hrow hok HT hxp
      obtain ⟨L9, HL9⟩ : ∃ z, Hid (LT ++ ((Rs.take i).map plR).flatMap eR = z) := ⟨_, rfl⟩
      rw [HL9.out] at SR
      have hl9 : L9.length ≤ 10000000 := by rw [← HL9.out, List.length_append]; have := HTL.out; omega
      obtain ⟨E, HE⟩ : ∃ E, Hid (wr.heap.size = E) := ⟨_, rfl⟩
      obtain ⟨w6, hw6⟩ : ∃ y, y = wr.alloc (.cells (XC x).toArray 39 (0, 0)) := ⟨_, rfl⟩
      obtain ⟨b6, l6⟩ := newB HE hw6
      have HW6 := hide hw6
      have C6 : Hid (Chg (SkF w2 D) w2 w6) := (show Chg _ _ _ from SkF.trans CR.out (Chg.of_below l6.out))
      have S6 := hide (SR.out.kept l6.out)
      have rk := b6.out.range0
      have CF := hide (jread_any (w0 := w) S6.out (Nat.le_refl D) (by omega) hxp (HBL.out w6 C6.out) HWN.out hok)
      clear hx hw6 RB SR hok hxp
      go_upto_region 8 with (first
        | (refine wpList_load_mid rfl 39 _ rfl bb (off + i * 4) rfl (XC x) _ hrow Try.underlying39 rfl Try.size39 ?_)
        | (refine wpList_store_new rfl 39 _ _ rfl wr _ (XC x).toArray _ rfl rfl rfl Try.size39 rfl (all_one (XC_one x)) ?_; rw [← HW6.out, HE.out])
        | fail)
      try simp only [Act.put]
      clear hrow
      go_wp2_with (first
        | (refine wpList_load_mid rfl 39 _ rfl E 0 rfl (XC x) _ rk Try.underlying39 rfl Try.size39 ?_)
        | fail)
      refine CF.out.mono ?_
      rintro e w7 ⟨rfl, s7, c7⟩
      have C7 : Hid (Chg (SkF w2 D) w2 w7) := (show Chg _ _ _ from SkF.trans C6.out c7)
      have S9 : Hid (Snk w7 D D (LT ++ ((Rs.take (i + 1)).map plR).flatMap eR)) := (show Snk _ _ _ _ by rw [HT.out, ← List.append_assoc, HL9.out]; exact s7)
      clear s7 c7 CF rk
      go_wp2_with fail
      go_roundg (n - i)
      case measure => omega
      case rel => exact ⟨i + 1, by omega, by omega, by go_num, S9, C7⟩
    · obtain rfl : i = n := by omega
      have hlt' : ¬ (i : Int) < i := by omega
      have hfull : Rs.take i = Rs := List.take_of_length_le (by rw [HRl.out]; exact Nat.le_refl _)
      rw [hfull] at SR
      clear hfull
      have HRM : Hid (((Rs.map plR).flatMap eR).length ≤ 4339200) := (show _ ≤ _ by
        have h1 := fm_length (e := eR) (B := 67800) (l := Rs.map plR) (fun x hx => by
          obtain ⟨y, hy, rfl⟩ := List.mem_map.1 hx
          exact eR_length (HRX.out y hy))
        rw [List.length_map, HRl.out] at h1
        have : i * 67800 ≤ 64 * 67800 := Nat.mul_le_mul_right _ (by omega)
        omega)
      have B6 := hide (HBB.out wr CR.out)
      have d4 := B6.out.cell (j := 4) rfl
      have CF := hide (jnum_any SR.out (Nat.le_refl D) (by rw [List.length_append]; have := HRM.out; omega) m (by omega) rfl)
      go_wp2_with fail
      refine CF.out.mono ?_
      rintro e w8 ⟨rfl, s8, c8⟩
      have C8 : Hid (Chg (SkF w2 D) w2 w8) := (show Chg _ _ _ from SkF.trans CR.out c8)
      obtain ⟨LT2, HLT2⟩ : ∃ z, Hid (LT ++ (Rs.map plR).flatMap eR ++ enc m = z) := ⟨_, rfl⟩
      rw [HLT2.out] at s8
      have hlt8 : LT2.length ≤ 4339300 := by rw [← HLT2.out, List.length_append, List.length_append]; have := HRM.out; omega
      have S0 : Hid (Snk w8 D D (LT2 ++ (Ws.take 0).flatMap eW)) := (show Snk _ _ _ _ by simpa using s8)
      have R0 := C8
      have B8 := hide (HBB.out w8 C8.out)
      clear s8 c8 CF d4 SR CR
      have d4 := B8.out.cell (j := 4) rfl
      go_wp2_with fail
      clear d4
      go_loopg [40] (m + 1) (fun g_ z wr => ∃ (i : Nat), i ≤ m ∧ g_ + i = m + 1 ∧ z = .int .i64 (i : Int) ∧ Hid (Snk wr D D (LT2 ++ (Ws.take i).flatMap eW)) ∧ Hid (Chg (SkF w2 D) w2 wr))
      case atStart => exact ⟨0, Nat.zero_le _, by omega, rfl, S0, R0⟩
      case round =>
        clear S0 R0
        obtain ⟨i, hi, hg, rfl, SR, CR⟩ := hrel
        by_cases hlt : i < m
        · have hlt' : (i : Int) < (m : Int) := by omega
          have hlt2 : i < Ws.length := by rw [HWl.out]; exact hlt
          have RB := HXW.out.kept (HBL.out wr CR.out)
          obtain ⟨bb, off, rfl, hb3, hx⟩ := RB.nth (by omega)
          have hrow : wr.rangeAt bb (off + i * 3) (PC Ws[i]) := hx i hlt2
          have hok := HWX.out Ws[i] (List.getElem_mem hlt2)
          have HT : Hid ((Ws.take (i + 1)).flatMap eW = (Ws.take i).flatMap eW ++ eW Ws[i]) := (show _ = _ by rw [List.take_succ_eq_append_getElem hlt2, List.flatMap_append, List.flatMap_singleton])
          have HTL : Hid (((Ws.take i).flatMap eW).length ≤ 25600) := (show _ ≤ _ by
            have h1 := fm_length (e := eW) (B := 400) (l := (Ws.take i)) (fun x hx => by
              exact eW_length (HWX.out x (List.mem_of_mem_take hx)))
            rw [List.length_take, HWl.out] at h1
            have : min i m * 400 ≤ 64 * 400 := Nat.mul_le_mul_right _ (by omega)
            omega)
          obtain ⟨x, HXx⟩ : ∃ p, Hid (Ws[i] = p) := ⟨Ws[i], (show Ws[i] = Ws[i] from rfl)⟩
          rw [HXx.out] at hrow hok HT
          obtain ⟨L9, HL9⟩ : ∃ z, Hid (LT2 ++ (Ws.take i).flatMap eW = z) := ⟨_, rfl⟩
          rw [HL9.out] at SR
          have hl9 : L9.length ≤ 10000000 := by rw [← HL9.out, List.length_append]; have := HTL.out; omega
          obtain ⟨E, HE⟩ : ∃ E, Hid (wr.heap.size = E) := ⟨_, rfl⟩
          obtain ⟨w6, hw6⟩ : ∃ y, y = wr.alloc (.cells (PC x).toArray 41 (0, 0)) := ⟨_, rfl⟩
          obtain ⟨b6, l6⟩ := newB HE hw6
          have HW6 := hide hw6
          have C6 : Hid (Chg (SkF w2 D) w2 w6) := (show Chg _ _ _ from SkF.trans CR.out (Chg.of_below l6.out))
          have S6 := hide (SR.out.kept l6.out)
          have rk := b6.out.range0
          have CF := hide (jwrite_any S6.out (Nat.le_refl D) (by omega) hok)
          clear hx hw6 RB SR hok
          go_upto_region 14 with (first
            | (refine wpList_load_mid rfl 41 _ rfl bb (off + i * 3) rfl (PC x) _ hrow Try.underlying41 rfl Try.size41 ?_)
            | (refine wpList_store_new rfl 41 _ _ rfl wr _ (PC x).toArray _ rfl rfl rfl Try.size41 rfl (all_one (PC_one x)) ?_; rw [← HW6.out, HE.out])
            | fail)
          try simp only [Act.put]
          clear hrow
          go_wp2_with (first
            | (refine wpList_load_mid rfl 41 _ rfl E 0 rfl (PC x) _ rk Try.underlying41 rfl Try.size41 ?_)
            | fail)
          refine CF.out.mono ?_
          rintro e w7 ⟨rfl, s7, c7⟩
          have C7 : Hid (Chg (SkF w2 D) w2 w7) := (show Chg _ _ _ from SkF.trans C6.out c7)
          have S9 : Hid (Snk w7 D D (LT2 ++ (Ws.take (i + 1)).flatMap eW)) := (show Snk _ _ _ _ by rw [HT.out, ← List.append_assoc, HL9.out]; exact s7)
          clear s7 c7 CF rk
          go_wp2_with fail
          go_roundg (m - i)
          case measure => omega
          case rel => exact ⟨i + 1, by omega, by omega, by go_num, S9, C7⟩
        · obtain rfl : i = m := by omega
          have hlt' : ¬ (i : Int) < i := by omega
          have hfull : Ws.take i = Ws := List.take_of_length_le (by rw [HWl.out]; exact Nat.le_refl _)
          rw [hfull] at SR
          clear hfull
          obtain ⟨v, hv, hov⟩ := SR.out
          obtain ⟨p9, c9, rfl⟩ := own_form8 hov
          have dv := hv.cell (j := 0) rfl
          have O9 : Hid (Own wr w.heap.size (.slice p9 (LT2 ++ Ws.flatMap eW).length c9) (eD (pdR r))) := (show Own _ _ _ _ by
            rw [HER.out]
            have h1 := hov.mono HWN.out
            rw [← HLT2.out, ← HLT.out] at h1 ⊢
            simpa only [List.append_assoc, List.nil_append] using h1)
          have L9 := hide (HBL.out wr CR.out)
          generalize (LT2 ++ Ws.flatMap eW).length = n9 at dv O9
          clear hv hov SR
          go_wp2_with fail
          go_ret
          exact ⟨_, rfl, O9.out, L9.out⟩
#print axioms jput_any
end Go.Proofs.Ytmicmbjbclkbjaa
