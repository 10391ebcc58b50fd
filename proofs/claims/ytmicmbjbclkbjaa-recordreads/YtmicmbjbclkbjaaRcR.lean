/-
  The document's bytes: what the call does.
-/
import Derived.Test.YtmicmbjbclkbjaaRcK
import Derived.Test.YtmicmbjbclkbjaaPkA
import Derived.Test.YtmicmbjbclkbjaaRegion19
namespace Go.Proofs.Ytmicmbjbclkbjaa
open Go.RowKit
set_option maxHeartbeats 16000000 in
set_option maxRecDepth 100000 in
theorem kbytes_any {w : World} {r : Rc} (hr : ROk w r) (ho : okD (pdR r)) (h1 : 0 ≤ r.ses) (h2 : 0 ≤ r.snap) :
    Calls Try.prog 51 #[.agg (RC r).toArray] w fun e w' => ∃ v, e = .returned v ∧ Rd w' v (eD (pdR r)) ∧ Below w.heap.size w w' := by
  obtain ⟨N, HN⟩ : ∃ N, Hid (w.heap.size = N) := ⟨_, rfl⟩
  obtain ⟨w1, hw1⟩ : ∃ y, y = w.alloc (.cells (RC r).toArray 27 (0, 0)) := ⟨_, rfl⟩
  obtain ⟨b1, l1⟩ := newB HN hw1
  have HW := hide hw1
  have OD := hide ho
  have RO := hide (hr.kept l1.out)
  obtain ⟨a, Ha⟩ : ∃ a : Nat, Hid (r.ses = (a : Int)) := ⟨r.ses.toNat, (show r.ses = _ by omega)⟩
  obtain ⟨b, Hb⟩ : ∃ b : Nat, Hid (r.snap = (b : Int)) := ⟨r.snap.toNat, (show r.snap = _ by omega)⟩
  have ha8 : a ≤ 8 := by have := ho.a; have h3 : r.ses.toNat ≤ 8 := this; rw [Ha.out] at h3; omega
  have hb8 : b ≤ 1099511627776 := by have := ho.b; have h3 : r.snap.toNat ≤ 1099511627776 := this; rw [Hb.out] at h3; omega
  obtain ⟨st, HSt⟩ : ∃ z, Hid (r.st = z) := ⟨_, rfl⟩
  obtain ⟨Rs, HRs⟩ : ∃ z, Hid (r.rs = z) := ⟨_, rfl⟩
  obtain ⟨Ws, HWs⟩ : ∃ z, Hid (r.ws = z) := ⟨_, rfl⟩
  obtain ⟨n, HRl⟩ : ∃ z, Hid (Rs.length = z) := ⟨_, rfl⟩
  obtain ⟨m, HWl⟩ : ∃ z, Hid (Ws.length = z) := ⟨_, rfl⟩
  obtain ⟨ra, HRA⟩ : ∃ z, Hid (r.ra = z) := ⟨_, rfl⟩
  obtain ⟨rc, HRC⟩ : ∃ z, Hid (r.rc = z) := ⟨_, rfl⟩
  obtain ⟨wa, HWA⟩ : ∃ z, Hid (r.wa = z) := ⟨_, rfl⟩
  obtain ⟨wc, HWC⟩ : ∃ z, Hid (r.wc = z) := ⟨_, rfl⟩
  have HRCc : Hid (RC r = [.int .i64 (a : Int), .int .i64 (b : Int), .bool st, .slice ra n rc, .slice wa m wc]) := (show _ = _ by
    unfold RC
    rw [Ha.out, Hb.out, HSt.out, HRs.out, HWs.out, HRl.out, HWl.out, HRA.out, HRC.out, HWA.out, HWC.out])
  have HXR : Hid (RdX w1 (.slice ra n rc) Rs) := (show RdX _ _ _ by
    have h := RO.out.rs
    unfold rv at h
    rwa [HRs.out, HRl.out, HRA.out, HRC.out] at h)
  have HXW : Hid (RdG PE w1 (.slice wa m wc) Ws) := (show RdG _ _ _ _ by
    have h := RO.out.ws
    unfold wv at h
    rwa [HWs.out, HWl.out, HWA.out, HWC.out] at h)
  have hn64 : n ≤ 64 := by have := ho.rl; have h3 : (r.rs.map plR).length ≤ 64 := this; rw [List.length_map, HRs.out, HRl.out] at h3; exact h3
  have hm64 : m ≤ 64 := by have := ho.wl; have h3 : r.ws.length ≤ 64 := this; rw [HWs.out, HWl.out] at h3; exact h3
  have HRX : Hid (∀ x ∈ Rs, okX (plR x)) := (show ∀ x ∈ Rs, _ from fun x hx => ho.rs _ (List.mem_map.2 ⟨x, by rw [HRs.out]; exact hx, rfl⟩))
  have HWX : Hid (∀ p ∈ Ws, okW p) := (show ∀ p ∈ Ws, _ from fun x hx => ho.ws _ (by show x ∈ r.ws; rw [HWs.out]; exact hx))
  have HER : Hid (eD (pdR r) = enc a ++ (enc b ++ (fl st ++ (enc n ++ ((Rs.map plR).flatMap eR ++ (enc m ++ Ws.flatMap eW)))))) := (show _ = _ by
    unfold eD pdR eL
    simp only [Ha.out, Hb.out, HSt.out, HRs.out, HWs.out, HWl.out, List.length_map, HRl.out, Int.toNat_natCast, List.append_assoc])
  have b1' := b1.out
  rw [HRCc.out] at b1'
  have B1 := hide b1'
  have hea := (enc_length a).2
  have heb := (enc_length b).2
  have hen := (enc_length n).2
  have hem := (enc_length m).2
  clear hr ho h1 h2 hw1 b1' b1
  go_enter Try.func51, Try.ntmps51
  go_upto_region 1 with fail
  change Code.wp _ _ _ _ (w.alloc (.cells (RC r).toArray 27 (0, 0)))
  rw [← HW.out, HN.out]
  refine wp_region_inv Try.mixed (KS (fun i_ => match i_ with | 0 => .val (.pointer (some ⟨N, 0, none⟩)) | 1 => .val (.int .i64 (a : Int)) | 2 => .val (.int .u64 (a : Int)) | 3 => .rd (([] : List UInt8) ++ enc a) | 4 => .val (.pointer (some ⟨N, 1, none⟩)) | 5 => .val (.int .i64 (b : Int)) | 6 => .val (.int .u64 (b : Int)) | 7 => .rd (([] : List UInt8) ++ enc a ++ enc b) | 8 => .val (.pointer (some ⟨N, 2, none⟩)) | 9 => .val (.bool st) | 10 | 11 => .rd (([] : List UInt8) ++ enc a ++ enc b ++ fl st) | _ => .free)) 98 rfl (by decide +kernel) (KS_mono _) ?_ ?_
  · refine AllFrom.cons (fun a' w' hg hk hd => ?_) (AllFrom.cons (fun a' w' hg hk hd => ?_) (AllFrom.cons (fun a' w' hg hk hd => ?_) (AllFrom.cons (fun a' w' hg hk hd => ?_) (AllFrom.cons (fun a' w' hg hk hd => ?_) (AllFrom.cons (fun a' w' hg hk hd => ?_) (AllFrom.cons (fun a' w' hg hk hd => ?_) (AllFrom.cons (fun a' w' hg hk hd => ?_) (AllFrom.cons (fun a' w' hg hk hd => ?_) (AllFrom.cons (fun a' w' hg hk hd => ?_) (AllFrom.cons (fun a' w' hg hk hd => ?_) (AllFrom.cons (fun a' w' hg hk hd => ?_) AllFrom.nil)))))))))))
    · skip
      intro Q
      have e1 : a'.eval (.tmp 1) = .pointer (some ⟨N, 0, none⟩) := hk.at 1 (by decide +kernel)
      clear hd hk
      exact wp_value (.pointer (some ⟨N, 0, none⟩)) (by simp only [execOp, e1]; go_simp) (KS_mkv rfl rfl)
    · skip
      intro Q
      have e10 : a'.eval (.tmp 10) = .pointer (some ⟨N, 0, none⟩) := KS_val (hd.val 0 10 (by decide +kernel)) rfl
      have hc := (B1.out.kept hg).cell (j := 0) rfl
      clear hd hk
      exact wp_value (.int .i64 (a : Int)) (by simp only [execOp, e10]; go_simp) (KS_mkv rfl rfl)
    · skip
      intro Q
      have e11 : a'.eval (.tmp 11) = .int .i64 (a : Int) := KS_val (hd.val 1 11 (by decide +kernel)) rfl
      clear hd hk
      exact wp_value (.int .u64 (a : Int)) (by simp only [execOp, e11]; go_simp; first | done | (simp only [IntKind.wrap_u64]; congr 2; omega) | omega) (KS_mkv rfl rfl)
    · skip
      intro Q
      have e12 : a'.eval (.tmp 12) = .int .u64 (a : Int) := KS_val (hd.val 2 12 (by decide +kernel)) rfl
      refine wp_call 67 _ (run_enter 67 _ _ rfl (by kernel_rfl)) ?_
      simp only [List.map_toArray, List.map_nil, List.map_cons, e12]
      refine (refNum_any _ (([] : List UInt8)) a w' (Rd_nil _) (show _ < _ by rw [p8]; omega) (by simp)).mono ?_
      rintro e w5 ⟨v5, rfl, o5, hb5⟩
      exact ⟨v5, rfl, KS_mkr rfl o5.rd, hb5⟩
    · skip
      intro Q
      have e1 : a'.eval (.tmp 1) = .pointer (some ⟨N, 0, none⟩) := hk.at 1 (by decide +kernel)
      clear hd hk
      exact wp_value (.pointer (some ⟨N, 1, none⟩)) (by simp only [execOp, e1]; go_simp) (KS_mkv rfl rfl)
    · skip
      intro Q
      have e14 : a'.eval (.tmp 14) = .pointer (some ⟨N, 1, none⟩) := KS_val (hd.val 4 14 (by decide +kernel)) rfl
      have hc := (B1.out.kept hg).cell (j := 1) rfl
      clear hd hk
      exact wp_value (.int .i64 (b : Int)) (by simp only [execOp, e14]; go_simp) (KS_mkv rfl rfl)
    · skip
      intro Q
      have e15 : a'.eval (.tmp 15) = .int .i64 (b : Int) := KS_val (hd.val 5 15 (by decide +kernel)) rfl
      clear hd hk
      exact wp_value (.int .u64 (b : Int)) (by simp only [execOp, e15]; go_simp; first | done | (simp only [IntKind.wrap_u64]; congr 2; omega) | omega) (KS_mkv rfl rfl)
    · skip
      intro Q
      have r13 : Rd w' (a'.eval (.tmp 13)) (([] : List UInt8) ++ enc a) := KS_rd (hd.val 3 13 (by decide +kernel)) rfl
      have e16 : a'.eval (.tmp 16) = .int .u64 (b : Int) := KS_val (hd.val 6 16 (by decide +kernel)) rfl
      refine wp_call 67 _ (run_enter 67 _ _ rfl (by kernel_rfl)) ?_
      simp only [List.map_toArray, List.map_nil, List.map_cons, e16]
      refine (refNum_any _ (([] : List UInt8) ++ enc a) b w' r13 (show _ < _ by rw [p8]; omega) (by simp; omega)).mono ?_
      rintro e w5 ⟨v5, rfl, o5, hb5⟩
      exact ⟨v5, rfl, KS_mkr rfl o5.rd, hb5⟩
    · skip
      intro Q
      have e1 : a'.eval (.tmp 1) = .pointer (some ⟨N, 0, none⟩) := hk.at 1 (by decide +kernel)
      clear hd hk
      exact wp_value (.pointer (some ⟨N, 2, none⟩)) (by simp only [execOp, e1]; go_simp) (KS_mkv rfl rfl)
    · skip
      intro Q
      have e18 : a'.eval (.tmp 18) = .pointer (some ⟨N, 2, none⟩) := KS_val (hd.val 8 18 (by decide +kernel)) rfl
      have hc := (B1.out.kept hg).cell (j := 2) rfl
      clear hd hk
      exact wp_value (.bool st) (by simp only [execOp, e18]; go_simp) (KS_mkv rfl rfl)
    · skip
      intro Q
      have r17 : Rd w' (a'.eval (.tmp 17)) (([] : List UInt8) ++ enc a ++ enc b) := KS_rd (hd.val 7 17 (by decide +kernel)) rfl
      have e19 : a'.eval (.tmp 19) = .bool st := KS_val (hd.val 9 19 (by decide +kernel)) rfl
      refine wp_call 66 _ (run_enter 66 _ _ rfl (by kernel_rfl)) ?_
      simp only [List.map_toArray, List.map_nil, List.map_cons, e19]
      refine (refFlag_any _ (([] : List UInt8) ++ enc a ++ enc b) st w' r17 (by simp; omega)).mono ?_
      rintro e w5 ⟨v5, rfl, o5, hb5⟩
      exact ⟨v5, rfl, KS_mkr rfl o5.rd, hb5⟩
    · skip
      intro Q
      have r20 : Rd w' (a'.eval (.tmp 20)) (([] : List UInt8) ++ enc a ++ enc b ++ fl st) := KS_rd (hd.val 10 20 (by decide +kernel)) rfl
      exact wp_value (a'.eval (.tmp 20)) (by simp only [execOp]; rfl) (KS_mkr rfl r20)
  · intro a' w2 hsz hdf hk hall hg
    have L2 : Hid (Below w1.heap.size w1 w2) := (show Below _ _ _ from hg)
    have e10 : a'.eval (.tmp 10) = .pointer (some ⟨N, 0, none⟩) := KS_val (hall 0 _ 10 rfl rfl) rfl
    have e11 : a'.eval (.tmp 11) = .int .i64 (a : Int) := KS_val (hall 1 _ 11 rfl rfl) rfl
    have e12 : a'.eval (.tmp 12) = .int .u64 (a : Int) := KS_val (hall 2 _ 12 rfl rfl) rfl
    have r13 : Rd w2 (a'.eval (.tmp 13)) (([] : List UInt8) ++ enc a) := KS_rd (hall 3 _ 13 rfl rfl) rfl
    obtain ⟨x13, hx13⟩ : ∃ v, a'.eval (.tmp 13) = v := ⟨_, rfl⟩
    rw [hx13] at r13
    have e14 : a'.eval (.tmp 14) = .pointer (some ⟨N, 1, none⟩) := KS_val (hall 4 _ 14 rfl rfl) rfl
    have e15 : a'.eval (.tmp 15) = .int .i64 (b : Int) := KS_val (hall 5 _ 15 rfl rfl) rfl
    have e16 : a'.eval (.tmp 16) = .int .u64 (b : Int) := KS_val (hall 6 _ 16 rfl rfl) rfl
    have r17 : Rd w2 (a'.eval (.tmp 17)) (([] : List UInt8) ++ enc a ++ enc b) := KS_rd (hall 7 _ 17 rfl rfl) rfl
    obtain ⟨x17, hx17⟩ : ∃ v, a'.eval (.tmp 17) = v := ⟨_, rfl⟩
    rw [hx17] at r17
    have e18 : a'.eval (.tmp 18) = .pointer (some ⟨N, 2, none⟩) := KS_val (hall 8 _ 18 rfl rfl) rfl
    have e19 : a'.eval (.tmp 19) = .bool st := KS_val (hall 9 _ 19 rfl rfl) rfl
    have r20 : Rd w2 (a'.eval (.tmp 20)) (([] : List UInt8) ++ enc a ++ enc b ++ fl st) := KS_rd (hall 10 _ 20 rfl rfl) rfl
    obtain ⟨x20, hx20⟩ : ∃ v, a'.eval (.tmp 20) = v := ⟨_, rfl⟩
    rw [hx20] at r20
    have r3 : Rd w2 (a'.eval (.tmp 3)) (([] : List UInt8) ++ enc a ++ enc b ++ fl st) := KS_rd (hall 11 _ 3 rfl rfl) rfl
    obtain ⟨x3, hx3⟩ : ∃ v, a'.eval (.tmp 3) = v := ⟨_, rfl⟩
    rw [hx3] at r3
    have ha := act_puts 98 rfl hsz hdf hk [10, 11, 12, 13, 14, 15, 16, 17, 18, 19, 20, 3] (by decide +kernel)
    simp only [puts, List.foldl_cons, List.foldl_nil, e10, e11, e12, hx13, e14, e15, e16, hx17, e18, e19, hx20, hx3] at ha
    simp only [Act.put, List.setIfInBounds_toArray, List.set_cons_succ, List.set_cons_zero] at ha
    clear hall hk hsz hdf e10 e11 e12 hx13 e14 e15 e16 hx17 e18 e19 hx20 hx3
    subst ha
    have R3 := hide r3
    clear r13 r17 r20 r3 hg
    have B2 := hide (B1.out.kept L2.out)
    have d3 := B2.out.cell (j := 3) rfl
    have CF := hide (refNum_any _ _ n w2 R3.out (show _ < _ by rw [p8]; omega) (by simp [fl]; omega))
    go_wp2_with fail
    refine CF.out.mono ?_
    rintro e w3 ⟨v3, rfl, o3, hb3⟩
    have L3 : Hid (Below w1.heap.size w1 w3) := (show Below _ _ _ from L2.out.trans (hb3.mono L2.out.size))
    obtain ⟨LT, HLT⟩ : ∃ z, Hid (([] : List UInt8) ++ enc a ++ enc b ++ fl st ++ enc n = z) := ⟨_, rfl⟩
    have hr3 := o3.rd
    rw [HLT.out] at hr3
    have hlt9 : LT.length ≤ 28 := by rw [← HLT.out]; simp [fl]; omega
    have S0 : Hid (Rd w3 v3 (LT ++ ((Rs.take 0).map plR).flatMap eR)) := (show Rd _ _ _ by simpa using hr3)
    have L0 := L3
    have B3 := hide (B1.out.kept L3.out)
    have d3 := B3.out.cell (j := 3) rfl
    clear hr3 o3 hb3 CF R3
    go_wp2_with fail
    clear d3
    go_loopg [3, 30] (n + 1) (fun g_ v z wr => ∃ i : Nat, i ≤ n ∧ g_ + i = n + 1 ∧ z = .int .i64 (i : Int) ∧ Hid (Rd wr v (LT ++ ((Rs.take i).map plR).flatMap eR)) ∧ Hid (Below w1.heap.size w1 wr))
    case atStart => exact ⟨0, Nat.zero_le _, by omega, rfl, S0, L0⟩
    case round =>
      clear S0 L0 B2 B3 L2 L3
      skip
      obtain ⟨i, hi, hg, rfl, SR, LR⟩ := hrel
      by_cases hlt : i < n
      · have hlt' : (i : Int) < (n : Int) := by omega
        have hlt2 : i < Rs.length := by rw [HRl.out]; exact hlt
        have RB := HXR.out.kept LR.out
        obtain ⟨bb, off, rfl, hb3, hx⟩ := RB.rd.nth (by omega)
        have hrow : wr.rangeAt bb (off + i * 4) (XC Rs[i]) := hx i hlt2
        have hok := HRX.out Rs[i] (List.getElem_mem hlt2)
        have hxp := HXR.out.ps Rs[i] (List.getElem_mem hlt2)
        have HT : Hid (((Rs.take (i + 1)).map plR).flatMap eR = ((Rs.take i).map plR).flatMap eR ++ eR (plR Rs[i])) := (show _ = _ by rw [List.take_succ_eq_append_getElem hlt2, List.map_append, List.flatMap_append, List.map_singleton, List.flatMap_singleton])
        have HTL : Hid ((((Rs.take i).map plR).flatMap eR).length ≤ 4339200) := (show _ ≤ _ by
          have h1 := fm_length (e := eR) (B := 67800) (l := (Rs.take i).map plR) (fun x hx => by
            obtain ⟨y, hy, rfl⟩ := List.mem_map.1 hx
            exact eR_length (HRX.out y (List.mem_of_mem_take hy)))
          rw [List.length_map, List.length_take, HRl.out] at h1
          have : min i n * 67800 ≤ 64 * 67800 := Nat.mul_le_mul_right _ (by omega)
          omega)
        obtain ⟨x, HXx⟩ : ∃ p, Hid (Rs[i] = p) := ⟨Rs[i], (show Rs[i] = Rs[i] from rfl)⟩
        rw [HXx.out] at hrow hok HT hxp
        obtain ⟨L9, HL9⟩ : ∃ z, Hid (LT ++ ((Rs.take i).map plR).flatMap eR = z) := ⟨_, rfl⟩
        rw [HL9.out] at SR
        have hl9 : L9.length ≤ 4400000 := by rw [← HL9.out, List.length_append]; have := HTL.out; omega
        obtain ⟨sc, k, t, ps, ha, hc⟩ := x
        obtain ⟨q, Hq⟩ : ∃ z, Hid (ps.length = z) := ⟨_, rfl⟩
        have hk64 : k.size ≤ 64 := hok.k
        have ht64 : t.size ≤ 64 := hok.t
        have hq2 : q ≤ 200 := by rw [← Hq.out]; exact hok.n
        have HPX : Hid (∀ p ∈ ps, okP p) := (show ∀ p ∈ ps, _ from hok.p)
        have HXP : Hid (RdG PE w1 (.slice ha q hc) ps) := (show RdG _ _ _ _ by have h := hxp; unfold XOk xv at h; rwa [Hq.out] at h)
        have HXC : Hid (XC ⟨sc, k, t, ps, ha, hc⟩ = [.bool sc, .string k, .string t, .slice ha q hc]) := (show _ = _ by unfold XC; simp only [Hq.out])
        have HEX : Hid (eR (plR ⟨sc, k, t, ps, ha, hc⟩) = fl sc ++ (eS k ++ (eT sc t ++ (enc q ++ ps.flatMap eP)))) := (show _ = _ by unfold eR plR eL; simp only [Hq.out])
        rw [HEX.out] at HT
        rw [HXC.out] at hrow
        obtain ⟨E, HE⟩ : ∃ E, Hid (wr.heap.size = E) := ⟨_, rfl⟩
        obtain ⟨w6, hw6⟩ : ∃ y, y = wr.alloc (.cells #[.bool sc, .string k, .string t, .slice ha q hc] 39 (0, 0)) := ⟨_, rfl⟩
        obtain ⟨b6, l6⟩ := newB (A := [.bool sc, .string k, .string t, .slice ha q hc]) HE hw6
        have HW6 := hide hw6
        have L6 : Hid (Below w1.heap.size w1 w6) := (show Below _ _ _ from LR.out.trans (l6.out.mono LR.out.size))
        have S6 := hide (SR.out.kept l6.out)
        have hes := eS_length k
        have het := eS_length t
        have heq := (enc_length q).2
        clear hx hw6 RB SR hok hxp hb3 HEX
        go_upto_region 6 with (first
          | (refine wpList_load_mid rfl 39 _ rfl bb (off + i * 4) rfl [.bool sc, .string k, .string t, .slice ha q hc] _ hrow Try.underlying39 rfl Try.size39 ?_)
          | fail)
        try simp only [Act.put]
        rw [show wr.alloc (.cells #[.bool sc, .string k, .string t, .slice ha q hc] 39 (0, 0)) = w6 from HW6.out.symm, HE.out]
        clear hrow
        refine wp_region_tailsK Try.mixed (KS (fun i_ => match i_ with | 0 => .rd (L9) | 1 => .val (.pointer (some ⟨E, 0, none⟩)) | 2 => .val (.bool sc) | 3 => .rd (L9 ++ fl sc) | 4 => .val (.pointer (some ⟨E, 1, none⟩)) | 5 => .val (.string k) | 6 => .rd (L9 ++ fl sc ++ eS k) | _ => .free)) 98 rfl (by decide +kernel) 7 (by decide) (by decide +kernel) (KS_mono _) ?_ ?_
        · refine AllFrom.cons ⟨rfl, fun a' w' hg hk hd => ?_⟩ (AllFrom.cons ⟨rfl, fun a' w' hg hk hd => ?_⟩ (AllFrom.cons ⟨rfl, fun a' w' hg hk hd => ?_⟩ (AllFrom.cons ⟨rfl, fun a' w' hg hk hd => ?_⟩ (AllFrom.cons ⟨rfl, fun a' w' hg hk hd => ?_⟩ (AllFrom.cons ⟨rfl, fun a' w' hg hk hd => ?_⟩ (AllFrom.cons ⟨rfl, fun a' w' hg hk hd => ?_⟩ AllFrom.nil))))))
          · skip
            intro Q
            have r3 : Rd w' (a'.eval (.tmp 3)) (L9) := by rw [hk.at 3 (by decide +kernel)]; exact Rd.kept (S6.out) hg
            exact wp_value (a'.eval (.tmp 3)) (by simp only [execOp]; rfl) (KS_mkr rfl r3)
          · skip
            intro Q
            have e5 : a'.eval (.tmp 5) = .pointer (some ⟨E, 0, none⟩) := hk.at 5 (by decide +kernel)
            clear hd hk
            exact wp_value (.pointer (some ⟨E, 0, none⟩)) (by simp only [execOp, e5]; go_simp) (KS_mkv rfl rfl)
          · skip
            intro Q
            have e35 : a'.eval (.tmp 35) = .pointer (some ⟨E, 0, none⟩) := KS_val (hd.val 1 35 (by decide +kernel)) rfl
            have hc := (b6.out.kept hg).cell (j := 0) rfl
            clear hd hk
            exact wp_value (.bool sc) (by simp only [execOp, e35]; go_simp) (KS_mkv rfl rfl)
          · skip
            intro Q
            have r34 : Rd w' (a'.eval (.tmp 34)) (L9) := KS_rd (hd.val 0 34 (by decide +kernel)) rfl
            have e36 : a'.eval (.tmp 36) = .bool sc := KS_val (hd.val 2 36 (by decide +kernel)) rfl
            refine wp_call 66 _ (run_enter 66 _ _ rfl (by kernel_rfl)) ?_
            simp only [List.map_toArray, List.map_nil, List.map_cons, e36]
            refine (refFlag_any _ (L9) sc w' r34 (by omega)).mono ?_
            rintro e w5 ⟨v5, rfl, o5, hb5⟩
            exact ⟨v5, rfl, KS_mkr rfl o5.rd, hb5⟩
          · skip
            intro Q
            have e5 : a'.eval (.tmp 5) = .pointer (some ⟨E, 0, none⟩) := hk.at 5 (by decide +kernel)
            clear hd hk
            exact wp_value (.pointer (some ⟨E, 1, none⟩)) (by simp only [execOp, e5]; go_simp) (KS_mkv rfl rfl)
          · skip
            intro Q
            have e38 : a'.eval (.tmp 38) = .pointer (some ⟨E, 1, none⟩) := KS_val (hd.val 4 38 (by decide +kernel)) rfl
            have hc := (b6.out.kept hg).cell (j := 1) rfl
            clear hd hk
            exact wp_value (.string k) (by simp only [execOp, e38]; go_simp) (KS_mkv rfl rfl)
          · skip
            intro Q
            have r37 : Rd w' (a'.eval (.tmp 37)) (L9 ++ fl sc) := KS_rd (hd.val 3 37 (by decide +kernel)) rfl
            have e39 : a'.eval (.tmp 39) = .string k := KS_val (hd.val 5 39 (by decide +kernel)) rfl
            refine wp_call 68 _ (run_enter 68 _ _ rfl (by kernel_rfl)) ?_
            simp only [List.map_toArray, List.map_nil, List.map_cons, e39]
            refine (refStr_any _ (L9 ++ fl sc) k w' r37 (by simp [fl]; omega)).mono ?_
            rintro e w5 ⟨v5, rfl, o5, hb5⟩
            exact ⟨v5, rfl, KS_mkr rfl o5.rd, hb5⟩
        · intro a' w7 hsz hdf hk hall hg
          have L7 : Hid (Below w1.heap.size w1 w7) := (show Below _ _ _ from L6.out.trans (hg.mono L6.out.size))
          have B7 := hide (b6.out.kept hg)
          obtain ⟨x34, hx34⟩ : ∃ v, a'.eval (.tmp 34) = v := ⟨_, rfl⟩
          have e35 : a'.eval (.tmp 35) = .pointer (some ⟨E, 0, none⟩) := KS_val (hall 1 _ 35 (by decide) rfl rfl) rfl
          have e36 : a'.eval (.tmp 36) = .bool sc := KS_val (hall 2 _ 36 (by decide) rfl rfl) rfl
          obtain ⟨x37, hx37⟩ : ∃ v, a'.eval (.tmp 37) = v := ⟨_, rfl⟩
          have e38 : a'.eval (.tmp 38) = .pointer (some ⟨E, 1, none⟩) := KS_val (hall 4 _ 38 (by decide) rfl rfl) rfl
          have e39 : a'.eval (.tmp 39) = .string k := KS_val (hall 5 _ 39 (by decide) rfl rfl) rfl
          have r40 : Rd w7 (a'.eval (.tmp 40)) (L9 ++ fl sc ++ eS k) := KS_rd (hall 6 _ 40 (by decide) rfl rfl) rfl
          obtain ⟨x40, hx40⟩ : ∃ v, a'.eval (.tmp 40) = v := ⟨_, rfl⟩
          rw [hx40] at r40
          obtain ⟨x3_, hx3⟩ : ∃ v, a'.eval (.tmp 3) = v := ⟨_, rfl⟩
          have ha := act_puts 98 rfl hsz hdf hk.all [34, 35, 36, 37, 38, 39, 40, 3] (by decide +kernel)
          simp only [puts, List.foldl_cons, List.foldl_nil, hx34, e35, e36, hx37, e38, e39, hx40, hx3] at ha
          simp only [Act.put, List.setIfInBounds_toArray, List.set_cons_succ, List.set_cons_zero] at ha
          clear hall hk hsz hdf hx34 e35 e36 hx37 e38 e39 hx40 hx3
          subst ha
          have R7 := hide r40
          clear r40 hg
          refine wpSeq_val rfl x40 (by simp only [execOp]; rfl) ?_
          simp only [wpSeq]
          have d0 := B7.out.cell (j := 0) rfl
          have hfl : (fl sc).length = 1 := rfl
          cases sc with
          | true =>
            have d2 := B7.out.cell (j := 2) rfl
            have CF := hide (refStr_any _ _ t w7 R7.out (by simp [fl]; omega))
            go_wp2_with fail
            refine CF.out.mono ?_
            rintro e w8 ⟨v8, rfl, o8, hb8⟩
            have L8_ : Hid (Below w1.heap.size w1 w8) := (show Below _ _ _ from L7.out.trans (hb8.mono L7.out.size))
            have B8 := hide (B7.out.kept hb8)
            have R8 : Hid (Rd w8 v8 (L9 ++ fl true ++ eS k ++ eT true t)) := (show Rd _ _ _ from o8.rd)
            clear d0 d2 o8 hb8 CF R7
            have hxt : (eT true t).length ≤ 9 + t.size := eT_length _ _
            obtain ⟨LX, HLX⟩ : ∃ z, Hid (L9 ++ fl true ++ eS k ++ eT true t = z) := ⟨_, rfl⟩
            have RX := R8.out
            rw [HLX.out] at RX
            have hlx : LX.length ≤ 4400200 := by rw [← HLX.out]; simp; omega
            have RX' := hide RX
            clear RX R8
            have d3 := B8.out.cell (j := 3) rfl
            have CF := hide (refNum_any _ _ q w8 RX'.out (show _ < _ by rw [p8]; omega) (by omega))
            go_wp2_with fail
            refine CF.out.mono ?_
            rintro e w10 ⟨v10, rfl, o10, hb10⟩
            have L10 : Hid (Below w1.heap.size w1 w10) := (show Below _ _ _ from L8_.out.trans (hb10.mono L8_.out.size))
            have B10 := hide (B8.out.kept hb10)
            have S10 : Hid (Rd w10 v10 (LX ++ enc q ++ (ps.take 0).flatMap eP)) := (show Rd _ _ _ by simpa using o10.rd)
            clear d3 o10 hb10 CF
            have d3 := B10.out.cell (j := 3) rfl
            go_wp2_with fail
            clear d3
            have LP := L10
            have SP := S10
            have BP := B10
            go_loopg [3, 56] (q + 1) (fun g_ v z wr => ∃ j : Nat, j ≤ q ∧ g_ + j = q + 1 ∧ z = .int .i64 (j : Int) ∧ Hid (Rd wr v (LX ++ enc q ++ (ps.take j).flatMap eP)) ∧ Hid (Below w1.heap.size w1 wr))
            case atStart => exact ⟨0, Nat.zero_le _, by omega, rfl, SP, LP⟩
            case round =>
              clear LP SP BP S10 L10 B10 LR L6 L7 L8_ b6 l6 B7 B8
              obtain ⟨j, hj, hgj, rfl, SR, LR⟩ := hrel
              by_cases hltj : j < q
              · have hltj' : (j : Int) < (q : Int) := by omega
                have hlj2 : j < ps.length := by rw [Hq.out]; exact hltj
                obtain ⟨b2, off2, rfl, hb2, hx⟩ := (HXP.out.kept LR.out).nth (by omega)
                have hrow : wr.rangeAt b2 (off2 + j * 3) (PC ps[j]) := hx j hlj2
                have hok := HPX.out ps[j] (List.getElem_mem hlj2)
                have HTj : Hid ((ps.take (j + 1)).flatMap eP = (ps.take j).flatMap eP ++ eP ps[j]) := (show _ = _ by rw [List.take_succ_eq_append_getElem hlj2, List.flatMap_append, List.flatMap_singleton])
                have HTLj : Hid (((ps.take j).flatMap eP).length ≤ 67600) := (show _ ≤ _ by
                  have h1 := fm_length (e := eP) (B := 338) (l := ps.take j) (fun p hp => by
                    have h := HPX.out p (List.mem_of_mem_take hp)
                    exact eP_length h.1 h.2.1)
                  rw [List.length_take, Hq.out] at h1
                  have : min j q * 338 ≤ 200 * 338 := Nat.mul_le_mul_right _ (by omega)
                  omega)
                obtain ⟨p, HPp⟩ : ∃ p, Hid (ps[j] = p) := ⟨ps[j], (show ps[j] = ps[j] from rfl)⟩
                rw [HPp.out] at hrow hok HTj
                obtain ⟨pk, pv, pd⟩ := p
                have hpk : pk.size ≤ 64 := hok.1
                have hpv : pv.size ≤ 256 := hok.2.1
                have HEP : Hid (eP (pk, pv, pd) = eS pk ++ eS pv) := (show _ = _ from rfl)
                rw [HEP.out] at HTj
                have hek := eS_length pk
                have hev := eS_length pv
                obtain ⟨L8, HL8⟩ : ∃ z, Hid (LX ++ enc q ++ (ps.take j).flatMap eP = z) := ⟨_, rfl⟩
                rw [HL8.out] at SR
                have hl8 : L8.length ≤ 4500000 := by rw [← HL8.out, List.length_append, List.length_append]; have := HTLj.out; omega
                obtain ⟨G, HGq⟩ : ∃ E, Hid (wr.heap.size = E) := ⟨_, rfl⟩
                obtain ⟨w11, hw11⟩ : ∃ y, y = wr.alloc (.cells (PC (pk, pv, pd)).toArray 41 (0, 0)) := ⟨_, rfl⟩
                obtain ⟨b11, l11⟩ := newB HGq hw11
                have HW11 := hide hw11
                have L11 : Hid (Below w1.heap.size w1 w11) := (show Below _ _ _ from LR.out.trans (l11.out.mono LR.out.size))
                have S11 := hide (SR.out.kept l11.out)
                clear hx hw11 SR hok hb2
                go_upto_region 13 with (first
                  | (refine wpList_load_mid rfl 41 _ rfl b2 (off2 + j * 3) rfl (PC (pk, pv, pd)) _ hrow Try.underlying41 rfl Try.size41 ?_)
                  | (refine wpList_store_new rfl 41 _ _ rfl wr _ (PC (pk, pv, pd)).toArray _ rfl rfl rfl Try.size41 rfl (all_one (PC_one (pk, pv, pd))) ?_; rw [← HW11.out, HGq.out])
                  | fail)
                try simp only [Act.put]
                clear hrow
                refine wp_region_tailsK Try.mixed (KS (fun i_ => match i_ with | 0 => .rd (L8) | 1 => .val (.pointer (some ⟨G, 0, none⟩)) | 2 => .val (.string pk) | 3 => .rd (L8 ++ eS pk) | 4 => .val (.pointer (some ⟨G, 1, none⟩)) | 5 => .val (.string pv) | 6 => .rd (L8 ++ eS pk ++ eS pv) | _ => .free)) 98 rfl (by decide +kernel) 7 (by decide) (by decide +kernel) (KS_mono _) ?_ ?_
                · refine AllFrom.cons ⟨rfl, fun a' w' hg hk hd => ?_⟩ (AllFrom.cons ⟨rfl, fun a' w' hg hk hd => ?_⟩ (AllFrom.cons ⟨rfl, fun a' w' hg hk hd => ?_⟩ (AllFrom.cons ⟨rfl, fun a' w' hg hk hd => ?_⟩ (AllFrom.cons ⟨rfl, fun a' w' hg hk hd => ?_⟩ (AllFrom.cons ⟨rfl, fun a' w' hg hk hd => ?_⟩ (AllFrom.cons ⟨rfl, fun a' w' hg hk hd => ?_⟩ AllFrom.nil))))))
                  · skip
                    intro Q
                    have r3 : Rd w' (a'.eval (.tmp 3)) (L8) := by rw [hk.at 3 (by decide +kernel)]; exact Rd.kept (S11.out) hg
                    exact wp_value (a'.eval (.tmp 3)) (by simp only [execOp]; rfl) (KS_mkr rfl r3)
                  · skip
                    intro Q
                    have e7 : a'.eval (.tmp 7) = .pointer (some ⟨G, 0, none⟩) := hk.at 7 (by decide +kernel)
                    clear hd hk
                    exact wp_value (.pointer (some ⟨G, 0, none⟩)) (by simp only [execOp, e7]; go_simp) (KS_mkv rfl rfl)
                  · skip
                    intro Q
                    have e61 : a'.eval (.tmp 61) = .pointer (some ⟨G, 0, none⟩) := KS_val (hd.val 1 61 (by decide +kernel)) rfl
                    have hc := (b11.out.kept hg).key
                    clear hd hk
                    exact wp_value (.string pk) (by simp only [execOp, e61]; go_simp) (KS_mkv rfl rfl)
                  · skip
                    intro Q
                    have r60 : Rd w' (a'.eval (.tmp 60)) (L8) := KS_rd (hd.val 0 60 (by decide +kernel)) rfl
                    have e62 : a'.eval (.tmp 62) = .string pk := KS_val (hd.val 2 62 (by decide +kernel)) rfl
                    refine wp_call 68 _ (run_enter 68 _ _ rfl (by kernel_rfl)) ?_
                    simp only [List.map_toArray, List.map_nil, List.map_cons, e62]
                    refine (refStr_any _ (L8) pk w' r60 (by omega)).mono ?_
                    rintro e w5 ⟨v5, rfl, o5, hb5⟩
                    exact ⟨v5, rfl, KS_mkr rfl o5.rd, hb5⟩
                  · skip
                    intro Q
                    have e7 : a'.eval (.tmp 7) = .pointer (some ⟨G, 0, none⟩) := hk.at 7 (by decide +kernel)
                    clear hd hk
                    exact wp_value (.pointer (some ⟨G, 1, none⟩)) (by simp only [execOp, e7]; go_simp) (KS_mkv rfl rfl)
                  · skip
                    intro Q
                    have e64 : a'.eval (.tmp 64) = .pointer (some ⟨G, 1, none⟩) := KS_val (hd.val 4 64 (by decide +kernel)) rfl
                    have hc := (b11.out.kept hg).val
                    clear hd hk
                    exact wp_value (.string pv) (by simp only [execOp, e64]; go_simp) (KS_mkv rfl rfl)
                  · skip
                    intro Q
                    have r63 : Rd w' (a'.eval (.tmp 63)) (L8 ++ eS pk) := KS_rd (hd.val 3 63 (by decide +kernel)) rfl
                    have e65 : a'.eval (.tmp 65) = .string pv := KS_val (hd.val 5 65 (by decide +kernel)) rfl
                    refine wp_call 68 _ (run_enter 68 _ _ rfl (by kernel_rfl)) ?_
                    simp only [List.map_toArray, List.map_nil, List.map_cons, e65]
                    refine (refStr_any _ (L8 ++ eS pk) pv w' r63 (by simp; omega)).mono ?_
                    rintro e w5 ⟨v5, rfl, o5, hb5⟩
                    exact ⟨v5, rfl, KS_mkr rfl o5.rd, hb5⟩
                · intro a' w12 hsz hdf hk hall hg
                  have L12 : Hid (Below w1.heap.size w1 w12) := (show Below _ _ _ from L11.out.trans (hg.mono L11.out.size))
                  obtain ⟨x60, hx60⟩ : ∃ v, a'.eval (.tmp 60) = v := ⟨_, rfl⟩
                  have e61 : a'.eval (.tmp 61) = .pointer (some ⟨G, 0, none⟩) := KS_val (hall 1 _ 61 (by decide) rfl rfl) rfl
                  have e62 : a'.eval (.tmp 62) = .string pk := KS_val (hall 2 _ 62 (by decide) rfl rfl) rfl
                  obtain ⟨x63, hx63⟩ : ∃ v, a'.eval (.tmp 63) = v := ⟨_, rfl⟩
                  have e64 : a'.eval (.tmp 64) = .pointer (some ⟨G, 1, none⟩) := KS_val (hall 4 _ 64 (by decide) rfl rfl) rfl
                  have e65 : a'.eval (.tmp 65) = .string pv := KS_val (hall 5 _ 65 (by decide) rfl rfl) rfl
                  have r66 : Rd w12 (a'.eval (.tmp 66)) (L8 ++ eS pk ++ eS pv) := KS_rd (hall 6 _ 66 (by decide) rfl rfl) rfl
                  obtain ⟨x66, hx66⟩ : ∃ v, a'.eval (.tmp 66) = v := ⟨_, rfl⟩
                  rw [hx66] at r66
                  obtain ⟨x3_, hx3⟩ : ∃ v, a'.eval (.tmp 3) = v := ⟨_, rfl⟩
                  have ha := act_puts 98 rfl hsz hdf hk.all [60, 61, 62, 63, 64, 65, 66, 3] (by decide +kernel)
                  simp only [puts, List.foldl_cons, List.foldl_nil, hx60, e61, e62, hx63, e64, e65, hx66, hx3] at ha
                  simp only [Act.put, List.setIfInBounds_toArray, List.set_cons_succ, List.set_cons_zero] at ha
                  clear hall hk hsz hdf hx60 e61 e62 hx63 e64 e65 hx66 hx3
                  subst ha
                  have R12 : Hid (Rd w12 x66 (LX ++ enc q ++ (ps.take (j + 1)).flatMap eP)) := (show Rd _ _ _ by rw [HTj.out, ← List.append_assoc, ← List.append_assoc, HL8.out]; exact r66)
                  clear r66 hg
                  refine wpSeq_val rfl x66 (by simp only [execOp]; rfl) ?_
                  simp only [wpSeq]
                  go_wp2_with fail
                  go_roundg (q - j)
                  case measure => omega
                  case rel => exact ⟨j + 1, by omega, by omega, by go_num, R12, L12⟩
              · obtain rfl : j = q := by omega
                have hltj' : ¬ (j : Int) < j := by omega
                have hfull : ps.take j = ps := List.take_of_length_le (by rw [Hq.out]; exact Nat.le_refl _)
                rw [hfull] at SR
                clear hfull
                have SN : Hid (Rd wr _ (LT ++ ((Rs.take (i + 1)).map plR).flatMap eR)) := (show Rd _ _ _ by rw [HT.out, ← List.append_assoc, HL9.out, ← List.append_assoc, ← List.append_assoc, ← List.append_assoc, ← List.append_assoc]; have h := SR.out; rw [← HLX.out] at h; exact h)
                go_wp2_with fail
                go_roundg (n - i)
                case measure => omega
                case rel => exact ⟨i + 1, by omega, by omega, by go_num, SN, LR⟩
          | false =>
            have R8 : Hid (Rd w7 x40 (L9 ++ fl false ++ eS k ++ eT false t)) := (show Rd _ _ _ by rw [show eT false t = [] from rfl, List.append_nil]; exact R7.out)
            have hxt : (eT false t).length ≤ 9 + t.size := eT_length _ _
            go_upto_region 9 with fail
            try simp only [Act.put]
            clear d0 R7
            obtain ⟨LX, HLX⟩ : ∃ z, Hid (L9 ++ fl false ++ eS k ++ eT false t = z) := ⟨_, rfl⟩
            have RX := R8.out
            rw [HLX.out] at RX
            have hlx : LX.length ≤ 4400200 := by rw [← HLX.out]; simp; omega
            have RX' := hide RX
            clear RX R8
            have d3 := B7.out.cell (j := 3) rfl
            have CF := hide (refNum_any _ _ q w7 RX'.out (show _ < _ by rw [p8]; omega) (by omega))
            go_wp2_with fail
            refine CF.out.mono ?_
            rintro e w10 ⟨v10, rfl, o10, hb10⟩
            have L10 : Hid (Below w1.heap.size w1 w10) := (show Below _ _ _ from L7.out.trans (hb10.mono L7.out.size))
            have B10 := hide (B7.out.kept hb10)
            have S10 : Hid (Rd w10 v10 (LX ++ enc q ++ (ps.take 0).flatMap eP)) := (show Rd _ _ _ by simpa using o10.rd)
            clear d3 o10 hb10 CF
            have d3 := B10.out.cell (j := 3) rfl
            go_wp2_with fail
            clear d3
            have LP := L10
            have SP := S10
            have BP := B10
            go_loopg [3, 56] (q + 1) (fun g_ v z wr => ∃ j : Nat, j ≤ q ∧ g_ + j = q + 1 ∧ z = .int .i64 (j : Int) ∧ Hid (Rd wr v (LX ++ enc q ++ (ps.take j).flatMap eP)) ∧ Hid (Below w1.heap.size w1 wr))
            case atStart => exact ⟨0, Nat.zero_le _, by omega, rfl, SP, LP⟩
            case round =>
              clear LP SP BP S10 L10 B10 LR L6 L7 b6 l6 B7
              obtain ⟨j, hj, hgj, rfl, SR, LR⟩ := hrel
              by_cases hltj : j < q
              · have hltj' : (j : Int) < (q : Int) := by omega
                have hlj2 : j < ps.length := by rw [Hq.out]; exact hltj
                obtain ⟨b2, off2, rfl, hb2, hx⟩ := (HXP.out.kept LR.out).nth (by omega)
                have hrow : wr.rangeAt b2 (off2 + j * 3) (PC ps[j]) := hx j hlj2
                have hok := HPX.out ps[j] (List.getElem_mem hlj2)
                have HTj : Hid ((ps.take (j + 1)).flatMap eP = (ps.take j).flatMap eP ++ eP ps[j]) := (show _ = _ by rw [List.take_succ_eq_append_getElem hlj2, List.flatMap_append, List.flatMap_singleton])
                have HTLj : Hid (((ps.take j).flatMap eP).length ≤ 67600) := (show _ ≤ _ by
                  have h1 := fm_length (e := eP) (B := 338) (l := ps.take j) (fun p hp => by
                    have h := HPX.out p (List.mem_of_mem_take hp)
                    exact eP_length h.1 h.2.1)
                  rw [List.length_take, Hq.out] at h1
                  have : min j q * 338 ≤ 200 * 338 := Nat.mul_le_mul_right _ (by omega)
                  omega)
                obtain ⟨p, HPp⟩ : ∃ p, Hid (ps[j] = p) := ⟨ps[j], (show ps[j] = ps[j] from rfl)⟩
                rw [HPp.out] at hrow hok HTj
                obtain ⟨pk, pv, pd⟩ := p
                have hpk : pk.size ≤ 64 := hok.1
                have hpv : pv.size ≤ 256 := hok.2.1
                have HEP : Hid (eP (pk, pv, pd) = eS pk ++ eS pv) := (show _ = _ from rfl)
                rw [HEP.out] at HTj
                have hek := eS_length pk
                have hev := eS_length pv
                obtain ⟨L8, HL8⟩ : ∃ z, Hid (LX ++ enc q ++ (ps.take j).flatMap eP = z) := ⟨_, rfl⟩
                rw [HL8.out] at SR
                have hl8 : L8.length ≤ 4500000 := by rw [← HL8.out, List.length_append, List.length_append]; have := HTLj.out; omega
                obtain ⟨G, HGq⟩ : ∃ E, Hid (wr.heap.size = E) := ⟨_, rfl⟩
                obtain ⟨w11, hw11⟩ : ∃ y, y = wr.alloc (.cells (PC (pk, pv, pd)).toArray 41 (0, 0)) := ⟨_, rfl⟩
                obtain ⟨b11, l11⟩ := newB HGq hw11
                have HW11 := hide hw11
                have L11 : Hid (Below w1.heap.size w1 w11) := (show Below _ _ _ from LR.out.trans (l11.out.mono LR.out.size))
                have S11 := hide (SR.out.kept l11.out)
                clear hx hw11 SR hok hb2
                go_upto_region 13 with (first
                  | (refine wpList_load_mid rfl 41 _ rfl b2 (off2 + j * 3) rfl (PC (pk, pv, pd)) _ hrow Try.underlying41 rfl Try.size41 ?_)
                  | (refine wpList_store_new rfl 41 _ _ rfl wr _ (PC (pk, pv, pd)).toArray _ rfl rfl rfl Try.size41 rfl (all_one (PC_one (pk, pv, pd))) ?_; rw [← HW11.out, HGq.out])
                  | fail)
                try simp only [Act.put]
                clear hrow
                refine wp_region_tailsK Try.mixed (KS (fun i_ => match i_ with | 0 => .rd (L8) | 1 => .val (.pointer (some ⟨G, 0, none⟩)) | 2 => .val (.string pk) | 3 => .rd (L8 ++ eS pk) | 4 => .val (.pointer (some ⟨G, 1, none⟩)) | 5 => .val (.string pv) | 6 => .rd (L8 ++ eS pk ++ eS pv) | _ => .free)) 98 rfl (by decide +kernel) 7 (by decide) (by decide +kernel) (KS_mono _) ?_ ?_
                · refine AllFrom.cons ⟨rfl, fun a' w' hg hk hd => ?_⟩ (AllFrom.cons ⟨rfl, fun a' w' hg hk hd => ?_⟩ (AllFrom.cons ⟨rfl, fun a' w' hg hk hd => ?_⟩ (AllFrom.cons ⟨rfl, fun a' w' hg hk hd => ?_⟩ (AllFrom.cons ⟨rfl, fun a' w' hg hk hd => ?_⟩ (AllFrom.cons ⟨rfl, fun a' w' hg hk hd => ?_⟩ (AllFrom.cons ⟨rfl, fun a' w' hg hk hd => ?_⟩ AllFrom.nil))))))
                  · skip
                    intro Q
                    have r3 : Rd w' (a'.eval (.tmp 3)) (L8) := by rw [hk.at 3 (by decide +kernel)]; exact Rd.kept (S11.out) hg
                    exact wp_value (a'.eval (.tmp 3)) (by simp only [execOp]; rfl) (KS_mkr rfl r3)
                  · skip
                    intro Q
                    have e7 : a'.eval (.tmp 7) = .pointer (some ⟨G, 0, none⟩) := hk.at 7 (by decide +kernel)
                    clear hd hk
                    exact wp_value (.pointer (some ⟨G, 0, none⟩)) (by simp only [execOp, e7]; go_simp) (KS_mkv rfl rfl)
                  · skip
                    intro Q
                    have e61 : a'.eval (.tmp 61) = .pointer (some ⟨G, 0, none⟩) := KS_val (hd.val 1 61 (by decide +kernel)) rfl
                    have hc := (b11.out.kept hg).key
                    clear hd hk
                    exact wp_value (.string pk) (by simp only [execOp, e61]; go_simp) (KS_mkv rfl rfl)
                  · skip
                    intro Q
                    have r60 : Rd w' (a'.eval (.tmp 60)) (L8) := KS_rd (hd.val 0 60 (by decide +kernel)) rfl
                    have e62 : a'.eval (.tmp 62) = .string pk := KS_val (hd.val 2 62 (by decide +kernel)) rfl
                    refine wp_call 68 _ (run_enter 68 _ _ rfl (by kernel_rfl)) ?_
                    simp only [List.map_toArray, List.map_nil, List.map_cons, e62]
                    refine (refStr_any _ (L8) pk w' r60 (by omega)).mono ?_
                    rintro e w5 ⟨v5, rfl, o5, hb5⟩
                    exact ⟨v5, rfl, KS_mkr rfl o5.rd, hb5⟩
                  · skip
                    intro Q
                    have e7 : a'.eval (.tmp 7) = .pointer (some ⟨G, 0, none⟩) := hk.at 7 (by decide +kernel)
                    clear hd hk
                    exact wp_value (.pointer (some ⟨G, 1, none⟩)) (by simp only [execOp, e7]; go_simp) (KS_mkv rfl rfl)
                  · skip
                    intro Q
                    have e64 : a'.eval (.tmp 64) = .pointer (some ⟨G, 1, none⟩) := KS_val (hd.val 4 64 (by decide +kernel)) rfl
                    have hc := (b11.out.kept hg).val
                    clear hd hk
                    exact wp_value (.string pv) (by simp only [execOp, e64]; go_simp) (KS_mkv rfl rfl)
                  · skip
                    intro Q
                    have r63 : Rd w' (a'.eval (.tmp 63)) (L8 ++ eS pk) := KS_rd (hd.val 3 63 (by decide +kernel)) rfl
                    have e65 : a'.eval (.tmp 65) = .string pv := KS_val (hd.val 5 65 (by decide +kernel)) rfl
                    refine wp_call 68 _ (run_enter 68 _ _ rfl (by kernel_rfl)) ?_
                    simp only [List.map_toArray, List.map_nil, List.map_cons, e65]
                    refine (refStr_any _ (L8 ++ eS pk) pv w' r63 (by simp; omega)).mono ?_
                    rintro e w5 ⟨v5, rfl, o5, hb5⟩
                    exact ⟨v5, rfl, KS_mkr rfl o5.rd, hb5⟩
                · intro a' w12 hsz hdf hk hall hg
                  have L12 : Hid (Below w1.heap.size w1 w12) := (show Below _ _ _ from L11.out.trans (hg.mono L11.out.size))
                  obtain ⟨x60, hx60⟩ : ∃ v, a'.eval (.tmp 60) = v := ⟨_, rfl⟩
                  have e61 : a'.eval (.tmp 61) = .pointer (some ⟨G, 0, none⟩) := KS_val (hall 1 _ 61 (by decide) rfl rfl) rfl
                  have e62 : a'.eval (.tmp 62) = .string pk := KS_val (hall 2 _ 62 (by decide) rfl rfl) rfl
                  obtain ⟨x63, hx63⟩ : ∃ v, a'.eval (.tmp 63) = v := ⟨_, rfl⟩
                  have e64 : a'.eval (.tmp 64) = .pointer (some ⟨G, 1, none⟩) := KS_val (hall 4 _ 64 (by decide) rfl rfl) rfl
                  have e65 : a'.eval (.tmp 65) = .string pv := KS_val (hall 5 _ 65 (by decide) rfl rfl) rfl
                  have r66 : Rd w12 (a'.eval (.tmp 66)) (L8 ++ eS pk ++ eS pv) := KS_rd (hall 6 _ 66 (by decide) rfl rfl) rfl
                  obtain ⟨x66, hx66⟩ : ∃ v, a'.eval (.tmp 66) = v := ⟨_, rfl⟩
                  rw [hx66] at r66
                  obtain ⟨x3_, hx3⟩ : ∃ v, a'.eval (.tmp 3) = v := ⟨_, rfl⟩
                  have ha := act_puts 98 rfl hsz hdf hk.all [60, 61, 62, 63, 64, 65, 66, 3] (by decide +kernel)
                  simp only [puts, List.foldl_cons, List.foldl_nil, hx60, e61, e62, hx63, e64, e65, hx66, hx3] at ha
                  simp only [Act.put, List.setIfInBounds_toArray, List.set_cons_succ, List.set_cons_zero] at ha
                  clear hall hk hsz hdf hx60 e61 e62 hx63 e64 e65 hx66 hx3
                  subst ha
                  have R12 : Hid (Rd w12 x66 (LX ++ enc q ++ (ps.take (j + 1)).flatMap eP)) := (show Rd _ _ _ by rw [HTj.out, ← List.append_assoc, ← List.append_assoc, HL8.out]; exact r66)
                  clear r66 hg
                  refine wpSeq_val rfl x66 (by simp only [execOp]; rfl) ?_
                  simp only [wpSeq]
                  go_wp2_with fail
                  go_roundg (q - j)
                  case measure => omega
                  case rel => exact ⟨j + 1, by omega, by omega, by go_num, R12, L12⟩
              · obtain rfl : j = q := by omega
                have hltj' : ¬ (j : Int) < j := by omega
                have hfull : ps.take j = ps := List.take_of_length_le (by rw [Hq.out]; exact Nat.le_refl _)
                rw [hfull] at SR
                clear hfull
                have SN : Hid (Rd wr _ (LT ++ ((Rs.take (i + 1)).map plR).flatMap eR)) := (show Rd _ _ _ by rw [HT.out, ← List.append_assoc, HL9.out, ← List.append_assoc, ← List.append_assoc, ← List.append_assoc, ← List.append_assoc]; have h := SR.out; rw [← HLX.out] at h; exact h)
                go_wp2_with fail
                go_roundg (n - i)
                case measure => omega
                case rel => exact ⟨i + 1, by omega, by omega, by go_num, SN, LR⟩
      · obtain rfl : i = n := by omega
        have hlt' : ¬ (i : Int) < i := by omega
        have hfull : Rs.take i = Rs := List.take_of_length_le (by rw [HRl.out]; exact Nat.le_refl _)
        rw [hfull] at SR
        clear hfull
        have HRM : Hid (((Rs.map plR).flatMap eR).length ≤ 4339200) := (show _ ≤ _ by
          have h1 := fm_length (e := eR) (B := 67800) (l := Rs.map plR) (fun x hx => by
            obtain ⟨y, hy, rfl⟩ := List.mem_map.1 hx
            exact eR_length (HRX.out y hy))
          rw [List.length_map, HRl.out] at h1
          have : i * 67800 ≤ 64 * 67800 := Nat.mul_le_mul_right _ (by omega)
          omega)
        have B6 := hide (B1.out.kept LR.out)
        have d4 := B6.out.cell (j := 4) rfl
        have CF := hide (refNum_any _ _ m wr SR.out (show _ < _ by rw [p8]; omega) (by rw [List.length_append]; have := HRM.out; omega))
        go_wp2_with fail
        refine CF.out.mono ?_
        rintro e w8 ⟨v8, rfl, o8, hb8⟩
        have L8 : Hid (Below w1.heap.size w1 w8) := (show Below _ _ _ from LR.out.trans (hb8.mono LR.out.size))
        have hr8 := o8.rd
        obtain ⟨LT2, HLT2⟩ : ∃ z, Hid (LT ++ (Rs.map plR).flatMap eR ++ enc m = z) := ⟨_, rfl⟩
        rw [HLT2.out] at hr8
        have hlt8 : LT2.length ≤ 4339300 := by rw [← HLT2.out, List.length_append, List.length_append]; have := HRM.out; omega
        have S0 : Hid (Rd w8 v8 (LT2 ++ (Ws.take 0).flatMap eW)) := (show Rd _ _ _ by simpa using hr8)
        have L0 := L8
        have B8 := hide (B6.out.kept hb8)
        clear hr8 o8 hb8 CF d4 SR LR
        have d4 := B8.out.cell (j := 4) rfl
        go_wp2_with fail
        clear d4
        go_loopg [3, 78] (m + 1) (fun g_ v z wr => ∃ j : Nat, j ≤ m ∧ g_ + j = m + 1 ∧ z = .int .i64 (j : Int) ∧ Hid (Rd wr v (LT2 ++ (Ws.take j).flatMap eW)) ∧ Hid (Below w1.heap.size w1 wr))
        case atStart => exact ⟨0, Nat.zero_le _, by omega, rfl, S0, L0⟩
        case round =>
          clear S0 L0 L8 B8 B6
          obtain ⟨j, hj, hgj, rfl, SR, LR⟩ := hrel
          by_cases hltj : j < m
          · have hltj' : (j : Int) < (m : Int) := by omega
            have hlj2 : j < Ws.length := by rw [HWl.out]; exact hltj
            obtain ⟨b2, off2, rfl, hb2, hx⟩ := (HXW.out.kept LR.out).nth (by omega)
            have hrow : wr.rangeAt b2 (off2 + j * 3) (PC Ws[j]) := hx j hlj2
            have hok := HWX.out Ws[j] (List.getElem_mem hlj2)
            have HTj : Hid ((Ws.take (j + 1)).flatMap eW = (Ws.take j).flatMap eW ++ eW Ws[j]) := (show _ = _ by rw [List.take_succ_eq_append_getElem hlj2, List.flatMap_append, List.flatMap_singleton])
            have HTLj : Hid (((Ws.take j).flatMap eW).length ≤ 25600) := (show _ ≤ _ by
              have h1 := fm_length (e := eW) (B := 400) (l := Ws.take j) (fun p hp => eW_length (HWX.out p (List.mem_of_mem_take hp)))
              rw [List.length_take, HWl.out] at h1
              have : min j m * 400 ≤ 64 * 400 := Nat.mul_le_mul_right _ (by omega)
              omega)
            obtain ⟨p, HPp⟩ : ∃ p, Hid (Ws[j] = p) := ⟨Ws[j], (show Ws[j] = Ws[j] from rfl)⟩
            rw [HPp.out] at hrow hok HTj
            obtain ⟨pk, pv, pd⟩ := p
            have hpk : pk.size ≤ 64 := hok.1
            have hpv : pv.size ≤ 256 := hok.2.1
            have HEP : Hid (eW (pk, pv, pd) = eS pk ++ (fl pd ++ eT (!pd) pv)) := (show _ = _ from rfl)
            rw [HEP.out] at HTj
            have hek := eS_length pk
            have hev := eS_length pv
            have hfp : (fl pd).length = 1 := rfl
            obtain ⟨L8, HL8⟩ : ∃ z, Hid (LT2 ++ (Ws.take j).flatMap eW = z) := ⟨_, rfl⟩
            rw [HL8.out] at SR
            have hl8 : L8.length ≤ 4500000 := by rw [← HL8.out, List.length_append]; have := HTLj.out; omega
            obtain ⟨G, HGq⟩ : ∃ E, Hid (wr.heap.size = E) := ⟨_, rfl⟩
            obtain ⟨w11, hw11⟩ : ∃ y, y = wr.alloc (.cells (PC (pk, pv, pd)).toArray 41 (0, 0)) := ⟨_, rfl⟩
            obtain ⟨b11, l11⟩ := newB HGq hw11
            have HW11 := hide hw11
            have L11 : Hid (Below w1.heap.size w1 w11) := (show Below _ _ _ from LR.out.trans (l11.out.mono LR.out.size))
            have S11 := hide (SR.out.kept l11.out)
            clear hx hw11 SR hok hb2
            go_upto_region 20 with (first
              | (refine wpList_load_mid rfl 41 _ rfl b2 (off2 + j * 3) rfl (PC (pk, pv, pd)) _ hrow Try.underlying41 rfl Try.size41 ?_)
              | (refine wpList_store_new rfl 41 _ _ rfl wr _ (PC (pk, pv, pd)).toArray _ rfl rfl rfl Try.size41 rfl (all_one (PC_one (pk, pv, pd))) ?_; rw [← HW11.out, HGq.out])
              | fail)
            try simp only [Act.put]
            clear hrow
            refine wp_region_tailsK Try.mixed (KS (fun i_ => match i_ with | 0 => .rd (L8) | 1 => .val (.pointer (some ⟨G, 0, none⟩)) | 2 => .val (.string pk) | 3 => .rd (L8 ++ eS pk) | 4 => .val (.pointer (some ⟨G, 2, none⟩)) | 5 => .val (.bool pd) | 6 => .rd (L8 ++ eS pk ++ fl pd) | _ => .free)) 98 rfl (by decide +kernel) 7 (by decide) (by decide +kernel) (KS_mono _) ?_ ?_
            · refine AllFrom.cons ⟨rfl, fun a' w' hg hk hd => ?_⟩ (AllFrom.cons ⟨rfl, fun a' w' hg hk hd => ?_⟩ (AllFrom.cons ⟨rfl, fun a' w' hg hk hd => ?_⟩ (AllFrom.cons ⟨rfl, fun a' w' hg hk hd => ?_⟩ (AllFrom.cons ⟨rfl, fun a' w' hg hk hd => ?_⟩ (AllFrom.cons ⟨rfl, fun a' w' hg hk hd => ?_⟩ (AllFrom.cons ⟨rfl, fun a' w' hg hk hd => ?_⟩ AllFrom.nil))))))
              · skip
                intro Q
                have r3 : Rd w' (a'.eval (.tmp 3)) (L8) := by rw [hk.at 3 (by decide +kernel)]; exact Rd.kept (S11.out) hg
                exact wp_value (a'.eval (.tmp 3)) (by simp only [execOp]; rfl) (KS_mkr rfl r3)
              · skip
                intro Q
                have e9 : a'.eval (.tmp 9) = .pointer (some ⟨G, 0, none⟩) := hk.at 9 (by decide +kernel)
                clear hd hk
                exact wp_value (.pointer (some ⟨G, 0, none⟩)) (by simp only [execOp, e9]; go_simp) (KS_mkv rfl rfl)
              · skip
                intro Q
                have e83 : a'.eval (.tmp 83) = .pointer (some ⟨G, 0, none⟩) := KS_val (hd.val 1 83 (by decide +kernel)) rfl
                have hc := (b11.out.kept hg).key
                clear hd hk
                exact wp_value (.string pk) (by simp only [execOp, e83]; go_simp) (KS_mkv rfl rfl)
              · skip
                intro Q
                have r82 : Rd w' (a'.eval (.tmp 82)) (L8) := KS_rd (hd.val 0 82 (by decide +kernel)) rfl
                have e84 : a'.eval (.tmp 84) = .string pk := KS_val (hd.val 2 84 (by decide +kernel)) rfl
                refine wp_call 68 _ (run_enter 68 _ _ rfl (by kernel_rfl)) ?_
                simp only [List.map_toArray, List.map_nil, List.map_cons, e84]
                refine (refStr_any _ (L8) pk w' r82 (by omega)).mono ?_
                rintro e w5 ⟨v5, rfl, o5, hb5⟩
                exact ⟨v5, rfl, KS_mkr rfl o5.rd, hb5⟩
              · skip
                intro Q
                have e9 : a'.eval (.tmp 9) = .pointer (some ⟨G, 0, none⟩) := hk.at 9 (by decide +kernel)
                clear hd hk
                exact wp_value (.pointer (some ⟨G, 2, none⟩)) (by simp only [execOp, e9]; go_simp) (KS_mkv rfl rfl)
              · skip
                intro Q
                have e86 : a'.eval (.tmp 86) = .pointer (some ⟨G, 2, none⟩) := KS_val (hd.val 4 86 (by decide +kernel)) rfl
                have hc := (b11.out.kept hg).dead
                clear hd hk
                exact wp_value (.bool pd) (by simp only [execOp, e86]; go_simp) (KS_mkv rfl rfl)
              · skip
                intro Q
                have r85 : Rd w' (a'.eval (.tmp 85)) (L8 ++ eS pk) := KS_rd (hd.val 3 85 (by decide +kernel)) rfl
                have e87 : a'.eval (.tmp 87) = .bool pd := KS_val (hd.val 5 87 (by decide +kernel)) rfl
                refine wp_call 66 _ (run_enter 66 _ _ rfl (by kernel_rfl)) ?_
                simp only [List.map_toArray, List.map_nil, List.map_cons, e87]
                refine (refFlag_any _ (L8 ++ eS pk) pd w' r85 (by simp; omega)).mono ?_
                rintro e w5 ⟨v5, rfl, o5, hb5⟩
                exact ⟨v5, rfl, KS_mkr rfl o5.rd, hb5⟩
            · intro a' w12 hsz hdf hk hall hg
              have L12 : Hid (Below w1.heap.size w1 w12) := (show Below _ _ _ from L11.out.trans (hg.mono L11.out.size))
              have B12 := hide (b11.out.kept hg)
              obtain ⟨x82, hx82⟩ : ∃ v, a'.eval (.tmp 82) = v := ⟨_, rfl⟩
              have e83 : a'.eval (.tmp 83) = .pointer (some ⟨G, 0, none⟩) := KS_val (hall 1 _ 83 (by decide) rfl rfl) rfl
              have e84 : a'.eval (.tmp 84) = .string pk := KS_val (hall 2 _ 84 (by decide) rfl rfl) rfl
              obtain ⟨x85, hx85⟩ : ∃ v, a'.eval (.tmp 85) = v := ⟨_, rfl⟩
              have e86 : a'.eval (.tmp 86) = .pointer (some ⟨G, 2, none⟩) := KS_val (hall 4 _ 86 (by decide) rfl rfl) rfl
              have e87 : a'.eval (.tmp 87) = .bool pd := KS_val (hall 5 _ 87 (by decide) rfl rfl) rfl
              have r88 : Rd w12 (a'.eval (.tmp 88)) (L8 ++ eS pk ++ fl pd) := KS_rd (hall 6 _ 88 (by decide) rfl rfl) rfl
              obtain ⟨x88, hx88⟩ : ∃ v, a'.eval (.tmp 88) = v := ⟨_, rfl⟩
              rw [hx88] at r88
              obtain ⟨x3_, hx3⟩ : ∃ v, a'.eval (.tmp 3) = v := ⟨_, rfl⟩
              have ha := act_puts 98 rfl hsz hdf hk.all [82, 83, 84, 85, 86, 87, 88, 3] (by decide +kernel)
              simp only [puts, List.foldl_cons, List.foldl_nil, hx82, e83, e84, hx85, e86, e87, hx88, hx3] at ha
              simp only [Act.put, List.setIfInBounds_toArray, List.set_cons_succ, List.set_cons_zero] at ha
              clear hall hk hsz hdf hx82 e83 e84 hx85 e86 e87 hx88 hx3
              subst ha
              have R12 := hide r88
              clear r88 hg
              refine wpSeq_val rfl x88 (by simp only [execOp]; rfl) ?_
              simp only [wpSeq]
              have d2 := B12.out.dead
              simp only at d2
              cases pd with
              | true =>
                have SN : Hid (Rd w12 x88 (LT2 ++ (Ws.take (j + 1)).flatMap eW)) := (show Rd _ _ _ by rw [HTj.out, ← List.append_assoc, HL8.out, show eT (!true) pv = [] from rfl, List.append_nil, ← List.append_assoc]; exact R12.out)
                go_wp2_with fail
                go_roundg (m - j)
                case measure => omega
                case rel => exact ⟨j + 1, by omega, by omega, by go_num, SN, L12⟩
              | false =>
                have d1 := B12.out.val
                simp only at d1
                have CF := hide (refStr_any _ _ pv w12 R12.out (by simp; omega))
                go_wp2_with fail
                refine CF.out.mono ?_
                rintro e w13 ⟨v13, rfl, o13, hb13⟩
                have L13 : Hid (Below w1.heap.size w1 w13) := (show Below _ _ _ from L12.out.trans (hb13.mono L12.out.size))
                have SN : Hid (Rd w13 v13 (LT2 ++ (Ws.take (j + 1)).flatMap eW)) := (show Rd _ _ _ by rw [HTj.out, ← List.append_assoc, HL8.out, ← List.append_assoc, ← List.append_assoc]; exact o13.rd)
                clear o13 hb13 CF d1 d2
                go_wp2_with fail
                go_roundg (m - j)
                case measure => omega
                case rel => exact ⟨j + 1, by omega, by omega, by go_num, SN, L13⟩
          · obtain rfl : j = m := by omega
            have hltj' : ¬ (j : Int) < j := by omega
            have hfull : Ws.take j = Ws := List.take_of_length_le (by rw [HWl.out]; exact Nat.le_refl _)
            rw [hfull] at SR
            clear hfull
            have LE : Hid (Below w.heap.size w wr) := (show Below _ _ _ from l1.out.trans (LR.out.mono l1.out.size))
            have HFN : Hid (LT2 ++ Ws.flatMap eW = eD (pdR r)) := (show _ = _ by rw [HER.out, ← HLT2.out, ← HLT.out]; simp only [List.nil_append, List.append_assoc])
            rw [HFN.out] at SR
            go_wp2_with fail
            go_ret
            exact ⟨_, rfl, SR.out, LE.out⟩
#print axioms kbytes_any
end Go.Proofs.Ytmicmbjbclkbjaa
