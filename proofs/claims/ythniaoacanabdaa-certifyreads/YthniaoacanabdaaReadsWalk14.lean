/-
  The law CertifyReads: what the call does.
-/
import Derived.Test.YthniaoacanabdaaCtU
import Derived.Test.YthniaoacanabdaaCtN
namespace Go.Proofs.Ythniaoacanabdaa
open Go.RowKit
theorem wpList_build1W {α : Type} {E : Enc α} {ty T : TypeId} (hb : ∀ (x : α) (w : World), (Instr.buildSlice ty 1 #[(0, .agg (E.c x).toArray)]).run Try.prog w = .ok (.slice (some ⟨w.heap.size, 0, none⟩) 1 1) (w.alloc (.cells (E.c x).toArray T (0, 0))))
    {ops : Array Oper} {rest : List Oper} {o : Oper} {a : Act} {w : World} {Q : Exit → Act → World → Prop} (hw : Region.wanted o (yielded ops a.tmps) = true) (x : Operand) (ho : o.op = .buildSlice ty 1 #[(0, x)]) (p : α) (hx : a.eval x = .agg (E.c p).toArray)
    (h : wpList Try.prog ops Q rest (a.put o.dst (.slice (some ⟨w.heap.size, 0, none⟩) 1 1)) (w.alloc (.cells (E.c p).toArray T (0, 0)))) : wpList Try.prog ops Q (o :: rest) a w := by
  refine wpList_step fun K hK => ?_
  rw [if_pos hw]
  have hrun : (execOp a.eval o).run Try.prog w = .ok (.value (.slice (some ⟨w.heap.size, 0, none⟩) 1 1)) (w.alloc (.cells (E.c p).toArray T (0, 0))) := by
    simp only [execOp, ho, hx, List.map_toArray, List.map_cons, List.map_nil, Sem.run_bind, Sem.run_pure]
    exact congrArg (fun r => Result.andThen r _) (hb p w)
  unfold Oper.wp
  rw [hrun]
  exact hK _ _ h
/-- A record that wrote nothing. -/
def idR (r : Rc) : Rc := ⟨r.ses, r.snap, r.st, r.rs, [], r.ra, r.rc, none, 0⟩
theorem idR_cells (r : Rc) : (RC r).set 4 (.slice none 0 0) = RC (idR r) := rfl
theorem idR_ok {w : World} {r : Rc} (h : ROk w r) : ROk w (idR r) := ⟨h.rs, RdG_nil w⟩
theorem idR_kok {r : Rc} (h : KOk r) : KOk (idR r) := ⟨Nat.zero_le _, h.rl, fun p hp => (by cases hp), h.rk⟩
theorem hit_idR (l : List Sp) (r : Rc) : hitP l (idR r) = false := rfl
theorem clash_idR (r o : Rc) : clashP (idR r) [o] = -1 := fst_none fun x _ => by
  show hitP [] x = false
  unfold hitP
  simp
theorem clash_toI (r o : Rc) : clashP r [idR o] = -1 := fst_none fun x hx => by
  rw [List.mem_singleton] at hx
  subst hx
  rfl
theorem stale_toI (r o : Rc) : staleP r [idR o] = -1 := fst_none fun x hx => by
  rw [List.mem_singleton] at hx
  subst hx
  rfl
theorem touch_idR (r : Rc) (x : Rz) : touchP (idR r) x = false := rfl
/-- The read of one key; the read of a range. -/
def keyX (k : ByteArray) : Rz := ⟨false, k, em, [], none, 0⟩
def ranX (a b : ByteArray) : Rz := ⟨true, a, b, [], none, 0⟩
theorem build_keyX (k : ByteArray) : ∀ W : World, (Instr.build 27 #[(1, .string k)]).run Try.prog W = .ok (.agg (XC (keyX k)).toArray) W := fun W => by kernel_rfl
theorem build_ranX (a b : ByteArray) : ∀ W : World, (Instr.build 27 #[(0, .bool true), (1, .string a), (2, .string b)]).run Try.prog W = .ok (.agg (XC (ranX a b)).toArray) W := fun W => by kernel_rfl
theorem wrote_own {r : Rc} {p : Pr} (h : p ∈ r.ws) : wroteP r p.1 = true := List.any_eq_true.2 ⟨p, h, by simp⟩
theorem touch_own {r : Rc} {p : Pr} (h : p ∈ r.ws) : touchP r (keyX p.1) = true := List.any_eq_true.2 ⟨p, h, by simp [askP, keyX]⟩
theorem touch_ran {r : Rc} {p : Pr} (h : p ∈ r.ws) {a b : ByteArray} (h1 : lt p.1 a = false) (h2 : lt p.1 b = true) : touchP r (ranX a b) = true := List.any_eq_true.2 ⟨p, h, by simp [askP, ranX, h1, h2]⟩
set_option maxHeartbeats 20000000 in
set_option maxRecDepth 100000 in
theorem certifyReads_any {w : World} {r : Rc} (hr : ROk w r) (hbr : RB 140737488351232 r) (sa : ByteArray) (hsa : sa.size ≤ 140737488351232) (sb : ByteArray) (hsb : sb.size ≤ 140737488351232) : Calls Try.prog 7 #[.agg (RC r).toArray, .string sa, .string sb] w fun e w' => e = .returned (.bool true) ∧ Below w.heap.size w w' := by
  obtain ⟨N, HN⟩ : ∃ N, Hid (w.heap.size = N) := ⟨_, rfl⟩
  obtain ⟨w1, hw1⟩ : ∃ y, y = w.alloc (.cells (RC r).toArray 25 (0, 0)) := ⟨_, rfl⟩
  obtain ⟨b1, l1⟩ := newB HN hw1
  have HW := hide hw1
  have RO := hide (hr.kept l1.out)
  obtain ⟨N1, HN1⟩ : ∃ N, Hid (w1.heap.size = N) := ⟨_, rfl⟩
  obtain ⟨w2, hw2⟩ : ∃ y, y = w1.alloc (.cells (RC r).toArray 25 (0, 0)) := ⟨_, rfl⟩
  obtain ⟨b2, l2⟩ := newB HN1 hw2
  have HW2 := hide hw2
  have R2 : Hid (RdR9 w2 (.slice (some ⟨N1, 0, none⟩) 1 1) [r]) := (show RdR9 _ _ _ by rw [hw2, ← HN1.out]; exact rdR_one RO.out)
  have CG := hide (lightL_any R2.out (fun y hy => by
    rw [List.mem_singleton] at hy
    subst hy
    exact hbr))
  have HBR := hide hbr
  obtain ⟨ka, HKA⟩ : ∃ k, Hid (sa.size = k) := ⟨_, rfl⟩
  obtain ⟨kb, HKB⟩ : ∃ k, Hid (sb.size = k) := ⟨_, rfl⟩
  have r1 := len_run sa ka HKA.out
  have r2 := len_run sb kb HKB.out
  rw [HKA.out] at hsa
  rw [HKB.out] at hsb
  clear hr hw1 hw2 hbr
  go_enter Try.func7, Try.ntmps7
  go_upto_region 1 with fail
  change Code.wp _ _ _ _ (w.alloc (.cells (RC r).toArray 25 (0, 0)))
  rw [← HW.out, HN.out]
  go_wp2_with (first
    | (refine wpList_load_mid rfl 25 _ rfl N 0 rfl (RC r) _ b1.out.range0 Try.underlying25 rfl Try.size25 ?_)
    | (refine wpList_build1E (E := RE) build_rec1 rfl _ rfl r rfl ?_; show wpList _ _ _ _ _ (w1.alloc (.cells (RC r).toArray 25 (0, 0))); rw [← HW2.out, HN1.out])
    | fail)
  refine CG.out.mono ?_
  rintro e w10 ⟨hpost, hb10⟩
  have L10 : Hid (Below w1.heap.size w1 w10) := (show Below _ _ _ from l2.out.trans (hb10.mono l2.out.size))
  clear hb10 CG
  have CV := hide (lives_any w10)
  rcases hpost with rfl | ⟨rfl, hl40, hlt⟩
  · go_wp2_with fail
    refine CV.out.mono ?_
    rintro e w11 ⟨rfl, hb11⟩
    have L11 : Hid (Below w.heap.size w w11) := (show Below _ _ _ from l1.out.trans ((L10.out.trans (hb11.mono L10.out.size)).mono l1.out.size))
    clear hb11 CV
    go_wp2_with fail
    go_ret
    exact ⟨rfl, L11.out⟩
  have LT := hide (hlt r (List.mem_cons_self ..))
  have KO := hide (kok_of HBR.out (by omega) LT.out)
  clear hlt hl40
  by_cases h3 : 300 < ka + kb
  · have q3 : decide ((300 : Int) < (ka : Int) + (kb : Int)) = true := by simp; omega
    go_wp2_with fail
    refine CV.out.mono ?_
    rintro e w11 ⟨rfl, hb11⟩
    have L11 : Hid (Below w.heap.size w w11) := (show Below _ _ _ from l1.out.trans ((L10.out.trans (hb11.mono L10.out.size)).mono l1.out.size))
    clear hb11 CV
    go_wp2_with fail
    go_ret
    exact ⟨rfl, L11.out⟩
  · have q3 : decide ((300 : Int) < (ka : Int) + (kb : Int)) = false := by simp; omega
    have q4 : decide ((300 : Int) < (ka : Int)) = false := by simp; omega
    have RO10 := hide (RO.out.kept L10.out)
    have B10 := hide (b1.out.kept L10.out)
    obtain ⟨E, HE⟩ : ∃ E, Hid (w10.heap.size = E) := ⟨_, rfl⟩
    obtain ⟨w11, hw11⟩ : ∃ y, y = w10.alloc (.cells (RC r).toArray 25 (0, 0)) := ⟨_, rfl⟩
    obtain ⟨b11, l11⟩ := newB HE hw11
    have HW11 := hide hw11
    have hNE : N < E := by rw [← HE.out]; exact B10.out.lt
    have B11 := hide (B10.out.kept l11.out)
    have RO11 := hide (RO10.out.kept l11.out)
    have L11 : Hid (Below w1.heap.size w1 w11) := (show Below _ _ _ from L10.out.trans (l11.out.mono L10.out.size))
    have hzr := zeroR
    have HSZ := Try.sizeOf23
    clear CV hw11
    go_upto_region 4 with (first
      | (refine wpList_load_mid rfl 25 _ rfl N 0 rfl (RC r) _ B10.out.range0 Try.underlying25 rfl Try.size25 ?_)
      | (refine wpList_store_new rfl 25 _ _ rfl w10 _ (RC r).toArray _ rfl rfl rfl Try.size25 rfl (all_one (RC_one r)) ?_; rw [← HW11.out, HE.out])
      | fail)
    try simp only [Act.put]
    go_upto_region 5 with (first
      | (refine wpList_store_sl rfl 23 HSZ _ _ rfl E 4 25 (RC r) none 0 0 rfl rfl b11.out (by show 4 < 5; omega) ?_; intro w12 hb12 hu12; rw [idR_cells] at hb12; have I12 := hide hb12; have B12 := hide (B11.out.but hu12 (by omega)); have C12 : Hid (Chg (fun k => k = E) w11 w12) := (show Chg _ _ _ from Chg.of_but hu12 rfl); clear hb12 hu12)
      | fail)
    try simp only [Act.put]
    have L12 : Hid (Below w1.heap.size w1 w12) := (show Below _ _ _ from L11.out.trans (C12.out.below L11.out.size (fun k hk e => by have := L10.out.size; have := HE.out; omega)))
    have RO12 := hide (RO.out.kept L12.out)
    have L0 : Hid (Below w.heap.size w w12) := (show Below _ _ _ from l1.out.trans (L12.out.mono l1.out.size))
    have d9 := B12.out.rws
    obtain ⟨K, HK⟩ : ∃ K, Hid (r.ws = K) := ⟨_, rfl⟩
    have HR : Hid (RdG PE w12 (.slice r.wa r.ws.length r.wc) r.ws) := (show RdG _ _ _ _ from RO12.out.ws)
    have HKK : Hid (∀ p ∈ r.ws, p.1.size < 9223372036854775807) := (show _ from KO.out.wk)
    have HM : Hid (∀ p ∈ r.ws, p ∈ r.ws) := (show _ from fun p hp => hp)
    unfold wv at d9
    obtain ⟨n, HNn⟩ : ∃ n, Hid (r.ws.length = n) := ⟨_, rfl⟩
    rw [HNn.out] at d9 HR
    obtain ⟨ya, HYA⟩ : ∃ y, Hid (r.wa = y) := ⟨_, rfl⟩
    obtain ⟨yc, HYC⟩ : ∃ y, Hid (r.wc = y) := ⟨_, rfl⟩
    rw [HYA.out, HYC.out] at d9 HR
    have hn0 := Nat.le_trans HR.out.cap HR.out.max
    have hzp := zeroP
    have hzx := zeroX
    have hbk := build_keyX
    have hbr2 := build_ranX sa sb
    have R0 : Hid (Below w12.heap.size w12 w12) := Below.refl _ _
    clear B11 RO11 C12 b11 q3 q4 r1 r2 l11
    go_upto_region 6 with fail
    go_loopg [34] (n + 1) (fun g z wr => ∃ i : Nat, i ≤ n ∧ g + i = n + 1 ∧ z = .int .i64 (i : Int) ∧ Hid (Below w12.heap.size w12 wr))
    case atStart => exact ⟨0, Nat.zero_le _, by omega, rfl, R0⟩
    case round =>
      clear R0 d9
      obtain ⟨i, hi, hg, rfl, LR⟩ := hrel
      by_cases hlt : i < n
      · have hlt2 : i < r.ws.length := by rw [HNn.out]; exact hlt
        have hlt' : (i : Int) < (n : Int) := by omega
        obtain ⟨bb, off, rfl, hb1, hx⟩ := (HR.out.kept LR.out).nth (by omega)
        have hrow : wr.rangeAt bb (off + i * 3) (PC r.ws[i]) := hx i hlt2
        have HPM : Hid (r.ws[i] ∈ r.ws) := (show _ ∈ _ from List.getElem_mem hlt2)
        have hpk := HKK.out _ (List.getElem_mem hlt2)
        obtain ⟨p, HP⟩ : ∃ p, Hid (r.ws[i] = p) := ⟨r.ws[i], (show r.ws[i] = r.ws[i] from rfl)⟩
        rw [HP.out] at hrow HPM hpk
        obtain ⟨G, HG⟩ : ∃ E, Hid (wr.heap.size = E) := ⟨_, rfl⟩
        obtain ⟨w13, hw13⟩ : ∃ y, y = wr.alloc (.cells (PC p).toArray 43 (0, 0)) := ⟨_, rfl⟩
        obtain ⟨b13, l13⟩ := newB HG hw13
        have HW13 := hide hw13
        have M13 : Hid (Below w12.heap.size w12 w13) := (show Below _ _ _ from LR.out.trans (l13.out.mono LR.out.size))
        have B13 := hide (B12.out.kept M13.out)
        have k13 := b13.out.key
        have HTW := hide (wrote_own HPM.out)
        have HTT := hide (touch_own HPM.out)
        have HTR := hide (fun (h1 : lt p.1 sa = false) (h2 : lt p.1 sb = true) => touch_ran HPM.out h1 h2)
        obtain ⟨y, HY⟩ : ∃ y, Hid (p.1 = y) := ⟨_, rfl⟩
        rw [HY.out] at k13 HTW HTT HTR hpk
        have HPK := hide hpk
        have hbk1 := build_keyX y
        have hk9 : (keyX y).k.size < 9223372036854775807 := hpk
        have HK9 := hide hk9
        have hk8 : (ranX sa sb).k.size < 9223372036854775807 := by show sa.size < _; rw [HKA.out]; omega
        have HK8 := hide hk8
        clear hx hw13 hpk hk9 hk8
        go_upto_region 8 with (first
          | (refine wpList_load_mid rfl 43 _ rfl bb (off + i * 3) rfl (PC p) _ hrow Try.underlying43 rfl Try.size43 ?_)
          | (refine wpList_store_new rfl 43 _ _ rfl wr _ (PC p).toArray _ rfl rfl rfl Try.size43 rfl (all_one (PC_one p)) ?_; rw [← HW13.out, HG.out])
          | fail)
        clear hrow
        go_upto_region 10 with (first
          | (refine wpList_load_mid rfl 25 _ rfl N 0 rfl (RC r) _ B13.out.range0 Try.underlying25 rfl Try.size25 ?_)
          | (go_at_call 11; refine (wrote_any (RO12.out.kept M13.out).ws y HPK.out).mono ?_; rw [HTW.out]; rintro e w14 ⟨rfl, hb14⟩; have M14 : Hid (Below w12.heap.size w12 w14) := (show Below _ _ _ from M13.out.trans (hb14.mono M13.out.size)); have B14 := hide (B12.out.kept M14.out); have k14 := (b13.out.kept hb14).key; rw [HY.out] at k14; have P14 := hide (b13.out.kept hb14); clear hb14)
          | (refine wpList_load_w9 rfl 25 _ rfl N 0 rfl (RC r) _ B14.out.range0 Try.underlying25 rfl Try.size25 ?_)
          | (go_at_call 13; refine (touches_any (RO12.out.kept M14.out).ws (keyX y) HK9.out).mono ?_; rw [HTT.out]; rintro e w15 ⟨rfl, hb15⟩; have M15 : Hid (Below w12.heap.size w12 w15) := (show Below _ _ _ from M14.out.trans (hb15.mono M14.out.size)); have k15 := (P14.out.kept hb15).key; rw [HY.out] at k15; have P15 := hide (P14.out.kept hb15); clear hb15)
          | fail)
        have I15 := hide (I12.out.kept M15.out)
        have hge := sge 9 y sa
        obtain ⟨gq, hgq⟩ : ∃ q, lt y sa = q := ⟨_, rfl⟩
        obtain ⟨lq, hlq⟩ : ∃ q, lt y sb = q := ⟨_, rfl⟩
        rw [hgq] at hge
        rw [hgq, hlq] at HTR
        have hlq2 : Op.bytesLess y.toList sb.toList = lq := hlq
        go_upto_region 12 with (first
          | (refine wpList_load_mid rfl 25 _ rfl E 0 rfl (RC (idR r)) _ I15.out.range0 Try.underlying25 rfl Try.size25 ?_)
          | (go_at_call 13; refine (touches_any (idR_ok (RO12.out.kept M15.out)).ws (keyX y) HK9.out).mono ?_; rw [touch_idR]; rintro e w16 ⟨rfl, hb16⟩; have M16 : Hid (Below w12.heap.size w12 w16) := (show Below _ _ _ from M15.out.trans (hb16.mono M15.out.size)); have k16 := (P15.out.kept hb16).key; rw [HY.out] at k16; have B16 := hide (B12.out.kept M16.out); clear hb16)
          | fail)
        cases gq with
        | true =>
          have hge2 : ∀ W, (binOp .geq 9 (.string y) (.string sa)).run Try.prog W = .ok (.bool false) W := fun W => by rw [hge]; rfl
          clear hge HTR hlq hlq2 hgq
          go_wp2_with fail
          go_roundg (n - i)
          case measure => omega
          case rel => exact ⟨i + 1, by omega, by omega, by go_num, M16⟩
        | false =>
          have hge2 : ∀ W, (binOp .geq 9 (.string y) (.string sa)).run Try.prog W = .ok (.bool true) W := fun W => by rw [hge]; rfl
          clear hge
          cases lq with
          | false =>
            clear HTR hlq hgq
            go_wp2_with fail
            go_roundg (n - i)
            case measure => omega
            case rel => exact ⟨i + 1, by omega, by omega, by go_num, M16⟩
          | true =>
            have HTR2 := hide (HTR.out rfl rfl)
            clear HTR hlq hgq
            go_wp2_with (first
              | (refine wpList_load_w9 rfl 25 _ rfl N 0 rfl (RC r) _ B16.out.range0 Try.underlying25 rfl Try.size25 ?_)
              | (go_at_call 13; refine (touches_any (RO12.out.kept M16.out).ws (ranX sa sb) HK8.out).mono ?_; rw [HTR2.out]; rintro e w17 ⟨rfl, hb17⟩; have M17 : Hid (Below w12.heap.size w12 w17) := (show Below _ _ _ from M16.out.trans (hb17.mono M16.out.size)); clear hb17)
              | fail)
            go_roundg (n - i)
            case measure => omega
            case rel => exact ⟨i + 1, by omega, by omega, by go_num, M17⟩
      · obtain rfl : i = n := by omega
        have hlt' : ¬ (i : Int) < i := by omega
        have ROr := RO12.out.kept LR.out
        have Br := hide (B12.out.kept LR.out)
        have Ir := hide (I12.out.kept LR.out)
        obtain ⟨G, HG⟩ : ∃ E, Hid (wr.heap.size = E) := ⟨_, rfl⟩
        obtain ⟨w20, hw20⟩ : ∃ y, y = wr.alloc (.cells (RC r).toArray 25 (0, 0)) := ⟨_, rfl⟩
        obtain ⟨b20, l20⟩ := newB HG hw20
        have R20 : Hid (RdR9 w20 (.slice (some ⟨G, 0, none⟩) 1 1) [r]) := (show RdR9 _ _ _ by rw [hw20, ← HG.out]; exact rdR_one ROr)
        have HW20 := hide hw20
        have RO20 := hide (ROr.kept l20.out)
        have B20 := hide (Br.out.kept l20.out)
        have I20 := hide (Ir.out.kept l20.out)
        have M20 : Hid (Below w12.heap.size w12 w20) := (show Below _ _ _ from LR.out.trans (l20.out.mono LR.out.size))
        clear hw20 ROr hbk hbr2
        go_upto_region 16 with (first
          | (refine wpList_load_mid rfl 25 _ rfl N 0 rfl (RC r) _ Br.out.range0 Try.underlying25 rfl Try.size25 ?_)
          | (refine wpList_build1E (E := RE) build_rec1 rfl _ rfl r rfl ?_; show wpList _ _ _ _ _ (wr.alloc (.cells (RC r).toArray 25 (0, 0))); rw [← HW20.out, HG.out])
          | fail)
        have CC := hide (clashV_any (idR_ok RO20.out) (idR_kok KO.out) R20.out)
        rw [clash_idR] at CC
        have hzi := idR_kok KO.out
        go_wp2_with (first
          | (refine wpList_load_mid rfl 25 _ rfl E 0 rfl (RC (idR r)) _ I20.out.range0 Try.underlying25 rfl Try.size25 ?_)
          | (refine wpList_load_w9 rfl 25 _ rfl N 0 rfl (RC r) _ B21.out.range0 Try.underlying25 rfl Try.size25 ?_)
          | (refine wpList_load_w9 rfl 25 _ rfl E 0 rfl (RC (idR r)) _ I21.out.range0 Try.underlying25 rfl Try.size25 ?_)
          | (refine wpList_build1W (E := RE) build_rec1 rfl _ rfl (idR r) rfl ?_; show wpList _ _ _ _ _ (w21.alloc (.cells (RC (idR r)).toArray 25 (0, 0))); rw [← HW22.out, HG2.out])
          | (go_at_call 18; refine CC2.out.mono ?_; rintro e w23 ⟨rfl, hb23⟩; have B23 := hide (B22.out.kept hb23); have I23 := hide (I22.out.kept hb23); have RO23 := hide (RO22.out.kept hb23); obtain ⟨G3, HG3⟩ : ∃ E, Hid (w23.heap.size = E) := ⟨_, rfl⟩; obtain ⟨w24, hw24⟩ : ∃ y, y = w23.alloc (.cells (RC (idR r)).toArray 25 (0, 0)) := ⟨_, rfl⟩; obtain ⟨b24, l24⟩ := newB HG3 hw24; have R24 : Hid (RdR9 w24 (.slice (some ⟨G3, 0, none⟩) 1 1) [idR r]) := (show RdR9 _ _ _ by rw [hw24, ← HG3.out]; exact rdR_one (idR_ok RO23.out)); have HW24 := hide hw24; have CS := hide (staleV_any (RO23.out.kept l24.out) KO.out R24.out); rw [stale_toI] at CS; have M24 : Hid (Below w20.heap.size w20 w24) := (show Below _ _ _ from (M22.out.trans (hb23.mono M22.out.size)).trans (l24.out.mono (by have := M22.out.size; have := hb23.size; omega))); clear hb23 hw24)
          | (go_at_call 18; refine CC.out.mono ?_; rintro e w21 ⟨rfl, hb21⟩; have M21 : Hid (Below w20.heap.size w20 w21) := (show Below _ _ _ from hb21); have B21 := hide (B20.out.kept hb21); have I21 := hide (I20.out.kept hb21); have RI21 := hide (idR_ok (RO20.out.kept hb21)); obtain ⟨G2, HG2⟩ : ∃ E, Hid (w21.heap.size = E) := ⟨_, rfl⟩; obtain ⟨w22, hw22⟩ : ∃ y, y = w21.alloc (.cells (RC (idR r)).toArray 25 (0, 0)) := ⟨_, rfl⟩; obtain ⟨b22, l22⟩ := newB HG2 hw22; have R22 : Hid (RdR9 w22 (.slice (some ⟨G2, 0, none⟩) 1 1) [idR r]) := (show RdR9 _ _ _ by rw [hw22, ← HG2.out]; exact rdR_one RI21.out); have HW22 := hide hw22; have RO22 := hide ((RO20.out.kept hb21).kept l22.out); have B22 := hide (B21.out.kept l22.out); have I22 := hide (I21.out.kept l22.out); have CC2 := hide (clashV_any RO22.out KO.out R22.out); rw [clash_toI] at CC2; have M22 : Hid (Below w20.heap.size w20 w22) := (show Below _ _ _ from hb21.trans (l22.out.mono hb21.size)); clear hb21 hw22)
          | (refine wpList_load_w9 rfl 25 _ rfl N 0 rfl (RC r) _ B23.out.range0 Try.underlying25 rfl Try.size25 ?_)
          | (refine wpList_load_w9 rfl 25 _ rfl E 0 rfl (RC (idR r)) _ I23.out.range0 Try.underlying25 rfl Try.size25 ?_)
          | (refine wpList_build1W (E := RE) build_rec1 rfl _ rfl (idR r) rfl ?_; show wpList _ _ _ _ _ (w23.alloc (.cells (RC (idR r)).toArray 25 (0, 0))); rw [← HW24.out, HG3.out])
          | (go_at_call 20; refine CS.out.mono ?_; rintro e w25 ⟨rfl, hb25⟩; have M25 : Hid (Below w20.heap.size w20 w25) := (show Below _ _ _ from M24.out.trans (hb25.mono M24.out.size)); clear hb25)
          | (go_at_call 10; refine (lives_any _).mono ?_; rintro e w26 ⟨rfl, hb26⟩; have M26 : Hid (Below w20.heap.size w20 w26) := (show Below _ _ _ from M25.out.trans (hb26.mono M25.out.size)); clear hb26)
          | fail)
        go_ret
        exact ⟨rfl, L0.out.trans ((M20.out.trans (M26.out.mono M20.out.size)).mono L0.out.size)⟩
#print axioms certifyReads_any
end Go.Proofs.Ythniaoacanabdaa
