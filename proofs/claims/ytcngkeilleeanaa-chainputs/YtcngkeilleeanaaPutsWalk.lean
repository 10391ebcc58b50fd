/-
  indenturelaw07.ChainPuts: the walk: the call returns true and makes new memory alone.
-/
import Derived.Test.YtcngkeilleeanaaMakesWalk
import Derived.Test.YtcngkeilleeanaaChQ
namespace Go.Proofs.Ytcngkeilleeanaa
open Go.RowKit

set_option maxHeartbeats 4000000 in
set_option maxRecDepth 100000 in
theorem chainPuts_any {w : World} {v : Value} {L : List Ver} (h : RdV w v L) (x : Ver) (z : Int) : Calls Try.prog 6 #[v, .agg (VC x).toArray, .int .i64 z] w fun e w' => e = .returned (.bool true) ∧ Below w.heap.size w w' := by
  have HL := hide h
  obtain ⟨a, cp, rfl⟩ := h.slice
  have hn : L.length ≤ 9223372036854775807 := Nat.le_trans h.cap h.max
  clear h
  have hz := Zver
  obtain ⟨n, HN⟩ : ∃ n, Hid (L.length = n) := ⟨_, rfl⟩
  rw [HN.out] at HL hn ⊢
  have L0 := hide ((Below.refl w.heap.size w).alloc (Nat.le_refl _) (.cells (VC x).toArray 28 (0, 0)))
  have BV0 := hide (Blk.new w 28 (VC x))
  by_cases h300 : 300 < n
  · have q1 : (300 : Int) < (n : Int) := by omega
    go_enter Try.func6, Try.ntmps6
    go_wp2_with fail
    refine (lives_any _).mono ?_
    rintro e w1 ⟨rfl, hb⟩
    have L1 : Hid (Below w.heap.size w w1) := L0.out.trans (hb.mono L0.out.size)
    clear hb
    go_wp2_with fail
    go_ret
    exact ⟨rfl, L1.out⟩
  · have q1 : decide ((300 : Int) < (n : Int)) = false := by simp; omega
    have hl : L.length ≤ 300 := by rw [HN.out]; omega
    have HH := hide hl
    clear hl
    go_enter Try.func6, Try.ntmps6
    go_upto_region 3 with fail
    obtain ⟨EV, HEV⟩ : ∃ E, Hid (w.heap.size = E) := ⟨_, rfl⟩
    obtain ⟨w0, hw0⟩ : ∃ y, y = w.alloc (.cells (VC x).toArray 28 (0, 0)) := ⟨_, rfl⟩
    rw [← hw0] at L0 BV0 ⊢
    rw [HEV.out] at BV0 ⊢
    clear hw0
    go_wp2_with fail
    refine (plain_any (HL.out.kept L0.out) (by have := HH.out; omega)).mono ?_
    rintro e w1 ⟨p, rfl, ho, hb⟩
    have L1 : Hid (Below w.heap.size w w1) := L0.out.trans (hb.mono L0.out.size)
    have Dw1 : Hid (Below w0.heap.size w0 w1) := hb
    have RP1 := hide ho.rd
    clear ho
    clear hb
    have r1 := (BV0.out.kept Dw1.out).range0
    go_wp2_with (first
      | (refine wpList_load_mid rfl 28 _ rfl EV 0 rfl (VC x) _ r1 Try.underlying28 rfl Try.size28 ?_)
      | fail)
    refine (put_any (HL.out.kept L1.out) (by have := HH.out; omega) x).mono ?_
    rintro e w2 ⟨px, rfl, ho, hb⟩
    have L2 : Hid (Below w.heap.size w w2) := L1.out.trans (hb.mono L1.out.size)
    have Dw2 : Hid (Below w1.heap.size w1 w2) := hb
    have RX2 := hide ho.rd
    clear ho
    clear hb
    have RP2 := hide (RP1.out.kept Dw2.out)
    have BV2 := hide ((BV0.out.kept Dw1.out).kept Dw2.out)
    have HPl := hide (putP_le L x)
    clear r1
    obtain ⟨ok, HOK⟩ : ∃ q, Hid (putOk L x = q) := ⟨_, rfl⟩
    rw [HOK.out]
    cases ok with
    | false =>
      rw [putP_no HOK.out] at RX2
      go_wp2_with fail
      refine (plain_any RX2.out (by have := HH.out; omega)).mono ?_
      rintro e w3 ⟨qx, rfl, ho, hb⟩
      have L3 : Hid (Below w.heap.size w w3) := L2.out.trans (hb.mono L2.out.size)
      have Dw3 : Hid (Below w2.heap.size w2 w3) := hb
      have RX3 := hide ho.rd
      clear ho
      clear hb
      go_wp2_with fail
      refine (same_any RX3.out (RP2.out.kept Dw3.out)).mono ?_
      rintro e w4 ⟨rfl, hb⟩
      have L4 : Hid (Below w.heap.size w w4) := L3.out.trans (hb.mono L3.out.size)
      have Dw4 : Hid (Below w3.heap.size w3 w4) := hb
      clear hb
      have e5 : decide (L = L) = true := by simp
      rw [e5]
      clear e5
      go_wp2_with fail
      refine (lives_any w4).mono ?_
      rintro e wz ⟨rfl, hb⟩
      have Lz : Hid (Below w.heap.size w wz) := L4.out.trans (hb.mono L4.out.size)
      have Dwz : Hid (Below w4.heap.size w4 wz) := hb
      clear hb
      go_wp2_with fail
      go_ret
      exact ⟨rfl, Lz.out⟩
    | true =>
      rw [putP_ok HOK.out] at RX2
      have HGA := hide (put_get HOK.out)
      have HGO := hide (fun (hn : z < x.1) => put_old HOK.out hn)
      have HLA := hide (put_last HOK.out)
      have HCU := hide (put_cut HOK.out)
      have HGD := hide (put_facts HOK.out).2.1
      obtain ⟨M, HM⟩ : ∃ M, Hid (L ++ [x] = M) := ⟨_, rfl⟩
      rw [HM.out] at RX2 HGA HGO HLA HCU HGD
      have HMl : Hid (M.length = n + 1) := (show _ = _ by rw [← HM.out, List.length_append, HN.out]; rfl)
      obtain ⟨xa, xc, hpx⟩ := RX2.out.slice
      subst hpx
      obtain ⟨N1, HN1⟩ : ∃ k, Hid (n + 1 = k) := ⟨_, rfl⟩
      rw [HN1.out] at HMl
      rw [HMl.out] at RX2 ⊢
      obtain ⟨A1, HA1⟩ : ∃ X, Hid ((getP M x.1).1 = X) := ⟨_, rfl⟩
      obtain ⟨A2, HA2⟩ : ∃ X, Hid ((getP M x.1).2 = X) := ⟨_, rfl⟩
      obtain ⟨B1, HB1⟩ : ∃ X, Hid ((getP L z).1 = X) := ⟨_, rfl⟩
      obtain ⟨B2, HB2⟩ : ∃ X, Hid ((getP L z).2 = X) := ⟨_, rfl⟩
      obtain ⟨D1, HD1⟩ : ∃ X, Hid ((getP M z).1 = X) := ⟨_, rfl⟩
      obtain ⟨D2, HD2⟩ : ∃ X, Hid ((getP M z).2 = X) := ⟨_, rfl⟩
      have G3 := hide (get_any RX2.out (by have := HMl.out; have := HN1.out; have := HH.out; omega) x.1)
      rw [HA1.out, HA2.out] at G3
      have cAt := BV2.out.cell (j := 0) rfl
      go_wp2_with fail
      refine (G3.out).mono ?_
      rintro e w3a ⟨rfl, hb⟩
      have Lw3a : Hid (Below w.heap.size w w3a) := L2.out.trans (hb.mono L2.out.size)
      have Dw3a : Hid (Below w2.heap.size w2 w3a) := hb
      clear hb
      go_upto_region 8 with (first
        | (refine wpList_store_new rfl 28 _ _ rfl w3a _ (VC A1).toArray _ rfl rfl rfl Try.size28 rfl (all_one (VC_one A1)) ?_)
        | fail)
      obtain ⟨E3, HE3⟩ : ∃ E, Hid (w3a.heap.size = E) := ⟨_, rfl⟩
      rw [HE3.out]
      obtain ⟨w3, hw⟩ : ∃ y, y = w3a.alloc (.cells (VC A1).toArray 28 (0, 0)) := ⟨_, rfl⟩
      rw [← hw]
      have Dw3b : Hid (Below w3a.heap.size w3a w3) := (show Below _ _ _ by rw [hw]; exact (Below.refl _ _).alloc (Nat.le_refl _) _)
      have L3 : Hid (Below w.heap.size w w3) := Lw3a.out.trans (Dw3b.out.mono Lw3a.out.size)
      have Dw3 : Hid (Below w2.heap.size w2 w3) := Dw3a.out.trans (Dw3b.out.mono Dw3a.out.size)
      have BE3 : Hid (Blk w3 E3 28 (VC A1)) := (show Blk _ _ _ _ by rw [hw, ← HE3.out]; exact Blk.new w3a 28 (VC A1))
      clear hw Dw3a Dw3b Lw3a
      clear cAt G3
      have G4 := hide (get_any (HL.out.kept L3.out) (by have := HH.out; omega) z)
      rw [HB1.out, HB2.out] at G4
      go_wp2_with fail
      refine (G4.out).mono ?_
      rintro e w4a ⟨rfl, hb⟩
      have Lw4a : Hid (Below w.heap.size w w4a) := L3.out.trans (hb.mono L3.out.size)
      have Dw4a : Hid (Below w3.heap.size w3 w4a) := hb
      clear hb
      go_upto_region 9 with (first
        | (refine wpList_store_new rfl 28 _ _ rfl w4a _ (VC B1).toArray _ rfl rfl rfl Try.size28 rfl (all_one (VC_one B1)) ?_)
        | fail)
      obtain ⟨E4, HE4⟩ : ∃ E, Hid (w4a.heap.size = E) := ⟨_, rfl⟩
      rw [HE4.out]
      obtain ⟨w4, hw⟩ : ∃ y, y = w4a.alloc (.cells (VC B1).toArray 28 (0, 0)) := ⟨_, rfl⟩
      rw [← hw]
      have Dw4b : Hid (Below w4a.heap.size w4a w4) := (show Below _ _ _ by rw [hw]; exact (Below.refl _ _).alloc (Nat.le_refl _) _)
      have L4 : Hid (Below w.heap.size w w4) := Lw4a.out.trans (Dw4b.out.mono Lw4a.out.size)
      have Dw4 : Hid (Below w3.heap.size w3 w4) := Dw4a.out.trans (Dw4b.out.mono Dw4a.out.size)
      have BE4 : Hid (Blk w4 E4 28 (VC B1)) := (show Blk _ _ _ _ by rw [hw, ← HE4.out]; exact Blk.new w4a 28 (VC B1))
      clear hw Dw4a Dw4b Lw4a
      have RX4 := hide ((RX2.out.kept Dw3.out).kept Dw4.out)
      have G5 := hide (get_any RX4.out (by have := HMl.out; have := HN1.out; have := HH.out; omega) z)
      rw [HD1.out, HD2.out] at G5
      go_wp2_with fail
      refine (G5.out).mono ?_
      rintro e w5a ⟨rfl, hb⟩
      have Lw5a : Hid (Below w.heap.size w w5a) := L4.out.trans (hb.mono L4.out.size)
      have Dw5a : Hid (Below w4.heap.size w4 w5a) := hb
      clear hb
      go_upto_region 10 with (first
        | (refine wpList_store_new rfl 28 _ _ rfl w5a _ (VC D1).toArray _ rfl rfl rfl Try.size28 rfl (all_one (VC_one D1)) ?_)
        | fail)
      obtain ⟨E5, HE5⟩ : ∃ E, Hid (w5a.heap.size = E) := ⟨_, rfl⟩
      rw [HE5.out]
      obtain ⟨w5, hw⟩ : ∃ y, y = w5a.alloc (.cells (VC D1).toArray 28 (0, 0)) := ⟨_, rfl⟩
      rw [← hw]
      have Dw5b : Hid (Below w5a.heap.size w5a w5) := (show Below _ _ _ by rw [hw]; exact (Below.refl _ _).alloc (Nat.le_refl _) _)
      have L5 : Hid (Below w.heap.size w w5) := Lw5a.out.trans (Dw5b.out.mono Lw5a.out.size)
      have Dw5 : Hid (Below w4.heap.size w4 w5) := Dw5a.out.trans (Dw5b.out.mono Dw5a.out.size)
      have BE5 : Hid (Blk w5 E5 28 (VC D1)) := (show Blk _ _ _ _ by rw [hw, ← HE5.out]; exact Blk.new w5a 28 (VC D1))
      clear hw Dw5a Dw5b Lw5a
      have RX5 := hide (RX4.out.kept Dw5.out)
      have BV5 := hide (((BV2.out.kept Dw3.out).kept Dw4.out).kept Dw5.out)
      have BA5 := hide ((BE3.out.kept Dw4.out).kept Dw5.out)
      have BB5 := hide (BE4.out.kept Dw5.out)
      have RP5 := hide (((RP2.out.kept Dw3.out).kept Dw4.out).kept Dw5.out)
      have cL := quiet_of (w := w5) (fun W hW => last_any (RX5.out.kept hW))
      have cG := quiet_of (w := w5) (fun W hW => good_any (RX5.out.kept hW))
      rw [HLA.out] at cL
      rw [HGD.out] at cG
      have KV := hide BV5.out.class
      have KA := hide BA5.out.class
      have c0 := cell_regrown (BV5.out.cell (j := 0) rfl)
      have c2 := cell_regrown (BV5.out.cell (j := 2) rfl)
      clear G4 G5
      have hwr : IntKind.i64.wrap ((n : Int) + 1) = (N1 : Int) := by have := HN1.out; have h3 : n ≤ 300 := by omega
                                                                     rw [IntKind.wrap_i64]; omega
      obtain ⟨xt, s, d⟩ := x
      simp only at c0 c2 cL HGA HGO HLA
      cases d with
      | true =>
        have hA1 : A1 = zv := by rw [← HA1.out]; exact congrArg Prod.fst HGA.out
        have hA2 : A2 = false := by rw [← HA2.out]; exact congrArg Prod.snd HGA.out
        subst hA1 hA2
        refine wp_region_quiet_below Try.mixed (by kernel_rfl) ?_
        repeat (go_big_quiet_step (first | exact cL _ _ | exact cG _ _))
        refine wpQuiet_nil ?_
        intro w6 hw6
        have Dw6 : Hid (Below w5.heap.size w5 w6) := (show Below _ _ _ by obtain ⟨⟨dq, osq⟩, rfl⟩ := hw6; exact below_regrown w5 dq osq)
        have L6 : Hid (Below w.heap.size w w6) := L5.out.trans (Dw6.out.mono L5.out.size)
        have cAt := (BV5.out.kept Dw6.out).cell (j := 0) rfl
        have r4 := (BB5.out.kept Dw6.out).range0
        have r5 := (BE5.out.kept Dw6.out).range0
        simp only at cAt
        clear hw6 cL cG KV KA c0 c2 hwr
        by_cases hz1 : z < xt
        · have hold := HGO.out hz1
          have hD1 : D1 = B1 := by rw [← HD1.out, ← HB1.out, hold]
          have hD2 : D2 = B2 := by rw [← HD2.out, ← HB2.out, hold]
          subst hD1 hD2
          have hne2 : ∀ W, (binOp .neq 28 (.agg (VC D1).toArray) (.agg (VC D1).toArray)).run Try.prog W = .ok (.bool false) W := fun W => by rw [ne_ver]; simp
          clear hold
          go_wp2_with (first
            | (refine wpList_load_w rfl 28 _ rfl E4 0 rfl (VC D1) _ r4 Try.underlying28 rfl Try.size28 ?_)
            | (refine wpList_load_w rfl 28 _ rfl E5 0 rfl (VC D1) _ r5 Try.underlying28 rfl Try.size28 ?_)
            | fail)
          refine (last_any (HL.out.kept L6.out)).mono ?_
          rintro e w7 ⟨rfl, hb⟩
          have L7 : Hid (Below w.heap.size w w7) := L6.out.trans (hb.mono L6.out.size)
          have Dw7 : Hid (Below w6.heap.size w6 w7) := hb
          clear hb
          go_wp2_with fail
          refine (cut_any ((RX5.out.kept Dw6.out).kept Dw7.out) (by have := HMl.out; have := HN1.out; have := HH.out; omega) (lst L)).mono ?_
          rintro e w8 ⟨cv, rfl, ho, hb⟩
          have L8 : Hid (Below w.heap.size w w8) := L7.out.trans (hb.mono L7.out.size)
          have Dw8 : Hid (Below w7.heap.size w7 w8) := hb
          rw [HCU.out] at ho
          have RC8 := hide ho.rd
          clear ho
          clear hb
          go_wp2_with fail
          refine (plain_any RC8.out (by have := HH.out; omega)).mono ?_
          rintro e w9 ⟨cq, rfl, ho, hb⟩
          have L9 : Hid (Below w.heap.size w w9) := L8.out.trans (hb.mono L8.out.size)
          have Dw9 : Hid (Below w8.heap.size w8 w9) := hb
          have RC9 := hide ho.rd
          clear ho
          clear hb
          have RP9 := hide ((((RP5.out.kept Dw6.out).kept Dw7.out).kept Dw8.out).kept Dw9.out)
          go_wp2_with fail
          refine (same_any RC9.out RP9.out).mono ?_
          rintro e wa ⟨rfl, hb⟩
          have La : Hid (Below w.heap.size w wa) := L9.out.trans (hb.mono L9.out.size)
          have Dwa : Hid (Below w9.heap.size w9 wa) := hb
          clear hb
          have e5 : decide (L = L) = true := by simp
          rw [e5]
          clear e5
          go_wp2_with fail
          refine (plain_any (HL.out.kept La.out) (by have := HH.out; omega)).mono ?_
          rintro e wb ⟨dq, rfl, ho, hb⟩
          have Lb : Hid (Below w.heap.size w wb) := La.out.trans (hb.mono La.out.size)
          have Dwb : Hid (Below wa.heap.size wa wb) := hb
          have RDb := hide ho.rd
          clear ho
          clear hb
          go_wp2_with fail
          refine (same_any RDb.out ((RP9.out.kept Dwa.out).kept Dwb.out)).mono ?_
          rintro e wc ⟨rfl, hb⟩
          have Lc : Hid (Below w.heap.size w wc) := Lb.out.trans (hb.mono Lb.out.size)
          have Dwc : Hid (Below wb.heap.size wb wc) := hb
          clear hb
          have e5 : decide (L = L) = true := by simp
          rw [e5]
          clear e5
          go_wp2_with fail
          refine (lives_any wc).mono ?_
          rintro e wz ⟨rfl, hb⟩
          have Lz : Hid (Below w.heap.size w wz) := Lc.out.trans (hb.mono Lc.out.size)
          have Dwz : Hid (Below wc.heap.size wc wz) := hb
          clear hb
          go_wp2_with fail
          go_ret
          exact ⟨rfl, Lz.out⟩
        · have q3 : decide (z < xt) = false := by simp; omega
          go_wp2_with fail
          refine (last_any (HL.out.kept L6.out)).mono ?_
          rintro e w7 ⟨rfl, hb⟩
          have L7 : Hid (Below w.heap.size w w7) := L6.out.trans (hb.mono L6.out.size)
          have Dw7 : Hid (Below w6.heap.size w6 w7) := hb
          clear hb
          go_wp2_with fail
          refine (cut_any ((RX5.out.kept Dw6.out).kept Dw7.out) (by have := HMl.out; have := HN1.out; have := HH.out; omega) (lst L)).mono ?_
          rintro e w8 ⟨cv, rfl, ho, hb⟩
          have L8 : Hid (Below w.heap.size w w8) := L7.out.trans (hb.mono L7.out.size)
          have Dw8 : Hid (Below w7.heap.size w7 w8) := hb
          rw [HCU.out] at ho
          have RC8 := hide ho.rd
          clear ho
          clear hb
          go_wp2_with fail
          refine (plain_any RC8.out (by have := HH.out; omega)).mono ?_
          rintro e w9 ⟨cq, rfl, ho, hb⟩
          have L9 : Hid (Below w.heap.size w w9) := L8.out.trans (hb.mono L8.out.size)
          have Dw9 : Hid (Below w8.heap.size w8 w9) := hb
          have RC9 := hide ho.rd
          clear ho
          clear hb
          have RP9 := hide ((((RP5.out.kept Dw6.out).kept Dw7.out).kept Dw8.out).kept Dw9.out)
          go_wp2_with fail
          refine (same_any RC9.out RP9.out).mono ?_
          rintro e wa ⟨rfl, hb⟩
          have La : Hid (Below w.heap.size w wa) := L9.out.trans (hb.mono L9.out.size)
          have Dwa : Hid (Below w9.heap.size w9 wa) := hb
          clear hb
          have e5 : decide (L = L) = true := by simp
          rw [e5]
          clear e5
          go_wp2_with fail
          refine (plain_any (HL.out.kept La.out) (by have := HH.out; omega)).mono ?_
          rintro e wb ⟨dq, rfl, ho, hb⟩
          have Lb : Hid (Below w.heap.size w wb) := La.out.trans (hb.mono La.out.size)
          have Dwb : Hid (Below wa.heap.size wa wb) := hb
          have RDb := hide ho.rd
          clear ho
          clear hb
          go_wp2_with fail
          refine (same_any RDb.out ((RP9.out.kept Dwa.out).kept Dwb.out)).mono ?_
          rintro e wc ⟨rfl, hb⟩
          have Lc : Hid (Below w.heap.size w wc) := Lb.out.trans (hb.mono Lb.out.size)
          have Dwc : Hid (Below wb.heap.size wb wc) := hb
          clear hb
          have e5 : decide (L = L) = true := by simp
          rw [e5]
          clear e5
          go_wp2_with fail
          refine (lives_any wc).mono ?_
          rintro e wz ⟨rfl, hb⟩
          have Lz : Hid (Below w.heap.size w wz) := Lc.out.trans (hb.mono Lc.out.size)
          have Dwz : Hid (Below wc.heap.size wc wz) := hb
          clear hb
          go_wp2_with fail
          go_ret
          exact ⟨rfl, Lz.out⟩
      | false =>
        have hA1 : A1 = (xt, s, false) := by rw [← HA1.out]; exact congrArg Prod.fst HGA.out
        have hA2 : A2 = true := by rw [← HA2.out]; exact congrArg Prod.snd HGA.out
        subst hA1 hA2
        have hne : ∀ W, (binOp .neq 28 (.agg (VC (xt, s, false)).toArray) (.agg (VC (xt, s, false)).toArray)).run Try.prog W = .ok (.bool false) W := fun W => by rw [ne_ver]; simp
        refine wp_region_quiet_below Try.mixed (by kernel_rfl) ?_
        iterate 7 (go_big_quiet_step (fail))
        refine wpQuiet_load_mid rfl 28 _ rfl E3 0 rfl (VC (xt, s, false)) _ KA.out Try.underlying28 rfl Try.size28 ?_
        simp only [Act.put, List.setIfInBounds_toArray, List.set_cons_succ, List.set_cons_zero]
        refine wpQuiet_load_mid rfl 28 _ rfl EV 0 rfl (VC (xt, s, false)) _ KV.out Try.underlying28 rfl Try.size28 ?_
        simp only [Act.put, List.setIfInBounds_toArray, List.set_cons_succ, List.set_cons_zero]
        repeat (go_big_quiet_step (first | exact cL _ _ | exact cG _ _))
        refine wpQuiet_nil ?_
        intro w6 hw6
        have Dw6 : Hid (Below w5.heap.size w5 w6) := (show Below _ _ _ by obtain ⟨⟨dq, osq⟩, rfl⟩ := hw6; exact below_regrown w5 dq osq)
        have L6 : Hid (Below w.heap.size w w6) := L5.out.trans (Dw6.out.mono L5.out.size)
        have cAt := (BV5.out.kept Dw6.out).cell (j := 0) rfl
        have r4 := (BB5.out.kept Dw6.out).range0
        have r5 := (BE5.out.kept Dw6.out).range0
        simp only at cAt
        clear hw6 cL cG KV KA c0 c2 hwr
        by_cases hz1 : z < xt
        · have hold := HGO.out hz1
          have hD1 : D1 = B1 := by rw [← HD1.out, ← HB1.out, hold]
          have hD2 : D2 = B2 := by rw [← HD2.out, ← HB2.out, hold]
          subst hD1 hD2
          have hne2 : ∀ W, (binOp .neq 28 (.agg (VC D1).toArray) (.agg (VC D1).toArray)).run Try.prog W = .ok (.bool false) W := fun W => by rw [ne_ver]; simp
          clear hold
          go_wp2_with (first
            | (refine wpList_load_w rfl 28 _ rfl E4 0 rfl (VC D1) _ r4 Try.underlying28 rfl Try.size28 ?_)
            | (refine wpList_load_w rfl 28 _ rfl E5 0 rfl (VC D1) _ r5 Try.underlying28 rfl Try.size28 ?_)
            | fail)
          refine (last_any (HL.out.kept L6.out)).mono ?_
          rintro e w7 ⟨rfl, hb⟩
          have L7 : Hid (Below w.heap.size w w7) := L6.out.trans (hb.mono L6.out.size)
          have Dw7 : Hid (Below w6.heap.size w6 w7) := hb
          clear hb
          go_wp2_with fail
          refine (cut_any ((RX5.out.kept Dw6.out).kept Dw7.out) (by have := HMl.out; have := HN1.out; have := HH.out; omega) (lst L)).mono ?_
          rintro e w8 ⟨cv, rfl, ho, hb⟩
          have L8 : Hid (Below w.heap.size w w8) := L7.out.trans (hb.mono L7.out.size)
          have Dw8 : Hid (Below w7.heap.size w7 w8) := hb
          rw [HCU.out] at ho
          have RC8 := hide ho.rd
          clear ho
          clear hb
          go_wp2_with fail
          refine (plain_any RC8.out (by have := HH.out; omega)).mono ?_
          rintro e w9 ⟨cq, rfl, ho, hb⟩
          have L9 : Hid (Below w.heap.size w w9) := L8.out.trans (hb.mono L8.out.size)
          have Dw9 : Hid (Below w8.heap.size w8 w9) := hb
          have RC9 := hide ho.rd
          clear ho
          clear hb
          have RP9 := hide ((((RP5.out.kept Dw6.out).kept Dw7.out).kept Dw8.out).kept Dw9.out)
          go_wp2_with fail
          refine (same_any RC9.out RP9.out).mono ?_
          rintro e wa ⟨rfl, hb⟩
          have La : Hid (Below w.heap.size w wa) := L9.out.trans (hb.mono L9.out.size)
          have Dwa : Hid (Below w9.heap.size w9 wa) := hb
          clear hb
          have e5 : decide (L = L) = true := by simp
          rw [e5]
          clear e5
          go_wp2_with fail
          refine (plain_any (HL.out.kept La.out) (by have := HH.out; omega)).mono ?_
          rintro e wb ⟨dq, rfl, ho, hb⟩
          have Lb : Hid (Below w.heap.size w wb) := La.out.trans (hb.mono La.out.size)
          have Dwb : Hid (Below wa.heap.size wa wb) := hb
          have RDb := hide ho.rd
          clear ho
          clear hb
          go_wp2_with fail
          refine (same_any RDb.out ((RP9.out.kept Dwa.out).kept Dwb.out)).mono ?_
          rintro e wc ⟨rfl, hb⟩
          have Lc : Hid (Below w.heap.size w wc) := Lb.out.trans (hb.mono Lb.out.size)
          have Dwc : Hid (Below wb.heap.size wb wc) := hb
          clear hb
          have e5 : decide (L = L) = true := by simp
          rw [e5]
          clear e5
          go_wp2_with fail
          refine (lives_any wc).mono ?_
          rintro e wz ⟨rfl, hb⟩
          have Lz : Hid (Below w.heap.size w wz) := Lc.out.trans (hb.mono Lc.out.size)
          have Dwz : Hid (Below wc.heap.size wc wz) := hb
          clear hb
          go_wp2_with fail
          go_ret
          exact ⟨rfl, Lz.out⟩
        · have q3 : decide (z < xt) = false := by simp; omega
          go_wp2_with fail
          refine (last_any (HL.out.kept L6.out)).mono ?_
          rintro e w7 ⟨rfl, hb⟩
          have L7 : Hid (Below w.heap.size w w7) := L6.out.trans (hb.mono L6.out.size)
          have Dw7 : Hid (Below w6.heap.size w6 w7) := hb
          clear hb
          go_wp2_with fail
          refine (cut_any ((RX5.out.kept Dw6.out).kept Dw7.out) (by have := HMl.out; have := HN1.out; have := HH.out; omega) (lst L)).mono ?_
          rintro e w8 ⟨cv, rfl, ho, hb⟩
          have L8 : Hid (Below w.heap.size w w8) := L7.out.trans (hb.mono L7.out.size)
          have Dw8 : Hid (Below w7.heap.size w7 w8) := hb
          rw [HCU.out] at ho
          have RC8 := hide ho.rd
          clear ho
          clear hb
          go_wp2_with fail
          refine (plain_any RC8.out (by have := HH.out; omega)).mono ?_
          rintro e w9 ⟨cq, rfl, ho, hb⟩
          have L9 : Hid (Below w.heap.size w w9) := L8.out.trans (hb.mono L8.out.size)
          have Dw9 : Hid (Below w8.heap.size w8 w9) := hb
          have RC9 := hide ho.rd
          clear ho
          clear hb
          have RP9 := hide ((((RP5.out.kept Dw6.out).kept Dw7.out).kept Dw8.out).kept Dw9.out)
          go_wp2_with fail
          refine (same_any RC9.out RP9.out).mono ?_
          rintro e wa ⟨rfl, hb⟩
          have La : Hid (Below w.heap.size w wa) := L9.out.trans (hb.mono L9.out.size)
          have Dwa : Hid (Below w9.heap.size w9 wa) := hb
          clear hb
          have e5 : decide (L = L) = true := by simp
          rw [e5]
          clear e5
          go_wp2_with fail
          refine (plain_any (HL.out.kept La.out) (by have := HH.out; omega)).mono ?_
          rintro e wb ⟨dq, rfl, ho, hb⟩
          have Lb : Hid (Below w.heap.size w wb) := La.out.trans (hb.mono La.out.size)
          have Dwb : Hid (Below wa.heap.size wa wb) := hb
          have RDb := hide ho.rd
          clear ho
          clear hb
          go_wp2_with fail
          refine (same_any RDb.out ((RP9.out.kept Dwa.out).kept Dwb.out)).mono ?_
          rintro e wc ⟨rfl, hb⟩
          have Lc : Hid (Below w.heap.size w wc) := Lb.out.trans (hb.mono Lb.out.size)
          have Dwc : Hid (Below wb.heap.size wb wc) := hb
          clear hb
          have e5 : decide (L = L) = true := by simp
          rw [e5]
          clear e5
          go_wp2_with fail
          refine (lives_any wc).mono ?_
          rintro e wz ⟨rfl, hb⟩
          have Lz : Hid (Below w.heap.size w wz) := Lc.out.trans (hb.mono Lc.out.size)
          have Dwz : Hid (Below wc.heap.size wc wz) := hb
          clear hb
          go_wp2_with fail
          go_ret
          exact ⟨rfl, Lz.out⟩
#print axioms chainPuts_any
end Go.Proofs.Ytcngkeilleeanaa
