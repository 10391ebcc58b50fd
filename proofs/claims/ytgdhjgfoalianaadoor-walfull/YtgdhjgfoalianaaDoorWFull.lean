/-
  indenturelaw06.WalFull: the walk: the call returns true and makes new memory alone.
-/
import Derived.Test.YtgdhjgfoalianaaDoorWMine
namespace Go.Proofs.YtgdhjgfoalianaaDoor
open Go.RowKit

theorem pads_snoc (ts : List (List UInt8)) (t : List UInt8) : (pads (ts ++ [t])).length = (pads ts).length + (pad t).length := by rw [pads_append, pads_one, List.length_append]
theorem pad_short {t : List UInt8} (h : t.length < 248) : (pad t).length = (t.length + 36) / 32 * 32 := by
  rw [pad_length, framed_length, enc_short h]
  unfold ru
  simp
  omega

set_option maxRecDepth 100000 in
set_option maxHeartbeats 4000000 in
theorem walFull_any (k : Nat) (v : Value) (ls : List (List UInt8)) (w : World) (hT : Tab w) (hr : RdT w v ls) (_hk : Hid (k < 256 ^ 8)) : Calls Tryd.prog 8 #[.int .u64 (k : Int), v] w fun e w' => e = .returned (.bool true) ∧ Below w.heap.size w w' := by
  obtain ⟨i0, hi0, hz0, hz1, hz2⟩ := info_parts Tryd.info9
  have HT := hide hT
  have HR := hide hr
  obtain ⟨a, cap, hv, -⟩ := hr
  subst hv
  obtain ⟨z, hz⟩ : ∃ z : Nat, (k : Int) % 30 = (z : Int) := ⟨k % 30, by omega⟩
  obtain ⟨n, hn⟩ : ∃ n, n = 1 + z := ⟨_, rfl⟩
  have hn1 : (1 : Int) + (z : Int) = (n : Int) := by omega
  have hn2 : 0 < n := by omega
  have hn3 : n ≤ 30 := by omega
  clear hT hn
  go_enter Tryd.func8, Tryd.ntmps8
  go_wp2_with fail
  refine (OneC.new w n hn2 (by omega)).mono ?_
  rintro e w1 ⟨D, rfl, c1, o1⟩
  have HO := hide (log1_new HT.out o1)
  clear o1
  go_wp2_with fail
  refine HO.out.mono ?_
  rintro e w2 ⟨L, v2, c2, rfl, l2, -⟩
  have L2 := hide l2
  clear l2 HO
  by_cases hl : 40 < ls.length
  · have q1 : (40 : Int) < (ls.length : Int) := by omega
    go_wp2_with fail
    refine (lives_any w2 (HT.out.kept L2.out.below)).mono ?_
    rintro e w3 ⟨rfl, b3⟩
    have HB : Hid (Below w.heap.size w w3) := L2.out.below.trans (b3.mono L2.out.below.size)
    clear b3
    go_wp2_with fail
    go_ret
    exact ⟨rfl, HB.out⟩
  · have q1 : ¬ (40 : Int) < (ls.length : Int) := by omega
    go_wp2_with fail
    clear hz hn1
    go_loopg [10, 11, 48] (ls.length + 1) (fun g x y t wr => ∃ i R : Nat, ∃ ts c, y = .int .i64 (R : Int) ∧ t = .int .i64 (i : Int) ∧ i ≤ ls.length ∧ g + i = ls.length + 1 ∧ Hid (32 * R + (pads ts).length = 32 * n) ∧ Hid (Log1 w wr D n L ts 0 c) ∧ Hid (MineT wr c x ts))
    case atStart => exact ⟨0, n, [], c2, rfl, rfl, Nat.zero_le _, rfl, (show _ = _ by simp [pads]), L2, mineT_nil _ _⟩
    case round =>
      clear L2
      obtain ⟨i, R, ts, c, rfl, rfl, hi, hg, HRm, LR, MR⟩ := hrel
      by_cases hlt : i < ls.length
      · have q2 : (i : Int) < (ls.length : Int) := by omega
        obtain ⟨b, off, haa, -, hc⟩ : ∃ b off, a = some ⟨b, off, none⟩ ∧ True ∧ ∀ j (hj : j < ls.length), wr.cell? ⟨b, off + j, none⟩ = some (.string ⟨ls[j].toArray⟩) := by
          obtain ⟨a', cap', e', h4⟩ := HR.out.kept LR.out.below
          obtain ⟨b, off, e, _, hc⟩ := h4 (by omega)
          simp only [Value.slice.injEq] at e'
          exact ⟨b, off, e'.1.trans e, trivial, hc⟩
        subst haa
        have hci := hc i hlt
        clear hc
        generalize ls[i] = t at hci
        by_cases h200 : 200 < t.length
        · have q3 : (200 : Int) < (t.length : Int) := by omega
          go_wp2_with fail
          refine (lives_any wr (HT.out.kept LR.out.below)).mono ?_
          rintro e w3 ⟨rfl, b3⟩
          have HB : Hid (Below w.heap.size w w3) := LR.out.below.trans (b3.mono LR.out.below.size)
          clear b3
          go_wp2_with fail
          go_ret
          exact ⟨rfl, HB.out⟩
        · have q3 : ¬ (200 : Int) < (t.length : Int) := by omega
          have q4 : ¬ (247 : Int) < (t.length : Int) := by omega
          have hps := pad_short (t := t) (by omega)
          obtain ⟨N, hN⟩ : ∃ N, N = (t.length + 36) / 32 := ⟨_, rfl⟩
          rw [← hN] at hps
          have e1 : ((t.length : Int) + 5 + 31) / 32 = (N : Int) := by omega
          have e2 : ((t.length : Int) + 5 + 31).tdiv 32 = (N : Int) := by rw [Int.tdiv_eq_ediv_of_nonneg (by omega)]; exact e1
          have hNb : N ≤ 20 := by omega
          obtain ⟨va, vc, hvv⟩ := MR.out.form
          subst hvv
          have htc := LR.out.le
          have hRb : R ≤ 30 := by have := HRm.out; omega
          have HPS := hide hps
          clear hN hps
          by_cases hfit : N ≤ R
          · have q5 : (N : Int) ≤ (R : Int) := by omega
            have hf : (pads ts).length + (pad t).length ≤ 32 * n := by have := HRm.out; have := HPS.out; omega
            have HF := hide hf
            clear hf
            go_wp2_with (first
              | (refine wpList_str_bytes rfl _ rfl t (by simp only [maxLen]; omega) rfl ?_; intro ad cp w3 hR3 hb3; have L3 := hide (LR.out.kept hb3); have M3 := hide (MR.out.kept hb3); have R3 := hide hR3; clear hR3 hb3))
            refine (L3.out.append HT.out _ t R3.out (by omega) HF.out).mono ?_
            rintro e w4 ⟨rfl, c4, l4, s4⟩
            have L4 := hide l4
            have M4 := hide (M3.out.stepL L3.out.logB s4)
            clear l4 s4 L3 M3 R3 LR MR
            have HOW := hide M4.out.own
            go_wp2_with (first
              | (at_builtin; refine wpList_append_own_at _ rfl _ _ 56 rfl 0 9 i0 (.string ByteArray.empty) 1 16 Tryd.underlying56 hi0 hz0 hz1 hz2 rfl (by decide) (.slice va ts.length vc) ts.length (Tx ts) rfl (HOW.out.alloc _) ⟨w4.heap.size, 0, none⟩ 1 1 [.string ⟨t.toArray⟩] rfl rfl (cell_one_new _ _ _) (by simp [Value.oneCell']) (by simp only [maxLen]; omega) (by omega) (by simp) ?_; intro v5 wa ho5 hg5 hn5 hl5; clear hn5; have HO5 := hide ho5; have HG5 := hide hg5; have HL5 := hide hl5; clear ho5 hg5 hl5; obtain ⟨g5, cap5, hv5⟩ := ownsRow_succ HO5.out; subst hv5))
            have hch : Chg (fun b => (Value.slice va ts.length vc).ownBlock = some b) w4 wa := (Chg.alloc (fun b => (Value.slice va ts.length vc).ownBlock = some b) w4 _).trans (Chg.of_grown HG5.out (fun k e _ => e))
            have L6 := hide (L4.out.grow hch (fun b hb _ => M4.out.col b hb) (fun e => M4.out.apart L4.out.logB e rfl))
            have M6 := hide (M4.out.grown (t := t) HO5.out (HL5.out.imp id (fun e => ⟨_, e, by simp⟩)))
            clear hch HO5 HG5 HL5 HOW L4 M4
            obtain ⟨R2, hR2⟩ : ∃ R2, R2 = R - N := ⟨_, rfl⟩
            have e3 : (R : Int) - (N : Int) = (R2 : Int) := by omega
            have HR2 : Hid (32 * R2 + (pads (ts ++ [t])).length = 32 * n) := (show _ = _ by rw [pads_snoc]; have := HRm.out; have := HPS.out; omega)
            have e4 : (((pads (ts ++ [t])).length : Nat) : Int) = 32 * ((n : Int) - (R2 : Int)) := by have := HR2.out; omega
            have e5 : (((ts ++ [t]).length : Nat) : Int) = (ts.length : Int) + 1 := by simp
            have hR2b : R2 ≤ n := by have := HR2.out; omega
            have HC6 := hide L6.out.count
            rw [e5] at HC6
            have HE6 := hide L6.out.end_
            rw [e4] at HE6
            clear hR2 e4 e5
            go_wp2_with fail
            refine HC6.out.mono ?_
            rintro e w7 ⟨rfl, hw⟩; subst w7
            go_wp2_with fail
            refine HE6.out.mono ?_
            rintro e w7 ⟨rfl, hw⟩; subst w7
            go_wp2_with fail
            go_roundg (gk - 1)
            case measure => omega
            case rel => exact ⟨i + 1, R2, ts ++ [t], _, rfl, by go_num, by omega, by omega, HR2, L6, M6⟩
          · have q5 : ¬ (N : Int) ≤ (R : Int) := by omega
            have hf : ¬ (pads ts).length + (pad t).length ≤ 32 * n := by have := HRm.out; have := HPS.out; omega
            have HF := hide hf
            clear hf
            go_wp2_with (first
              | (refine wpList_str_bytes rfl _ rfl t (by simp only [maxLen]; omega) rfl ?_; intro ad cp w3 hR3 hb3; have L3 := hide (LR.out.kept hb3); have M3 := hide (MR.out.kept hb3); have R3 := hide hR3; clear hR3 hb3))
            refine (L3.out.full HT.out _ t R3.out (by omega) HF.out).mono ?_
            rintro e w4 ⟨rfl, c4, l4, s4⟩
            have L4 := hide l4
            have M4 := hide (M3.out.stepL L3.out.logB s4)
            clear l4 s4 L3 M3 R3 LR MR
            have e4 : (((pads ts).length : Nat) : Int) = 32 * ((n : Int) - (R : Int)) := by have := HRm.out; omega
            have hR2b : R ≤ n := by have := HRm.out; omega
            have HC6 := hide L4.out.count
            have HE6 := hide L4.out.end_
            rw [e4] at HE6
            clear e4
            go_wp2_with fail
            refine HC6.out.mono ?_
            rintro e w7 ⟨rfl, hw⟩; subst w7
            go_wp2_with fail
            refine HE6.out.mono ?_
            rintro e w7 ⟨rfl, hw⟩; subst w7
            go_wp2_with fail
            go_roundg (gk - 1)
            case measure => omega
            case rel => exact ⟨i + 1, R, ts, c4, rfl, by go_num, by omega, by omega, HRm, L4, M4⟩
      · obtain rfl : i = ls.length := by omega
        have q2 : ¬ (ls.length : Int) < (ls.length : Int) := by omega
        have htc := LR.out.le
        have HA := hide (LR.out.again HT.out)
        obtain ⟨va, vc, hvv⟩ := MR.out.form
        subst hvv
        go_wp2_with fail
        refine HA.out.mono ?_
        rintro e w5 ⟨L5, v5, c5, rfl, l5, r5, s5⟩
        have R5 := hide r5.rd
        have M5 := hide (MR.out.step s5).rd
        obtain ⟨xa, xc, hv5, -⟩ := r5
        subst hv5
        have BL5 := hide l5.below
        clear l5 HA LR s5 MR
        go_wp2_with fail
        go_loopg [126] (ts.length + 1) (fun g x wr => ∃ j : Nat, x = .int .i64 (j : Int) ∧ g + j = ts.length + 1 ∧ j ≤ ts.length ∧ Hid (Below w5.heap.size w5 wr))
        case atStart => exact ⟨0, rfl, rfl, Nat.zero_le _, Below.refl _ _⟩
        case round =>
          obtain ⟨j, rfl, hgj, hj, BJ⟩ := hrel
          by_cases hjl : j < ts.length
          · have q4 : (j : Int) < (ts.length : Int) := by omega
            have hd : Below w5.heap.size w5 wr.drew := BJ.out.trans ⟨rfl, rfl, rfl, Nat.le_refl _, fun _ _ => rfl⟩
            obtain ⟨b, off, haa, hc⟩ : ∃ b off, va = some ⟨b, off, none⟩ ∧ wr.drew.cell? ⟨b, off + j, none⟩ = some (.string ⟨ts[j].toArray⟩) := by
              obtain ⟨a', cap', e', h4⟩ := M5.out.kept hd
              obtain ⟨b, off, e, _, hc⟩ := h4 (by omega)
              simp only [Value.slice.injEq] at e'
              exact ⟨b, off, e'.1.trans e, hc j hjl⟩
            obtain ⟨b2, off2, haa2, hc2⟩ : ∃ b off, xa = some ⟨b, off, none⟩ ∧ ∃ u, wr.drew.cell? ⟨b, off + j, none⟩ = some u ∧ Rd wr.drew u ts[j] := by
              obtain ⟨a', cap', e', h4⟩ := R5.out.kept hd
              obtain ⟨b, off, e, _, hc⟩ := h4 (by omega)
              simp only [Value.slice.injEq] at e'
              exact ⟨b, off, e'.1.trans e, hc j hjl⟩
            obtain ⟨u, hcu, hru⟩ := hc2
            have kx := hru.conv (P := Tryd.prog) 33 9 Tryd.underlying33 Tryd.underlying5 Tryd.underlying9
            obtain ⟨ya, yc, hxe⟩ := hru.slice
            subst hxe
            have HD : Hid (Below w5.heap.size w5 wr.drew) := hd
            clear hd hru
            subst haa2
            generalize (⟨ts[j].toArray⟩ : ByteArray) = sb at hc kx
            subst haa
            go_upto_region 32 with fail
            refine wp_region_still_tail 9 Tryd.mixed (by kernel_rfl) ?_
            simp only [List.take_succ_cons, List.take_zero, List.drop_succ_cons, List.drop_zero]
            iterate 9 still_step
            refine wpStill_nil ?_
            clear hc hcu kx
            go_wp2_with fail
            go_roundg (gk - 1)
            case measure => omega
            case rel => exact ⟨j + 1, by go_num, by omega, by omega, HD⟩
          · obtain rfl : j = ts.length := by omega
            have q4 : ¬ (ts.length : Int) < (ts.length : Int) := by omega
            have hlw : Below w.heap.size w wr := BL5.out.trans (BJ.out.mono BL5.out.size)
            have HLW := hide hlw
            clear hlw
            go_wp2_with fail
            refine (lives_any wr (HT.out.kept HLW.out)).mono ?_
            rintro e w6 ⟨rfl, b6⟩
            have HB : Hid (Below w.heap.size w w6) := HLW.out.trans (b6.mono HLW.out.size)
            clear b6
            go_wp2_with fail
            go_ret
            exact ⟨rfl, HB.out⟩
#print axioms walFull_any
end Go.Proofs.YtgdhjgfoalianaaDoor
