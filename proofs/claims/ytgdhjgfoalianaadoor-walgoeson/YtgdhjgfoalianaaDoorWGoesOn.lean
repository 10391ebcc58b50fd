/-
  indenturelaw06.WalGoesOn: the walk: the call returns true and makes new memory alone.
-/
import Derived.Test.YtgdhjgfoalianaaDoorWStr
import Derived.Test.YtgdhjgfoalianaaDoorQSame
namespace Go.Proofs.YtgdhjgfoalianaaDoor
open Go.RowKit

theorem pads_snoc (ts : List (List UInt8)) (t : List UInt8) : (pads (ts ++ [t])).length = (pads ts).length + (pad t).length := by rw [pads_append, pads_one, List.length_append]

set_option maxRecDepth 100000 in
set_option maxHeartbeats 4000000 in
theorem walGoesOn_any (v : Value) (ls : List (List UInt8)) (k : Nat) (w : World) (hT : Tab w) (hr : RdT w v ls) (_hk : Hid (k < 256 ^ 8)) : Calls Tryd.prog 6 #[v, .int .u64 (k : Int)] w fun e w' => e = .returned (.bool true) ∧ Below w.heap.size w w' := by
  have HT := hide hT
  have HR := hide hr
  obtain ⟨a, cap, hv, -⟩ := hr
  subst hv
  obtain ⟨z, hz⟩ : ∃ z : Nat, (k : Int) % 4 = (z : Int) := ⟨k % 4, by omega⟩
  clear hT
  go_enter Tryd.func6, Tryd.ntmps6
  go_wp2_with fail
  refine (OneC.new w 200 (by decide) (by decide)).mono ?_
  rintro e w1 ⟨D, rfl, c1, o1⟩
  have HO := hide (log1_new HT.out o1)
  clear o1
  go_wp2_with fail
  refine HO.out.mono ?_
  rintro e w2 ⟨L, v2, c2, rfl, l2, -⟩
  have L2 := hide l2
  clear l2 HO
  by_cases hl : 30 < ls.length
  · have q1 : (30 : Int) < (ls.length : Int) := by omega
    go_wp2_with fail
    refine (lives_any w2 (HT.out.kept L2.out.below)).mono ?_
    rintro e w3 ⟨rfl, b3⟩
    have HB : Hid (Below w.heap.size w w3) := L2.out.below.trans (b3.mono L2.out.below.size)
    clear b3
    go_wp2_with fail
    go_ret
    exact ⟨rfl, HB.out⟩
  · have q1 : ¬ (30 : Int) < (ls.length : Int) := by omega
    go_wp2_with fail
    have HZ := hide hz
    go_loopg [6, 9, 38] (ls.length + 1) (fun g x y t wr => ∃ i L Y : Nat, ∃ c, x = .pointer (some ⟨L, 0, none⟩) ∧ y = .int .i64 ((pads (ls.take i)).length : Int) ∧ t = .int .i64 (i : Int) ∧ i ≤ ls.length ∧ g + i = ls.length + 1 ∧ (pads (ls.take i)).length ≤ 144 * i ∧ Hid (Log1 w wr D 200 L (ls.take i) Y c))
    case atStart => exact ⟨0, L, 0, c2, rfl, rfl, rfl, Nat.zero_le _, rfl, by simp [pads], L2⟩
    case round =>
      clear L2
      obtain ⟨i, L, Y, c, rfl, rfl, rfl, hi, hg, hp, LR⟩ := hrel
      by_cases hlt : i < ls.length
      · have q2 : (i : Int) < (ls.length : Int) := by omega
        obtain ⟨b, off, haa, -, hc⟩ : ∃ b off, a = some ⟨b, off, none⟩ ∧ True ∧ ∀ j (hj : j < ls.length), wr.cell? ⟨b, off + j, none⟩ = some (.string ⟨ls[j].toArray⟩) := by
          obtain ⟨a', cap', e', h4⟩ := HR.out.kept LR.out.below
          obtain ⟨b, off, e, _, hc⟩ := h4 (by omega)
          simp only [Value.slice.injEq] at e'
          exact ⟨b, off, e'.1.trans e, trivial, hc⟩
        subst haa
        have hci := hc i hlt
        clear hc
        obtain ⟨t, ht⟩ : ∃ t, t = ls[i] := ⟨_, rfl⟩
        rw [← ht] at hci
        have htk : ls.take (i + 1) = ls.take i ++ [t] := by rw [List.take_succ_eq_append_getElem hlt, ht]
        have HTI := hide ht
        have HTK := hide htk
        clear ht htk
        by_cases h100 : 100 < t.length
        · have q3 : (100 : Int) < (t.length : Int) := by omega
          go_wp2_with fail
          refine (lives_any wr (HT.out.kept LR.out.below)).mono ?_
          rintro e w3 ⟨rfl, b3⟩
          have HB : Hid (Below w.heap.size w w3) := LR.out.below.trans (b3.mono LR.out.below.size)
          clear b3
          go_wp2_with fail
          go_ret
          exact ⟨rfl, HB.out⟩
        · have q3 : ¬ (100 : Int) < (t.length : Int) := by omega
          have hpl := pad_le t
          have hpp := pad_pos t
          obtain ⟨P1, hP1⟩ : ∃ P1, P1 = (pads (ls.take i)).length := ⟨_, rfl⟩
          obtain ⟨P2, hP2⟩ : ∃ P2, P2 = (pads (ls.take i ++ [t])).length := ⟨_, rfl⟩
          have hP3 : P2 = P1 + (pad t).length := by rw [hP2, hP1, pads_snoc]
          have hP4 : P2 % 32 = 0 := by rw [hP2]; exact pads_mod _
          have q4 : ¬ (P2 : Int) ≤ (P1 : Int) := by omega
          have q5 : (P2 : Int) % 32 = 0 := by omega
          have q6 : (P2 : Int).tmod 32 = 0 := by rw [Int.tmod_eq_emod_of_nonneg (by omega)]; exact q5
          have hP5 : P2 ≤ 144 * (i + 1) := by omega
          have hti : (ls.take i).length = i := by simp; omega
          have hfit : (pads (ls.take i)).length + (pad t).length ≤ 32 * 200 := by omega
          have HP1 := hide hP1
          have HP2 := hide hP2
          have HFIT := hide hfit
          have HTL := hide hti
          have HP5 := hide hP5
          have hP2b : P2 ≤ 10000 := by omega
          rw [← hP1]
          clear hP1 hP2 hP3 hfit hti hpp hpl hp hP4 hP5
          obtain ⟨r, hrr⟩ : ∃ r : Nat, (i : Int) % 4 = (r : Int) := ⟨i % 4, by omega⟩
          have hrr2 : (i : Int).tmod 4 = (r : Int) := by rw [Int.tmod_eq_emod_of_nonneg (by omega)]; exact hrr
          have hr4 : r ≤ 3 := by omega
          go_wp2_with (first
            | (refine wpList_str_bytes rfl _ rfl t (by simp only [maxLen]; omega) rfl ?_; intro ad cp w3 hR3 hb3; have L3 := hide (LR.out.kept hb3); have R3 := hide hR3; clear hR3 hb3))
          refine (L3.out.append HT.out _ t R3.out (by omega) HFIT.out).mono ?_
          rintro e w4 ⟨rfl, c4, l4, -⟩
          have L4 := hide l4
          have HC4 := hide l4.end_
          rw [← HP2.out] at HC4
          clear l4 L3 R3 LR
          go_wp2_with fail
          refine HC4.out.mono ?_
          rintro e w5 ⟨rfl, hw⟩; subst w5
          go_wp2_with fail
          refine HC4.out.mono ?_
          rintro e w5 ⟨rfl, hw⟩; subst w5
          go_wp2_with fail
          refine HC4.out.mono ?_
          rintro e w5 ⟨rfl, hw⟩; subst w5
          by_cases hzr : z = r
          · have q7 : (z : Int) = (r : Int) := by omega
            have q8 : ((z : Int) == (r : Int)) = true := by simp [hzr]
            subst hzr
            have HA := hide (L4.out.again HT.out)
            go_wp2_with fail
            refine HA.out.mono ?_
            rintro e w5 ⟨L5, v5, c5, rfl, l5, r5, -⟩
            obtain ⟨va, vc, hv5, -⟩ := r5
            rw [show (ls.take i ++ [t]).length = i + 1 by rw [List.length_append, HTL.out]; rfl] at hv5
            subst hv5
            have L5' := hide l5
            have HE5 := hide l5.end_
            rw [← HP2.out] at HE5
            have hc5 := l5.count
            rw [show (ls.take i ++ [t]).length = i + 1 by rw [List.length_append, HTL.out]; rfl] at hc5
            have HC5 := hide hc5
            clear l5 hc5 HA HC4 L4
            go_wp2_with fail
            refine HE5.out.mono ?_
            rintro e w6 ⟨rfl, hw⟩; subst w6
            go_wp2_with fail
            refine HC5.out.mono ?_
            rintro e w6 ⟨rfl, hw⟩; subst w6
            go_wp2_with fail
            go_roundg (gk - 1)
            case measure => omega
            case rel => exact ⟨i + 1, L5, _, c5, rfl, by rw [HTK.out, ← HP2.out], by go_num, by omega, by omega, by rw [HTK.out, ← HP2.out]; exact HP5.out, (show Log1 _ _ _ _ _ _ _ _ by rw [HTK.out]; exact L5'.out)⟩
          · have q7 : ¬ (z : Int) = (r : Int) := by omega
            go_wp2_with fail
            go_roundg (gk - 1)
            case measure => omega
            case rel => exact ⟨i + 1, L, _, c4, rfl, by rw [HTK.out, ← HP2.out], by go_num, by omega, by omega, by rw [HTK.out, ← HP2.out]; exact HP5.out, (show Log1 _ _ _ _ _ _ _ _ by rw [HTK.out]; exact L4.out)⟩
      · obtain rfl : i = ls.length := by omega
        have q2 : ¬ (ls.length : Int) < (ls.length : Int) := by omega
        have htk : ls.take ls.length = ls := List.take_of_length_le (Nat.le_refl _)
        rw [htk] at LR
        have HTK := hide htk
        clear htk hz
        have HA := hide (LR.out.again HT.out)
        go_wp2_with fail
        refine HA.out.mono ?_
        rintro e w5 ⟨L5, v5, c5, rfl, l5, r5, -⟩
        have R5 := hide r5.rd
        obtain ⟨va, vc, hv5, -⟩ := r5
        subst hv5
        have L5' := hide l5
        have BL5 := hide l5.below
        clear l5 HA LR
        go_wp2_with fail
        go_loopg [118] (ls.length + 1) (fun g x wr => ∃ j : Nat, x = .int .i64 (j : Int) ∧ g + j = ls.length + 1 ∧ j ≤ ls.length ∧ Hid (Below w5.heap.size w5 wr))
        case atStart => exact ⟨0, rfl, rfl, Nat.zero_le _, Below.refl _ _⟩
        case round =>
          obtain ⟨j, rfl, hgj, hj, BJ⟩ := hrel
          by_cases hjl : j < ls.length
          · have q4 : (j : Int) < (ls.length : Int) := by omega
            have hd : Below w5.heap.size w5 wr.drew := BJ.out.trans ⟨rfl, rfl, rfl, Nat.le_refl _, fun _ _ => rfl⟩
            have hd0 : Below w.heap.size w wr.drew := BL5.out.trans (hd.mono BL5.out.size)
            obtain ⟨b, off, haa, hc⟩ : ∃ b off, a = some ⟨b, off, none⟩ ∧ wr.drew.cell? ⟨b, off + j, none⟩ = some (.string ⟨ls[j].toArray⟩) := by
              obtain ⟨a', cap', e', h4⟩ := HR.out.kept hd0
              obtain ⟨b, off, e, _, hc⟩ := h4 (by omega)
              simp only [Value.slice.injEq] at e'
              exact ⟨b, off, e'.1.trans e, hc j hjl⟩
            obtain ⟨b2, off2, haa2, hc2⟩ : ∃ b off, va = some ⟨b, off, none⟩ ∧ ∃ u, wr.drew.cell? ⟨b, off + j, none⟩ = some u ∧ Rd wr.drew u ls[j] := by
              obtain ⟨a', cap', e', h4⟩ := R5.out.kept hd
              obtain ⟨b, off, e, _, hc⟩ := h4 (by omega)
              simp only [Value.slice.injEq] at e'
              exact ⟨b, off, e'.1.trans e, hc j hjl⟩
            obtain ⟨u, hcu, hru⟩ := hc2
            have kx := hru.conv (P := Tryd.prog) 33 9 Tryd.underlying33 Tryd.underlying5 Tryd.underlying9
            obtain ⟨xa, xc, hxe⟩ := hru.slice
            subst hxe
            have HD : Hid (Below w5.heap.size w5 wr.drew) := hd
            clear hd hd0 hru
            subst haa2
            have HAA := hide haa
            generalize (⟨ls[j].toArray⟩ : ByteArray) = sb at hc kx
            subst haa
            go_upto_region 26 with fail
            refine wp_region_still_tail 9 Tryd.mixed (by kernel_rfl) ?_
            simp only [List.take_succ_cons, List.take_zero, List.drop_succ_cons, List.drop_zero]
            iterate 9 still_step
            refine wpStill_nil ?_
            clear hc hcu kx
            go_wp2_with fail
            go_roundg (gk - 1)
            case measure => omega
            case rel => exact ⟨j + 1, by go_num, by omega, by omega, HD⟩
          · obtain rfl : j = ls.length := by omega
            have hlw : Below w.heap.size w wr := BL5.out.trans (BJ.out.mono BL5.out.size)
            have HLW := hide hlw
            clear hlw
            go_wp2_with fail
            refine (lives_any wr (HT.out.kept HLW.out)).mono ?_
            rintro e w6 ⟨rfl, b6⟩
            have HB : Hid (Below w.heap.size w w6) := HLW.out.trans (b6.mono HLW.out.size)
            clear b6
            go_wp2_with fail
            go_ret
            exact ⟨rfl, HB.out⟩
#print axioms walGoesOn_any
end Go.Proofs.YtgdhjgfoalianaaDoor
