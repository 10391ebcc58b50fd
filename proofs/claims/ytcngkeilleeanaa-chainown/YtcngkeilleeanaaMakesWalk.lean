/-
  indenturelaw07.ChainMakes: the walk: the call returns true and makes new memory alone.
-/
import Derived.Test.YtcngkeilleeanaaAsksWalk
namespace Go.Proofs.Ytcngkeilleeanaa
open Go.RowKit

theorem putP_le (L : List Ver) (v : Ver) : (putP L v).length ≤ L.length + 1 := by
  unfold putP
  split <;> simp
theorem cutP_le (L : List Ver) (n : Int) : (cutP L n).length ≤ L.length := by
  unfold cutP
  split
  · exact upto_le n L
  · simp
theorem trimP_le (L : List Ver) (n : Int) : (trimP L n).length ≤ L.length := by
  cases h : gd 0 L with
  | true => rw [trimP_drop h, List.length_drop]; omega
  | false => unfold trimP; rw [h]; simp
set_option maxHeartbeats 2000000 in
set_option maxRecDepth 100000 in
theorem chainMakes_any {w : World} {v : Value} {L : List Ver} (h : RdV w v L) (x : Ver) (z : Int) : Calls Try.prog 4 #[v, .agg (VC x).toArray, .int .i64 z] w fun e w' => e = .returned (.bool true) ∧ Below w.heap.size w w' := by
  have HL := hide h
  obtain ⟨a, cp, rfl⟩ := h.slice
  have hn : L.length ≤ 9223372036854775807 := Nat.le_trans h.cap h.max
  clear h
  have hz := Zver
  obtain ⟨n, HN⟩ : ∃ n, Hid (L.length = n) := ⟨_, rfl⟩
  rw [HN.out] at HL hn ⊢
  have L0 := hide ((Below.refl w.heap.size w).alloc (Nat.le_refl _) (.cells (VC x).toArray 28 (0, 0)))
  have BV0 := hide (Blk.new w 28 (VC x))
  by_cases h300 : 300 < n
  · have q1 : (300 : Int) < (n : Int) := by omega
    go_enter Try.func4, Try.ntmps4
    go_wp2_with fail
    refine (lives_any _).mono ?_
    rintro e w1 ⟨rfl, hb⟩
    have L1 : Hid (Below w.heap.size w w1) := L0.out.trans (hb.mono L0.out.size)
    clear hb
    go_wp2_with fail
    go_ret
    exact ⟨rfl, L1.out⟩
  · have q1 : decide ((300 : Int) < (n : Int)) = false := by simp; omega
    have hl : L.length ≤ 300 := by rw [HN.out]; omega
    have HH := hide hl
    clear hl
    go_enter Try.func4, Try.ntmps4
    go_upto_region 3 with fail
    obtain ⟨EV, HEV⟩ : ∃ E, Hid (w.heap.size = E) := ⟨_, rfl⟩
    obtain ⟨w0, hw0⟩ : ∃ y, y = w.alloc (.cells (VC x).toArray 28 (0, 0)) := ⟨_, rfl⟩
    rw [← hw0] at L0 BV0 ⊢
    rw [HEV.out] at BV0 ⊢
    clear hw0
    go_wp2_with fail
    refine (plain_any (HL.out.kept L0.out) (by have := HH.out; omega)).mono ?_
    rintro e w1 ⟨p, rfl, ho, hb⟩
    have L1 : Hid (Below w.heap.size w w1) := L0.out.trans (hb.mono L0.out.size)
    have Dw1 : Hid (Below w0.heap.size w0 w1) := hb
    have RP1 := hide ho.rd
    clear ho
    clear hb
    have r1 := (BV0.out.kept Dw1.out).range0
    go_wp2_with (first
      | (refine wpList_load_mid rfl 28 _ rfl EV 0 rfl (VC x) _ r1 Try.underlying28 rfl Try.size28 ?_)
      | fail)
    refine (put_any (HL.out.kept L1.out) (by have := HH.out; omega) x).mono ?_
    rintro e w2 ⟨px, rfl, ho, hb⟩
    have L2 : Hid (Below w.heap.size w w2) := L1.out.trans (hb.mono L1.out.size)
    have Dw2 : Hid (Below w1.heap.size w1 w2) := hb
    have RX2 := hide ho.rd
    clear ho
    clear hb
    have r2 := ((BV0.out.kept Dw1.out).kept Dw2.out).range0
    clear r1
    go_wp2_with (first
      | (refine wpList_load_mid rfl 28 _ rfl EV 0 rfl (VC x) _ r2 Try.underlying28 rfl Try.size28 ?_)
      | fail)
    refine (kput_any (RP1.out.kept Dw2.out) (by have := HH.out; omega) x).mono ?_
    rintro e w3 ⟨py, rfl, ho, hb⟩
    have L3 : Hid (Below w.heap.size w w3) := L2.out.trans (hb.mono L2.out.size)
    have Dw3 : Hid (Below w2.heap.size w2 w3) := hb
    have RY3 := hide ho
    clear ho
    clear hb
    have RP3 := hide ((RP1.out.kept Dw2.out).kept Dw3.out)
    have HPl := hide (putP_le L x)
    generalize putOk L x = ok
    go_wp2_with fail
    refine (plain_any (RX2.out.kept Dw3.out) (by have := HH.out; have := HPl.out; omega)).mono ?_
    rintro e w4 ⟨qx, rfl, ho, hb⟩
    have L4 : Hid (Below w.heap.size w w4) := L3.out.trans (hb.mono L3.out.size)
    have Dw4 : Hid (Below w3.heap.size w3 w4) := hb
    have RX4 := hide ho.rd
    clear ho
    clear hb
    go_wp2_with fail
    refine (same_any RX4.out (RY3.out.kept Dw4.out)).mono ?_
    rintro e w5 ⟨rfl, hb⟩
    have L5 : Hid (Below w.heap.size w w5) := L4.out.trans (hb.mono L4.out.size)
    have Dw5 : Hid (Below w4.heap.size w4 w5) := hb
    clear hb
    have e5 : decide (putP L x = putP L x) = true := by simp
    rw [e5]
    clear e5
    have RP5 := hide ((RP3.out.kept Dw4.out).kept Dw5.out)
    go_wp2_with fail
    refine (trim_any (HL.out.kept L5.out) (by have := HH.out; omega) z).mono ?_
    rintro e w6 ⟨tx, rfl, ho, hb⟩
    have L6 : Hid (Below w.heap.size w w6) := L5.out.trans (hb.mono L5.out.size)
    have Dw6 : Hid (Below w5.heap.size w5 w6) := hb
    have RT6 := hide ho.rd
    clear ho
    clear hb
    go_wp2_with fail
    refine (plain_any RT6.out (by have := HH.out; have := trimP_le L z; omega)).mono ?_
    rintro e w7 ⟨tq, rfl, ho, hb⟩
    have L7 : Hid (Below w.heap.size w w7) := L6.out.trans (hb.mono L6.out.size)
    have Dw7 : Hid (Below w6.heap.size w6 w7) := hb
    have RT7 := hide ho.rd
    clear ho
    clear hb
    go_wp2_with fail
    refine (ktrim_any ((RP5.out.kept Dw6.out).kept Dw7.out) (by have := HH.out; omega) z).mono ?_
    rintro e w8 ⟨ty, rfl, ho, hb⟩
    have L8 : Hid (Below w.heap.size w w8) := L7.out.trans (hb.mono L7.out.size)
    have Dw8 : Hid (Below w7.heap.size w7 w8) := hb
    have RT8 := hide ho.rd
    clear ho
    clear hb
    go_wp2_with fail
    refine (same_any (RT7.out.kept Dw8.out) RT8.out).mono ?_
    rintro e w9 ⟨rfl, hb⟩
    have L9 : Hid (Below w.heap.size w w9) := L8.out.trans (hb.mono L8.out.size)
    have Dw9 : Hid (Below w8.heap.size w8 w9) := hb
    clear hb
    have e5 : decide (trimP L z = trimP L z) = true := by simp
    rw [e5]
    clear e5
    have RP9 := hide ((((RP5.out.kept Dw6.out).kept Dw7.out).kept Dw8.out).kept Dw9.out)
    go_wp2_with fail
    refine (cut_any (HL.out.kept L9.out) (by have := HH.out; omega) z).mono ?_
    rintro e wa ⟨cx, rfl, ho, hb⟩
    have La : Hid (Below w.heap.size w wa) := L9.out.trans (hb.mono L9.out.size)
    have Dwa : Hid (Below w9.heap.size w9 wa) := hb
    have RTa := hide ho.rd
    clear ho
    clear hb
    go_wp2_with fail
    refine (plain_any RTa.out (by have := HH.out; have := cutP_le L z; omega)).mono ?_
    rintro e wb ⟨cq, rfl, ho, hb⟩
    have Lb : Hid (Below w.heap.size w wb) := La.out.trans (hb.mono La.out.size)
    have Dwb : Hid (Below wa.heap.size wa wb) := hb
    have RTb := hide ho.rd
    clear ho
    clear hb
    go_wp2_with fail
    refine (kcut_any ((RP9.out.kept Dwa.out).kept Dwb.out) (by have := HH.out; omega) z).mono ?_
    rintro e wc ⟨cy, rfl, ho, hb⟩
    have Lc : Hid (Below w.heap.size w wc) := Lb.out.trans (hb.mono Lb.out.size)
    have Dwc : Hid (Below wb.heap.size wb wc) := hb
    have RTc := hide ho.rd
    clear ho
    clear hb
    go_wp2_with fail
    refine (same_any (RTb.out.kept Dwc.out) RTc.out).mono ?_
    rintro e wd ⟨rfl, hb⟩
    have Ld : Hid (Below w.heap.size w wd) := Lc.out.trans (hb.mono Lc.out.size)
    have Dwd : Hid (Below wc.heap.size wc wd) := hb
    clear hb
    have e5 : decide (cutP L z = cutP L z) = true := by simp
    rw [e5]
    clear e5
    go_wp2_with fail
    refine (lives_any wd).mono ?_
    rintro e we ⟨rfl, hb⟩
    have Le : Hid (Below w.heap.size w we) := Ld.out.trans (hb.mono Ld.out.size)
    have Dwe : Hid (Below wd.heap.size wd we) := hb
    clear hb
    go_wp2_with fail
    go_ret
    exact ⟨rfl, Le.out⟩
#print axioms chainMakes_any
end Go.Proofs.Ytcngkeilleeanaa
