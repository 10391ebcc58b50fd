/-
  indenturelaw15.SessionNone: what the call does.
-/
import Derived.Test.YtcicekggeampcaaSeX
namespace Go.Proofs.Ytcicekggeampcaa
open Go.RowKit
theorem build_act1 (x : Ac) (w : World) : (Instr.buildSlice 22 1 #[(0, .agg (AC x).toArray)]).run Try.prog w = .ok (.slice (some ⟨w.heap.size, 0, none⟩) 1 1) (w.alloc (.cells (AC x).toArray 31 (0, 0))) := by kernel_rfl
theorem build_two (Z : Nat) : ∀ W : World, (Instr.build 60 #[(0, .pointer none), (1, PT Z)]).run Try.prog W = .ok (.agg #[.pointer none, PT Z]) W := fun W => by kernel_rfl
theorem index_0 (Z : Nat) : ∀ W : World, (Instr.index 60 (.agg #[.pointer none, PT Z]) (.int .i64 0)).run Try.prog W = .ok (.pointer none) W := fun W => by kernel_rfl
theorem index_1 (Z : Nat) : ∀ W : World, (Instr.index 60 (.agg #[.pointer none, PT Z]) (.int .i64 1)).run Try.prog W = .ok (PT Z) W := fun W => by kernel_rfl
theorem index_two {w : World} {Z : Nat} (hZ : Blk w Z 59 [.int .i64 0, .pointer none]) (i : Nat) (hi : i < 2) : ∃ u, UnS w u ∧ ∀ W : World, (Instr.index 60 (.agg #[.pointer none, PT Z]) (.int .i64 (i : Int))).run Try.prog W = .ok u W :=
  match i, hi with
  | 0, _ => ⟨_, .inl rfl, index_0 Z⟩
  | 1, _ => ⟨_, .inr ⟨Z, rfl, hZ⟩, index_1 Z⟩
set_option maxHeartbeats 4000000 in
set_option maxRecDepth 100000 in
theorem none_any {w : World} {x : Ac} (hx : AcOk w x) : Calls Try.prog 5 #[.agg (AC x).toArray] w fun e w' => e = .returned (.bool true) ∧ Below w.heap.size w w' := by
  have hz := Zact15
  have hzr := zeroR
  obtain ⟨N, HN⟩ : ∃ N, Hid (w.heap.size = N) := ⟨_, rfl⟩
  obtain ⟨w1, hw1⟩ : ∃ y, y = w.alloc (.cells (AC x).toArray 31 (0, 0)) := ⟨_, rfl⟩
  obtain ⟨B1, l1⟩ := newB HN hw1
  have HW1 := hide hw1
  obtain ⟨N2, HN2⟩ : ∃ N, Hid (w1.heap.size = N) := ⟨_, rfl⟩
  obtain ⟨w2, hw2⟩ : ∃ y, y = w1.alloc (.cells (AC x).toArray 31 (0, 0)) := ⟨_, rfl⟩
  obtain ⟨B2, l2⟩ := newB HN2 hw2
  have HW2 := hide hw2
  have R2 : Hid (RdG AE w2 (.slice (some ⟨N2, 0, none⟩) 1 1) [x]) := (show RdG _ _ _ _ by rw [hw2, ← HN2.out]; exact rdG_one (E := AE) w1 31 x)
  have L2 : Hid (Below w.heap.size w w2) := (show Below _ _ _ from l1.out.trans (l2.out.mono l1.out.size))
  have HX := hide hx
  have CL := hide (light_any R2.out (fun a ha => by rw [List.mem_singleton] at ha; rw [ha]; exact hx.kept L2.out))
  have B12 := hide (B1.out.kept l2.out)
  obtain ⟨k, HK⟩ : ∃ k, Hid (x.key = k) := ⟨_, rfl⟩
  obtain ⟨v, HV⟩ : ∃ k, Hid (x.val = k) := ⟨_, rfl⟩
  obtain ⟨st, HST⟩ : ∃ k, Hid (x.st = k) := ⟨_, rfl⟩
  clear hx hw1 hw2
  go_enter Try.func5, Try.ntmps5
  go_upto_region 1 with fail
  change Code.wp _ _ _ _ (w.alloc (.cells (AC x).toArray 31 (0, 0)))
  rw [← HW1.out, HN.out]
  go_wp2_with (first
    | (refine wpList_load_mid rfl 31 _ rfl N 0 rfl (AC x) _ B1.out.range0 Try.underlying31 rfl Try.size31 ?_)
    | (refine wpList_build1E (E := AE) (fun x W => build_act1 x W) rfl _ rfl x rfl ?_; change wpList _ _ _ _ _ (w1.alloc (.cells (AC x).toArray 31 (0, 0))); rw [← HW2.out, HN2.out])
    | fail)
  refine CL.out.mono ?_
  rintro e w3 ⟨lg, rfl, -, hb3⟩
  have L3 : Hid (Below w.heap.size w w3) := (show Below _ _ _ from L2.out.trans (hb3.mono L2.out.size))
  have B3 := hide (B12.out.kept hb3)
  clear hb3 CL B2 R2 B1 l1 l2 B12
  cases lg with
  | false =>
    have CV := hide (lives_any w3)
    go_wp2_with fail
    refine CV.out.mono ?_
    rintro e w4 ⟨rfl, hb4⟩
    have L4 : Hid (Below w.heap.size w w4) := (show Below _ _ _ from L3.out.trans (hb4.mono L3.out.size))
    clear hb4
    go_wp2_with fail
    go_ret
    exact ⟨rfl, L4.out⟩
  | true =>
    obtain ⟨Z, HZ⟩ : ∃ N, Hid (w3.heap.size = N) := ⟨_, rfl⟩
    obtain ⟨w4, hw4⟩ : ∃ y, y = w3.alloc (.cells ([.int .i64 0, .pointer none] : List Value).toArray 59 (0, 0)) := ⟨_, rfl⟩
    obtain ⟨Z4, l4⟩ := newB HZ hw4
    have HW4 := hide hw4
    have L4 : Hid (Below w.heap.size w w4) := (show Below _ _ _ from L3.out.trans (l4.out.mono L3.out.size))
    have B4 := hide (B3.out.kept l4.out)
    have CN := hide (ls_new (w := w4))
    have hbt := build_two Z
    clear hw4 l4 B3
    go_upto_region 4 with fail
    rw [HZ.out]
    change Code.wp _ _ _ _ (w3.alloc (.cells ([.int .i64 0, .pointer none] : List Value).toArray 59 (0, 0)))
    rw [← HW4.out]
    go_wp2_with fail
    refine CN.out.mono ?_
    rintro e w5 ⟨D, rfl, hl⟩
    have hb5 := hl.lo
    have L5 : Hid (Below w.heap.size w w5) := (show Below _ _ _ from L4.out.trans (hb5.mono L4.out.size))
    have B5 := hide (B4.out.kept hb5)
    have Z5 := hide (Z4.out.kept hb5)
    clear hb5 hl CN B4 Z4
    go_wp2_with fail
    go_loopg [21] 3 (fun g z wr => ∃ i : Nat, i ≤ 2 ∧ g + i = 3 ∧ z = .int .i64 (i : Int) ∧ Hid (Blk wr N 31 (AC x)) ∧ Hid (Blk wr Z 59 [.int .i64 0, .pointer none]) ∧ Hid (Below w.heap.size w wr))
    case atStart => exact ⟨0, by omega, by omega, rfl, B5, Z5, L5⟩
    case round =>
      clear B5 Z5 L5
      obtain ⟨i, hi, hg, rfl, BR, ZR, LR⟩ := hrel
      by_cases hlt : i < 2
      · have q1 : (i : Int) < 2 := by omega
        obtain ⟨u, hu, hix⟩ := index_two ZR.out i hlt
        have HU := hide hu
        have c2 := BR.out.cell (j := 2) rfl
        have c3 := BR.out.cell (j := 3) rfl
        have c4 := BR.out.cell (j := 4) rfl
        rw [HK.out] at c2
        rw [HV.out] at c3
        rw [HST.out] at c4
        have CG := hide (zGet_un hu (PT D) k)
        have CS := hide (zScan_un hu (PT D) k v)
        have CR := hide (zRec_un hu)
        clear hu
        go_wp2_with fail
        refine CG.out.mono ?_
        rintro e w_ ⟨rfl, hw⟩
        subst w_
        go_wp2_with fail
        refine CS.out.mono ?_
        rintro e w_ ⟨rfl, hw⟩
        subst w_
        go_wp2_with fail
        refine CR.out.mono ?_
        rintro e w6 ⟨rfl, hb6⟩
        obtain ⟨E6, HE6⟩ : ∃ N, Hid (w6.heap.size = N) := ⟨_, rfl⟩
        obtain ⟨w7, hw7⟩ : ∃ y, y = w6.alloc (.cells (RC zr).toArray 53 (0, 0)) := ⟨_, rfl⟩
        obtain ⟨B7, l7⟩ := newB HE6 hw7
        have HW7 := hide hw7
        have l67 : Below wr.heap.size wr w7 := hb6.trans (l7.out.mono hb6.size)
        have L7 : Hid (Below w.heap.size w w7) := (show Below _ _ _ from LR.out.trans (l67.mono LR.out.size))
        have BA := hide (BR.out.kept l67)
        have ZA := hide (ZR.out.kept l67)
        have UA := hide (HU.out.kept l67)
        have e2 := BA.out.cell (j := 2) rfl
        have e3 := BA.out.cell (j := 3) rfl
        have e4 := BA.out.cell (j := 4) rfl
        rw [HK.out] at e2
        rw [HV.out] at e3
        rw [HST.out] at e4
        have C1 := hide (zBegin_un UA.out (PT D) st)
        have C2 := hide (zPut_un UA.out k v)
        have C3 := hide (zDrop_un UA.out k)
        have C4 := hide (zClose_un UA.out)
        have C5 := hide (zOpen_un UA.out)
        have C6 := hide (zSnap_un UA.out)
        have C7 := hide (zOps_un UA.out)
        clear hb6 hw7 l67 l7 c2 c3 c4 CG CS CR BR ZR
        go_upto_region 11 with (first
          | (refine wpList_store_new rfl 53 _ _ rfl w6 _ (RC zr).toArray _ rfl rfl rfl Try.size53 rfl (all_one (RC_one zr)) ?_; rw [← HW7.out, HE6.out])
          | fail)
        go_wp2_with fail
        refine C1.out.mono ?_
        rintro e w_ ⟨rfl, hw⟩
        subst w_
        go_wp2_with fail
        refine C2.out.mono ?_
        rintro e w_ ⟨rfl, hw⟩
        subst w_
        go_wp2_with fail
        refine C3.out.mono ?_
        rintro e w_ ⟨rfl, hw⟩
        subst w_
        go_wp2_with fail
        refine C4.out.mono ?_
        rintro e w_ ⟨rfl, hw⟩
        subst w_
        go_wp2_with fail
        refine C5.out.mono ?_
        rintro e w_ ⟨rfl, hw⟩
        subst w_
        go_wp2_with fail
        refine C6.out.mono ?_
        rintro e w_ ⟨rfl, hw⟩
        subst w_
        go_wp2_with fail
        refine C7.out.mono ?_
        rintro e w_ ⟨rfl, hw⟩
        subst w_
        go_wp2_with fail
        go_roundg (2 - i)
        case measure => omega
        case rel => exact ⟨i + 1, by omega, by omega, by go_num, BA, ZA, L7⟩
      · obtain rfl : i = 2 := by omega
        have CX := hide (zNew_any wr 1 (by decide) (by decide))
        go_wp2_with fail
        refine CX.out.mono ?_
        rintro e w6 ⟨X, rfl, -, hs, hb6⟩
        have S6 := hide hs
        have L6 : Hid (Below w.heap.size w w6) := (show Below _ _ _ from LR.out.trans (hb6.mono LR.out.size))
        have BA := hide (BR.out.kept hb6)
        have e4 := BA.out.cell (j := 4) rfl
        rw [HST.out] at e4
        have CB := hide (zBegin_nil S6.out st)
        clear hs hb6 CX BR ZR
        go_wp2_with fail
        refine CB.out.mono ?_
        rintro e w7 ⟨rfl, hb7⟩
        have S7 := hide (S6.out.kept hb7)
        have L7 : Hid (Below w.heap.size w w7) := (show Below _ _ _ from L6.out.trans (hb7.mono L6.out.size))
        have CO := hide (zOpen_any S7.out)
        have CV := hide (lives_any w7)
        clear hb7 CB e4
        go_wp2_with fail
        refine CO.out.mono ?_
        rintro e w_ ⟨rfl, hw⟩
        subst w_
        go_wp2_with fail
        refine CV.out.mono ?_
        rintro e w8 ⟨rfl, hb8⟩
        have L8 : Hid (Below w.heap.size w w8) := (show Below _ _ _ from L7.out.trans (hb8.mono L7.out.size))
        clear hb8
        go_wp2_with fail
        go_ret
        exact ⟨rfl, L8.out⟩
#print axioms none_any
end Go.Proofs.Ytcicekggeampcaa
