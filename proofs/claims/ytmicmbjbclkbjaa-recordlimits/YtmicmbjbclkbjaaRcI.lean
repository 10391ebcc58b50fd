/-
  What a read may be: closures, IndexFunc, ContainsFunc over pairs, wereThere, isNoRead: what the calls do.
-/
import Derived.Test.YtmicmbjbclkbjaaRcG
import Derived.Test.YtmicmbjbclkbjaaRcP
namespace Go.Proofs.Ytmicmbjbclkbjaa
open Go.RowKit
/-- Is a pair strange to a read? -/
def strP (x : Rp) (p : Pr) : Bool := if x.1 = true then (lt p.1 x.2.1 || !lt p.1 x.2.2.1) else !(p.1.toList == x.2.1.toList)
def wrongP (x : Rp) (p : Pr) : Bool := p.2.2 || strP x p
def thereP (x : Rp) (m : Nat) : Bool := decide (x.2.2.2.length ≤ m) && (goodP em x.2.2.2 && !(x.2.2.2.any (wrongP x)))
def noRd (x : Rp) : Bool := if x.1 = true then decide (64 < x.2.1.size) || (decide (64 < x.2.2.1.size) || !thereP x 200) else decide (x.2.1.size < 1) || (decide (64 < x.2.1.size) || (!x.2.2.1.toList.isEmpty || !thereP x 1))
set_option maxRecDepth 100000 in
theorem outside_any {w : World} {X : Nat} {x : Rz} (hX : Blk w X 39 (XC x)) (hs : x.sc = true) (p : Pr) :
    Calls Try.prog 73 #[.agg (PC p).toArray, PT X] w fun e w' => e = .returned (.bool (strP (plR x) p)) ∧ Below w.heap.size w w' := by
  obtain ⟨N, HN⟩ : ∃ N, Hid (w.heap.size = N) := ⟨_, rfl⟩
  obtain ⟨w1, hw1⟩ : ∃ y, y = w.alloc (.cells (PC p).toArray 41 (0, 0)) := ⟨_, rfl⟩
  obtain ⟨b1, l1⟩ := newB HN hw1
  have d0 := b1.out.key
  have d1 := (hX.kept l1.out).xk
  have d2 := (hX.kept l1.out).xt
  have HS : Hid (strP (plR x) p = (lt p.1 x.k || !lt p.1 x.t)) := (show _ = _ by unfold strP plR; simp only [hs, if_true])
  obtain ⟨pk, HPk⟩ : ∃ z, Hid (p.1 = z) := ⟨_, rfl⟩
  obtain ⟨xk, HXk⟩ : ∃ z, Hid (x.k = z) := ⟨_, rfl⟩
  obtain ⟨xt, HXt⟩ : ∃ z, Hid (x.t = z) := ⟨_, rfl⟩
  rw [HPk.out] at d0 HS
  rw [HXk.out] at d1 HS
  rw [HXt.out] at d2 HS
  obtain ⟨c1, HC1⟩ : ∃ c, lt pk xk = c := ⟨_, rfl⟩
  obtain ⟨c2, HC2⟩ : ∃ c, lt pk xt = c := ⟨_, rfl⟩
  have hsl := slt
  have hsg := sge
  have HW := hide hw1
  clear hX hw1
  rw [HS.out]
  cases c1 <;> cases c2
  all_goals
    have HR1 := hide HC1
    have HR2 := hide HC2
    go_enter Try.func73, Try.ntmps73
    go_upto_region 1 with fail
    change Code.wp _ _ _ _ (w.alloc (.cells (PC p).toArray 41 (0, 0)))
    rw [← HW.out, HN.out]
    go_wp2_with fail
    go_ret
    exact ⟨by first | rfl | (rw [HR1.out, HR2.out]; rfl), l1.out⟩
set_option maxRecDepth 100000 in
theorem another_any {w : World} {X : Nat} {x : Rz} (hX : Blk w X 39 (XC x)) (hs : x.sc = false) (p : Pr) :
    Calls Try.prog 75 #[.agg (PC p).toArray, PT X] w fun e w' => e = .returned (.bool (strP (plR x) p)) ∧ Below w.heap.size w w' := by
  obtain ⟨N, HN⟩ : ∃ N, Hid (w.heap.size = N) := ⟨_, rfl⟩
  obtain ⟨w1, hw1⟩ : ∃ y, y = w.alloc (.cells (PC p).toArray 41 (0, 0)) := ⟨_, rfl⟩
  obtain ⟨b1, l1⟩ := newB HN hw1
  have d0 := b1.out.key
  have d1 := (hX.kept l1.out).xk
  have HS : Hid (strP (plR x) p = !(p.1.toList == x.k.toList)) := (show _ = _ by unfold strP plR; simp only [hs, Bool.false_eq_true, if_false])
  obtain ⟨pk, HPk⟩ : ∃ z, Hid (p.1 = z) := ⟨_, rfl⟩
  obtain ⟨xk, HXk⟩ : ∃ z, Hid (x.k = z) := ⟨_, rfl⟩
  rw [HPk.out] at d0 HS
  rw [HXk.out] at d1 HS
  have HW := hide hw1
  clear hX hw1
  rw [HS.out]
  go_enter Try.func75, Try.ntmps75
  go_upto_region 1 with fail
  change Code.wp _ _ _ _ (w.alloc (.cells (PC p).toArray 41 (0, 0)))
  rw [← HW.out, HN.out]
  go_wp2_with fail
  go_ret
  exact ⟨rfl, l1.out⟩
/-- The closure that wereThere is handed. -/
def fnS (b : Bool) (X : Nat) : Value := if b = true then .func (.func 73) #[] #[PT X] else .func (.func 75) #[] #[PT X]
set_option maxRecDepth 100000 in
theorem wrong_any {w : World} {X G : Nat} {x : Rz} (hX : Blk w X 39 (XC x)) (hG : Blk w G 97 [fnS x.sc X]) (p : Pr) :
    Calls Try.prog 80 #[.agg (PC p).toArray, PT G] w fun e w' => e = .returned (.bool (wrongP (plR x) p)) ∧ Below w.heap.size w w' := by
  obtain ⟨N, HN⟩ : ∃ N, Hid (w.heap.size = N) := ⟨_, rfl⟩
  obtain ⟨w1, hw1⟩ : ∃ y, y = w.alloc (.cells (PC p).toArray 41 (0, 0)) := ⟨_, rfl⟩
  obtain ⟨b1, l1⟩ := newB HN hw1
  have d0 := b1.out.dead
  have d1 := (hG.kept l1.out).cell (j := 0) rfl
  obtain ⟨dd, HD⟩ : ∃ z, Hid (p.2.2 = z) := ⟨_, rfl⟩
  rw [HD.out] at d0
  have HWr : Hid (wrongP (plR x) p = (dd || strP (plR x) p)) := (show _ = _ by unfold wrongP; rw [HD.out])
  rw [HWr.out]
  have HW := hide hw1
  have rk := b1.out.range0
  cases dd with
  | true =>
    clear hX hG hw1 d1 rk
    go_enter Try.func80, Try.ntmps80
    go_upto_region 1 with fail
    change Code.wp _ _ _ _ (w.alloc (.cells (PC p).toArray 41 (0, 0)))
    rw [← HW.out, HN.out]
    go_wp2_with fail
    go_ret
    exact ⟨rfl, l1.out⟩
  | false =>
    cases hs : x.sc with
    | true =>
      have CO := hide (outside_any (hX.kept l1.out) hs p)
      rw [hs] at d1
      have d2 : w1.cell? ⟨G, 0, none⟩ = some (.func (.func 73) #[] #[PT X]) := d1
      obtain ⟨q, HQ⟩ : ∃ q, Hid (strP (plR x) p = q) := ⟨_, rfl⟩
      rw [HQ.out] at CO ⊢
      clear hX hG hw1 d1 hs
      go_enter Try.func80, Try.ntmps80
      go_upto_region 1 with fail
      change Code.wp _ _ _ _ (w.alloc (.cells (PC p).toArray 41 (0, 0)))
      rw [← HW.out, HN.out]
      go_wp2_with (first
        | (refine wpList_load_mid rfl 41 _ rfl N 0 rfl (PC p) _ rk Try.underlying41 rfl Try.size41 ?_)
        | (refine wpList_load_w9 rfl 41 _ rfl N 0 rfl (PC p) _ rk Try.underlying41 rfl Try.size41 ?_)
        | fail)
      refine CO.out.mono ?_
      rintro e w2 ⟨rfl, hb2⟩
      have L2 : Hid (Below w.heap.size w w2) := (show Below _ _ _ from l1.out.trans (hb2.mono l1.out.size))
      clear hb2 CO rk
      go_wp2_with fail
      go_ret
      exact ⟨by simp, L2.out⟩
    | false =>
      have CO := hide (another_any (hX.kept l1.out) hs p)
      rw [hs] at d1
      have d2 : w1.cell? ⟨G, 0, none⟩ = some (.func (.func 75) #[] #[PT X]) := d1
      obtain ⟨q, HQ⟩ : ∃ q, Hid (strP (plR x) p = q) := ⟨_, rfl⟩
      rw [HQ.out] at CO ⊢
      clear hX hG hw1 d1 hs
      go_enter Try.func80, Try.ntmps80
      go_upto_region 1 with fail
      change Code.wp _ _ _ _ (w.alloc (.cells (PC p).toArray 41 (0, 0)))
      rw [← HW.out, HN.out]
      go_wp2_with (first
        | (refine wpList_load_mid rfl 41 _ rfl N 0 rfl (PC p) _ rk Try.underlying41 rfl Try.size41 ?_)
        | (refine wpList_load_w9 rfl 41 _ rfl N 0 rfl (PC p) _ rk Try.underlying41 rfl Try.size41 ?_)
        | fail)
      refine CO.out.mono ?_
      rintro e w2 ⟨rfl, hb2⟩
      have L2 : Hid (Below w.heap.size w w2) := (show Below _ _ _ from l1.out.trans (hb2.mono l1.out.size))
      clear hb2 CO rk
      go_wp2_with fail
      go_ret
      exact ⟨by simp, L2.out⟩
set_option maxHeartbeats 1000000 in
set_option maxRecDepth 100000 in
theorem indexW_any {w : World} {X B1 : Nat} {vp : Value} {x0 : Rz} {L : List Pr} (h : Blk w X 39 (XC x0)) (hB : Blk w B1 97 [fnS x0.sc X]) (hr : RdG PE w vp L) :
    Calls Try.prog 83 #[vp, .func (.func 80) #[] #[PT B1]] w fun e w' => e = .returned (.int .i64 (fstI (wrongP (plR x0)) L 0)) ∧ Below w.heap.size w w' := by
  have H1 := hide h
  have H2 := hide hB
  have HR := hide hr
  obtain ⟨x, c, rfl⟩ := hr.slice
  obtain ⟨n, HN⟩ : ∃ n, Hid (L.length = n) := ⟨_, rfl⟩
  rw [HN.out] at HR ⊢
  have hm := Nat.le_trans HR.out.cap HR.out.max
  obtain ⟨f, HF⟩ : ∃ f : Pr → Bool, Hid (wrongP (plR x0) = f) := ⟨_, rfl⟩
  have HF' : Hid (∀ p : Pr, wrongP (plR x0) p = f p) := (show _ from fun p => by rw [← HF.out])
  rw [HF.out]
  obtain ⟨u, HU⟩ : ∃ u, Hid (fstI f L 0 = u) := ⟨_, rfl⟩
  rw [HU.out]
  clear h hB hr
  go_enter Try.func83, Try.ntmps83
  go_wp2_with fail
  go_loopg [8] (n + 1) (fun g z wr => ∃ i : Nat, i ≤ n ∧ g + i = n + 1 ∧ z = .int .i64 (i : Int) ∧ Hid (∀ j (hj : j < L.length), j < i → f L[j] = false) ∧ Hid (Below w.heap.size w wr))
  case atStart => exact ⟨0, Nat.zero_le _, by omega, rfl, (show ∀ j (hj : j < L.length), _ from fun j hj h => by omega), Below.refl _ _⟩
  case round =>
    obtain ⟨i, hi, hg, rfl, HT, BL⟩ := hrel
    by_cases hlt : i < n
    · have hlt2 : i < L.length := by rw [HN.out]; exact hlt
      obtain ⟨bb, off, rfl, hb1, hx⟩ := (HR.out.kept BL.out).nth (by omega)
      have hrow : wr.rangeAt bb (off + i * 3) (PC L[i]) := hx i hlt2
      have CO := hide (wrong_any (H1.out.kept BL.out) (H2.out.kept BL.out) L[i])
      rw [HF'.out] at CO
      obtain ⟨p, HP⟩ : ∃ p, Hid (L[i] = p) := ⟨L[i], (show L[i] = L[i] from rfl)⟩
      rw [HP.out] at hrow CO
      obtain ⟨o, HO⟩ : ∃ o, Hid (f p = o) := ⟨_, rfl⟩
      rw [HO.out] at CO
      have hlt' : (i : Int) < (n : Int) := by omega
      clear hx
      go_wp2_with (first
        | (refine wpList_load_mid rfl 41 _ rfl bb (off + i * 3) rfl (PC p) _ hrow Try.underlying41 rfl Try.size41 ?_)
        | fail)
      refine CO.out.mono ?_
      rintro e w2 ⟨rfl, hb2⟩
      have L2 : Hid (Below w.heap.size w w2) := (show _ from BL.out.trans (hb2.mono BL.out.size))
      clear hb2 CO hrow
      cases o with
      | false =>
        go_wp2_with fail
        go_roundg (n - i)
        case measure => omega
        case rel => exact ⟨i + 1, by omega, by omega, by go_num, (show ∀ j (hj : j < L.length), _ from fun j hj hji => by
          by_cases e : j = i
          · subst e
            rw [HP.out]
            exact HO.out
          · exact HT.out j hj (by omega)), L2⟩
      | true =>
        have hu : u = (i : Int) := by
          rw [← HU.out, fst_hit (f := f) (k := i) hlt2 (by rw [HP.out]; exact HO.out) HT.out]
          simp
        subst hu
        go_wp2_with fail
        go_ret
        exact ⟨rfl, L2.out⟩
    · obtain rfl : i = n := by omega
      have hlt' : ¬ (i : Int) < i := by omega
      have hu : u = -1 := by
        rw [← HU.out]
        refine fst_none fun p hp => ?_
        obtain ⟨j, hj, e⟩ := List.getElem_of_mem hp
        rw [← e]
        exact HT.out j hj (by rw [← HN.out]; exact hj)
      subst hu
      go_wp2_with fail
      go_ret
      exact ⟨rfl, BL.out⟩
set_option maxRecDepth 100000 in
theorem containsW_any {w : World} {X B1 : Nat} {vp : Value} {x0 : Rz} {L : List Pr} (h : Blk w X 39 (XC x0)) (hB : Blk w B1 97 [fnS x0.sc X]) (hr : RdG PE w vp L) :
    Calls Try.prog 81 #[vp, .func (.func 80) #[] #[PT B1]] w fun e w' => e = .returned (.bool (L.any (wrongP (plR x0)))) ∧ Below w.heap.size w w' := by
  have CI := hide (indexW_any h hB hr)
  obtain ⟨x, c, rfl⟩ := hr.slice
  have HA : Hid (decide (0 ≤ fstI (wrongP (plR x0)) L 0) = (L.any (wrongP (plR x0)))) := (show _ = _ from fst_any)
  obtain ⟨u, HU⟩ : ∃ u, Hid (fstI (wrongP (plR x0)) L 0 = u) := ⟨_, rfl⟩
  rw [HU.out] at CI HA
  obtain ⟨q, HQ⟩ : ∃ q, Hid ((L.any (wrongP (plR x0))) = q) := ⟨_, rfl⟩
  rw [HQ.out] at HA ⊢
  obtain ⟨n, HN⟩ : ∃ n, Hid (L.length = n) := ⟨_, rfl⟩
  rw [HN.out] at CI ⊢
  have hq := HA.out
  clear h hB hr
  go_enter Try.func81, Try.ntmps81
  go_wp2_with fail
  refine CI.out.mono ?_
  rintro e w5 ⟨rfl, hb5⟩
  have L5 := hide hb5
  clear hb5 CI
  subst hq
  go_wp2_with fail
  go_ret
  exact ⟨by simp, L5.out⟩
set_option maxHeartbeats 1000000 in
set_option maxRecDepth 100000 in
theorem wereThere_any {w : World} {X : Nat} {x : Rz} (hX : Blk w X 39 (XC x)) (hr : XOk w x) (m : Nat) :
    Calls Try.prog 74 #[xv x, .int .i64 (m : Int), fnS x.sc X] w fun e w' => e = .returned (.bool (thereP (plR x) m)) ∧ Below w.heap.size w w' := by
  obtain ⟨N, HN⟩ : ∃ N, Hid (w.heap.size = N) := ⟨_, rfl⟩
  obtain ⟨w1, hw1⟩ : ∃ y, y = w.alloc (.cells #[fnS x.sc X] 97 (0, 0)) := ⟨_, rfl⟩
  obtain ⟨b1, l1⟩ := newB (A := [fnS x.sc X]) HN hw1
  have HW := hide hw1
  have CG := hide (sGood_any (RdG.kept hr l1.out))
  have HCW : Hid (∀ w2, Below w1.heap.size w1 w2 → Calls Try.prog 81 #[xv x, .func (.func 80) #[] #[PT N]] w2 fun e w' => e = .returned (.bool (x.ps.any (wrongP (plR x)))) ∧ Below w2.heap.size w2 w') := (show ∀ w2, _ from fun w2 hb => containsW_any ((hX.kept l1.out).kept hb) (b1.out.kept hb) ((RdG.kept hr l1.out).kept hb))
  have HT : Hid (thereP (plR x) m = (decide (x.ps.length ≤ m) && (goodP em x.ps && !(x.ps.any (wrongP (plR x)))))) := (show _ = _ from rfl)
  obtain ⟨g, HGd⟩ : ∃ z, Hid (goodP em x.ps = z) := ⟨_, rfl⟩
  obtain ⟨q, HQ⟩ : ∃ z, Hid (x.ps.any (wrongP (plR x)) = z) := ⟨_, rfl⟩
  rw [HT.out]
  unfold xv at CG HCW ⊢
  rw [HGd.out, HQ.out]
  rw [HGd.out] at CG
  rw [HQ.out] at HCW
  obtain ⟨n, Hn⟩ : ∃ z, Hid (x.ps.length = z) := ⟨_, rfl⟩
  rw [Hn.out] at CG HCW ⊢
  have hfs : (∃ f0, fnS x.sc X = .func (.func f0) #[] #[PT X]) := by
    unfold fnS
    split
    · exact ⟨_, rfl⟩
    · exact ⟨_, rfl⟩
  obtain ⟨f0, hf0⟩ := hfs
  rw [hf0] at HW ⊢
  clear hf0 b1
  clear hX hr hw1
  by_cases h1 : n ≤ m
  · have q1 : decide ((n : Int) ≤ (m : Int)) = true := by simp; omega
    go_enter Try.func74, Try.ntmps74
    go_upto_region 1 with fail
    change Code.wp _ _ _ _ (w.alloc (.cells #[.func (.func f0) #[] #[PT X]] 97 (0, 0)))
    rw [← HW.out, HN.out]
    go_wp2_with fail
    refine CG.out.mono ?_
    rintro e w2 ⟨rfl, hb2⟩
    have L2 : Hid (Below w.heap.size w w2) := (show Below _ _ _ from l1.out.trans (hb2.mono l1.out.size))
    have CW := hide (HCW.out w2 hb2)
    clear hb2 CG HCW
    cases g with
    | false =>
      clear CW
      go_wp2_with fail
      go_ret
      exact ⟨by simp, L2.out⟩
    | true =>
      go_wp2_with fail
      refine CW.out.mono ?_
      rintro e w3 ⟨rfl, hb3⟩
      have L3 : Hid (Below w.heap.size w w3) := (show Below _ _ _ from L2.out.trans (hb3.mono L2.out.size))
      clear hb3 CW
      go_wp2_with fail
      go_ret
      exact ⟨by simp [h1], L3.out⟩
  · have q1 : decide ((n : Int) ≤ (m : Int)) = false := by simp; omega
    clear CG HCW
    go_enter Try.func74, Try.ntmps74
    go_upto_region 1 with fail
    change Code.wp _ _ _ _ (w.alloc (.cells #[.func (.func f0) #[] #[PT X]] 97 (0, 0)))
    rw [← HW.out, HN.out]
    go_wp2_with fail
    go_ret
    exact ⟨by simp [h1], l1.out⟩
#print axioms wereThere_any
end Go.Proofs.Ytmicmbjbclkbjaa
