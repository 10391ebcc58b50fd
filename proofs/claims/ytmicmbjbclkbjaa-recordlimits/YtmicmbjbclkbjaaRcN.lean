/-
  Records held against each other: slices.Equal, sameRead, EqualFunc, Same; the document's Same: what the calls do.
-/
import Derived.Test.YtmicmbjbclkbjaaCtZ
import Derived.Test.YtmicmbjbclkbjaaRcU
namespace Go.Proofs.Ytmicmbjbclkbjaa
open Go.RowKit
set_option maxRecDepth 100000 in
set_option maxHeartbeats 1000000 in
theorem equalP_any {u v : Value} {A B : List Pr} {w : World} (hu : RdG PE w u A) (hv : RdG PE w v B) :
    Calls Try.prog 29 #[u, v] w fun e w' => e = .returned (.bool (decide (A = B))) ∧ Below w.heap.size w w' := by
  have H4 := hide hu
  have H5 := hide hv
  obtain ⟨a, cap, rfl⟩ := hu.slice
  obtain ⟨a2, cap2, rfl⟩ := hv.slice
  have hm := Nat.le_trans hu.cap hu.max
  clear hu hv
  by_cases hlen : A.length = B.length
  · have hne : ((A.length : Int) != (B.length : Int)) = false := by simp [hlen]
    have HLEN := hide hlen
    clear hlen
    go_enter Try.func29, Try.ntmps29
    go_wp2_with fail
    go_loopg [13] (A.length + 1) (fun g z wr => ∃ i : Nat, i ≤ A.length ∧ g + i = A.length + 1 ∧ z = .int .i64 (i : Int) ∧ Hid (A.take i = B.take i) ∧ Hid (Below w.heap.size w wr))
    case atStart => exact ⟨0, Nat.zero_le _, rfl, rfl, rfl, Below.refl _ _⟩
    case round =>
      obtain ⟨i, hi, hg, rfl, HT, BL⟩ := hrel
      by_cases hlt : i < A.length
      · have hlt2 : i < B.length := by have := HLEN.out; omega
        have hd : Below w.heap.size w wr := BL.out
        obtain ⟨b, off, rfl, hb1, hc⟩ := (H4.out.kept hd).nth (by omega)
        obtain ⟨b2, off2, rfl, hb2, hc2⟩ := (H5.out.kept hd).nth (by omega)
        have rx := hc i hlt
        have ry := hc2 i hlt2
        obtain ⟨p, HP⟩ : ∃ p, Hid (A[i] = p) := ⟨A[i], (show A[i] = A[i] from rfl)⟩
        obtain ⟨r, HR⟩ : ∃ r, Hid (B[i] = r) := ⟨B[i], (show B[i] = B[i] from rfl)⟩
        rw [HP.out] at rx
        rw [HR.out] at ry
        have hlt' : (i : Int) < A.length := by omega
        have hlt2' : (i : Int) < B.length := by omega
        have KX : Hid (∀ w', (∃ p : Regrown, w' = Go.Sort.grow (redrawn wr p.d) p.os) → w'.rangeAt b (off + i * 3) (PC p)) := (show _ from fun w' h => by
          obtain ⟨q, rfl⟩ := h
          exact fun j u hj => ((below_regrown wr q.d q.os).cell (p := ⟨b, off + i * 3 + j, none⟩) hb1).trans (rx j u hj))
        have KY : Hid (∀ w', (∃ p : Regrown, w' = Go.Sort.grow (redrawn wr p.d) p.os) → w'.rangeAt b2 (off2 + i * 3) (PC r)) := (show _ from fun w' h => by
          obtain ⟨q, rfl⟩ := h
          exact fun j u hj => ((below_regrown wr q.d q.os).cell (p := ⟨b2, off2 + i * 3 + j, none⟩) hb2).trans (ry j u hj))
        have hne2 := ne_pair p r
        obtain ⟨q, HQ⟩ : ∃ q, Hid (decide (p = r) = q) := ⟨_, rfl⟩
        rw [HQ.out] at hne2
        clear hc hc2 rx ry hd
        go_upto_region 6 with fail
        refine wp_region_quiet_below Try.mixed (by kernel_rfl) ?_
        iterate 3 (go_big_quiet_step (fail))
        refine wpQuiet_load_mid rfl 41 _ rfl b (off + i * 3) rfl (PC p) _ KX.out Try.underlying41 rfl Try.size41 ?_
        simp only [Act.put, List.setIfInBounds_toArray, List.set_cons_succ, List.set_cons_zero]
        iterate 3 (go_big_quiet_step (fail))
        refine wpQuiet_load_mid rfl 41 _ rfl b2 (off2 + i * 3) rfl (PC r) _ KY.out Try.underlying41 rfl Try.size41 ?_
        simp only [Act.put, List.setIfInBounds_toArray, List.set_cons_succ, List.set_cons_zero]
        go_big_quiet_step (fail)
        refine wpQuiet_nil ?_
        intro w3 hw3
        have L3 : Hid (Below w.heap.size w w3) := (show Below _ _ _ by obtain ⟨⟨dq, osq⟩, rfl⟩ := hw3; exact BL.out.trans ((below_regrown wr dq osq).mono BL.out.size))
        clear hw3 KX KY hne2
        cases q with
        | true =>
          have HT2 : Hid (A.take (i + 1) = B.take (i + 1)) := (show _ = _ by rw [List.take_succ_eq_append_getElem hlt, List.take_succ_eq_append_getElem hlt2, HT.out, HP.out, HR.out, of_decide_eq_true HQ.out])
          go_wp2_with fail
          go_roundg (gk - 1)
          case measure => omega
          case rel => exact ⟨i + 1, by omega, by omega, by go_num, HT2, L3⟩
        | false =>
          have HF : Hid (decide (A = B) = false) := (show _ = _ by
            rw [decide_eq_false_iff_not]
            intro e
            have := of_decide_eq_false HQ.out
            subst e
            exact this (HP.out.symm.trans HR.out))
          go_wp2_with fail
          go_ret
          exact ⟨by rw [HF.out]; rfl, L3.out⟩
      · obtain rfl : i = A.length := by omega
        have HF : Hid (decide (A = B) = true) := (show _ = _ by
          rw [decide_eq_true_eq]
          have := HT.out
          rwa [List.take_of_length_le (Nat.le_refl _), HLEN.out, List.take_of_length_le (Nat.le_refl _)] at this)
        have hlt' : ¬ (A.length : Int) < A.length := by omega
        go_wp2_with fail
        go_ret
        exact ⟨by rw [HF.out]; rfl, BL.out⟩
  · have hne : ((A.length : Int) != (B.length : Int)) = true := by simp; omega
    have HF : Hid (decide (A = B) = false) := (show _ = _ by
      rw [decide_eq_false_iff_not]
      exact fun e => hlen (by rw [e]))
    clear hlen
    go_enter Try.func29, Try.ntmps29
    go_wp2_with fail
    go_ret
    exact ⟨by rw [HF.out]; rfl, Below.refl _ _⟩
/-- Are two lists of reads alike? -/
def eqX : List Rp → List Rp → Bool
  | [], [] => true
  | x :: A, y :: B => decide (x = y) && eqX A B
  | _, _ => false
theorem eqX_iff : ∀ {A B : List Rp}, eqX A B = true ↔ A = B
  | [], [] => by simp [eqX]
  | x :: A, y :: B => by
    unfold eqX
    rw [Bool.and_eq_true, decide_eq_true_eq, eqX_iff, List.cons.injEq]
  | [], y :: B => by simp [eqX]
  | x :: A, [] => by simp [eqX]
/-- Are two records alike? -/
def sameB (p q : Rc) : Bool := decide (p.ses = q.ses) && (decide (p.snap = q.snap) && (decide (p.st = q.st) && (eqX (p.rs.map plR) (q.rs.map plR) && decide (p.ws = q.ws))))
theorem sne_eql (a b : ByteArray) : (a.toList == b.toList) = decide (a = b) := by
  rw [Bool.eq_iff_iff, beq_iff_eq, decide_eq_true_eq]
  exact ba_inj
set_option maxHeartbeats 1000000 in
set_option maxRecDepth 100000 in
theorem sameRead_any {w : World} {x y : Rz} (hx : XOk w x) (hy : XOk w y) : Calls Try.prog 28 #[.agg (XC x).toArray, .agg (XC y).toArray] w fun e w' => e = .returned (.bool (decide (plR x = plR y))) ∧ Below w.heap.size w w' := by
  obtain ⟨N, HN⟩ : ∃ N, Hid (w.heap.size = N) := ⟨_, rfl⟩
  obtain ⟨w1, hw1⟩ : ∃ z, z = (w.alloc (.cells (XC x).toArray 39 (0, 0))).alloc (.cells (XC y).toArray 39 (0, 0)) := ⟨_, rfl⟩
  obtain ⟨b1, b2, l1⟩ := newB2 HN hw1
  have HW := hide hw1
  have CE := hide (equalP_any (RdG.kept hx l1.out) (RdG.kept hy l1.out))
  have d0 := b1.out.xsc
  have d1 := b1.out.xk
  have d2 := b1.out.xt
  have d3 := b1.out.xp
  have f0 := b2.out.xsc
  have f1 := b2.out.xk
  have f2 := b2.out.xt
  have f3 := b2.out.xp
  unfold xv at d3 f3 CE
  have HP : Hid (decide (plR x = plR y) = (decide (x.sc = y.sc) && (decide (x.k = y.k) && (decide (x.t = y.t) && decide (x.ps = y.ps))))) := (show _ = _ by
    rw [Bool.eq_iff_iff]
    simp [plR])
  rw [HP.out]
  obtain ⟨q, HQ⟩ : ∃ z, Hid (decide (x.ps = y.ps) = z) := ⟨_, rfl⟩
  rw [HQ.out] at CE ⊢
  obtain ⟨s1, H1⟩ : ∃ z, Hid (x.sc = z) := ⟨_, rfl⟩
  obtain ⟨s2, H2⟩ : ∃ z, Hid (y.sc = z) := ⟨_, rfl⟩
  obtain ⟨k1, H3⟩ : ∃ z, Hid (x.k = z) := ⟨_, rfl⟩
  obtain ⟨k2, H4⟩ : ∃ z, Hid (y.k = z) := ⟨_, rfl⟩
  obtain ⟨t1, H5⟩ : ∃ z, Hid (x.t = z) := ⟨_, rfl⟩
  obtain ⟨t2, H6⟩ : ∃ z, Hid (y.t = z) := ⟨_, rfl⟩
  rw [H1.out] at d0
  rw [H2.out] at f0
  rw [H3.out] at d1
  rw [H4.out] at f1
  rw [H5.out] at d2
  rw [H6.out] at f2
  rw [H1.out, H2.out, H3.out, H4.out, H5.out, H6.out]
  obtain ⟨n1, H7⟩ : ∃ z, Hid (x.ps.length = z) := ⟨_, rfl⟩
  obtain ⟨n2, H8⟩ : ∃ z, Hid (y.ps.length = z) := ⟨_, rfl⟩
  rw [H7.out] at d3 CE
  rw [H8.out] at f3 CE
  have e1 := sne_eql k1 k2
  have e2 := sne_eql t1 t2
  obtain ⟨c1, G1⟩ : ∃ z, Hid (decide (k1 = k2) = z) := ⟨_, rfl⟩
  obtain ⟨c2, G2⟩ : ∃ z, Hid (decide (t1 = t2) = z) := ⟨_, rfl⟩
  rw [G1.out] at e1
  rw [G2.out] at e2
  rw [G1.out, G2.out]
  clear hx hy hw1 b1 b2
  by_cases h0 : s1 = s2
  · have q0 : (s1 == s2) = true := by simpa using h0
    cases c1 with
    | false =>
      clear CE
      go_enter Try.func28, Try.ntmps28
      go_upto_region 1 with fail
      change Code.wp _ _ _ _ ((w.alloc (.cells (XC x).toArray 39 (0, 0))).alloc (.cells (XC y).toArray 39 (0, 0)))
      rw [← HW.out, HN.out]
      go_wp2_with fail
      go_ret
      exact ⟨by simp, l1.out⟩
    | true =>
      cases c2 with
      | false =>
        clear CE
        go_enter Try.func28, Try.ntmps28
        go_upto_region 1 with fail
        change Code.wp _ _ _ _ ((w.alloc (.cells (XC x).toArray 39 (0, 0))).alloc (.cells (XC y).toArray 39 (0, 0)))
        rw [← HW.out, HN.out]
        go_wp2_with fail
        go_ret
        exact ⟨by simp, l1.out⟩
      | true =>
        go_enter Try.func28, Try.ntmps28
        go_upto_region 1 with fail
        change Code.wp _ _ _ _ ((w.alloc (.cells (XC x).toArray 39 (0, 0))).alloc (.cells (XC y).toArray 39 (0, 0)))
        rw [← HW.out, HN.out]
        go_wp2_with fail
        refine CE.out.mono ?_
        rintro e w2 ⟨rfl, hb2⟩
        have L2 : Hid (Below w.heap.size w w2) := (show Below _ _ _ from l1.out.trans (hb2.mono l1.out.size))
        clear hb2 CE
        go_wp2_with fail
        go_ret
        exact ⟨by simp [h0], L2.out⟩
  · have q0 : (s1 == s2) = false := by simpa using h0
    clear CE
    go_enter Try.func28, Try.ntmps28
    go_upto_region 1 with fail
    change Code.wp _ _ _ _ ((w.alloc (.cells (XC x).toArray 39 (0, 0))).alloc (.cells (XC y).toArray 39 (0, 0)))
    rw [← HW.out, HN.out]
    go_wp2_with fail
    go_ret
    exact ⟨by simp [h0], l1.out⟩
#print axioms sameRead_any
set_option maxHeartbeats 1000000 in
set_option maxRecDepth 100000 in
theorem equalF_any {w : World} {va vb : Value} {A B : List Rz} (hA : RdX w va A) (hB : RdX w vb B) : Calls Try.prog 27 #[va, vb, .func (.func 28) #[] #[]] w fun e w' => e = .returned (.bool (eqX (A.map plR) (B.map plR))) ∧ Below w.heap.size w w' := by
  have H4 := hide hA
  have H5 := hide hB
  obtain ⟨a, ca, rfl⟩ := hA.rd.slice
  obtain ⟨b, cb, rfl⟩ := hB.rd.slice
  have hm := Nat.le_trans hA.rd.cap hA.rd.max
  have hzx := zeroX
  clear hA hB
  by_cases hlen : A.length = B.length
  · obtain ⟨n, HN⟩ : ∃ n, Hid (A.length = n) := ⟨_, rfl⟩
    have HNB : Hid (B.length = n) := (show _ = _ by rw [← hlen]; exact HN.out)
    rw [HN.out] at H4 hm ⊢
    rw [HNB.out] at H5 ⊢
    have hne : ((n : Int) != (n : Int)) = false := by simp
    clear hlen
    go_enter Try.func27, Try.ntmps27
    go_wp2_with fail
    go_loopg [17] (n + 1) (fun g z wr => ∃ i : Nat, i ≤ n ∧ g + i = n + 1 ∧ z = .int .i64 (i : Int) ∧ Hid ((A.take i).map plR = (B.take i).map plR) ∧ Hid (Below w.heap.size w wr))
    case atStart => exact ⟨0, Nat.zero_le _, by omega, rfl, (show _ = _ from rfl), Below.refl _ _⟩
    case round =>
      obtain ⟨i, hi, hg, rfl, HT, BL⟩ := hrel
      by_cases hlt : i < n
      · have hltA : i < A.length := by rw [HN.out]; exact hlt
        have hltB : i < B.length := by rw [HNB.out]; exact hlt
        have hlt' : (i : Int) < (n : Int) := by omega
        have RA := H4.out.kept BL.out
        have RB := H5.out.kept BL.out
        obtain ⟨ba, oa, rfl, hb1, hca⟩ := RA.rd.nth (by omega)
        obtain ⟨bb, ob, rfl, hb2, hcb⟩ := RB.rd.nth (by omega)
        have rx : wr.rangeAt ba (oa + i * 4) (XC A[i]) := hca i hltA
        have ry : wr.rangeAt bb (ob + i * 4) (XC B[i]) := hcb i hltB
        have px := RA.ps _ (List.getElem_mem hltA)
        have py := RB.ps _ (List.getElem_mem hltB)
        have HTK : Hid ((A.take (i + 1)).map plR = (A.take i).map plR ++ [plR A[i]]) := (show _ = _ by rw [List.take_succ_eq_append_getElem hltA, List.map_append, List.map_singleton])
        have HTB : Hid ((B.take (i + 1)).map plR = (B.take i).map plR ++ [plR B[i]]) := (show _ = _ by rw [List.take_succ_eq_append_getElem hltB, List.map_append, List.map_singleton])
        have HGA : Hid ((A.map plR)[i]? = some (plR A[i])) := (show _ = _ by rw [List.getElem?_map, List.getElem?_eq_getElem hltA]; rfl)
        have HGB : Hid ((B.map plR)[i]? = some (plR B[i])) := (show _ = _ by rw [List.getElem?_map, List.getElem?_eq_getElem hltB]; rfl)
        obtain ⟨x, HXx⟩ : ∃ x, Hid (A[i] = x) := ⟨A[i], (show A[i] = A[i] from rfl)⟩
        obtain ⟨y, HYy⟩ : ∃ y, Hid (B[i] = y) := ⟨B[i], (show B[i] = B[i] from rfl)⟩
        rw [HXx.out] at rx px HTK HGA
        rw [HYy.out] at ry py HTB HGB
        obtain ⟨q, HQ⟩ : ∃ z, Hid (decide (plR x = plR y) = z) := ⟨_, rfl⟩
        obtain ⟨E, HE⟩ : ∃ E, Hid (wr.heap.size = E) := ⟨_, rfl⟩
        obtain ⟨w3, hw3⟩ : ∃ z, z = wr.alloc (.cells (XC x).toArray 39 (0, 0)) := ⟨_, rfl⟩
        obtain ⟨b3, l3⟩ := newB HE hw3
        have HW3 := hide hw3
        obtain ⟨E4, HE4⟩ : ∃ E, Hid (w3.heap.size = E) := ⟨_, rfl⟩
        obtain ⟨w4, hw4⟩ : ∃ z, z = w3.alloc (.cells (XC y).toArray 39 (0, 0)) := ⟨_, rfl⟩
        obtain ⟨b4, l4⟩ := newB HE4 hw4
        have HW4 := hide hw4
        have L4 : Hid (Below wr.heap.size wr w4) := (show Below _ _ _ from l3.out.trans (l4.out.mono l3.out.size))
        have CS := hide (sameRead_any (XOk.kept px L4.out) (XOk.kept py L4.out))
        rw [HQ.out] at CS
        have rx4 := (b3.out.kept l4.out).range0
        have ry4 := b4.out.range0
        have ry3 : w3.rangeAt bb (ob + i * 4) (XC y) := fun j u hj => (l3.out.cell (p := ⟨bb, ob + i * 4 + j, none⟩) hb2).trans (ry j u hj)
        clear hca hcb hw3 hw4 RA RB px py ry
        go_upto_region 6 with (first
          | (refine wpList_load_mid rfl 39 _ rfl ba (oa + i * 4) rfl (XC x) _ rx Try.underlying39 rfl Try.size39 ?_)
          | (refine wpList_store_new rfl 39 _ _ rfl wr _ (XC x).toArray _ rfl rfl rfl Try.size39 rfl (all_one (XC_one x)) ?_; rw [← HW3.out, HE.out])
          | fail)
        try simp only [Act.put]
        clear rx
        go_upto_region 7 with (first
          | (refine wpList_load_mid rfl 39 _ rfl bb (ob + i * 4) rfl (XC y) _ ry3 Try.underlying39 rfl Try.size39 ?_)
          | (refine wpList_store_new rfl 39 _ _ rfl w3 _ (XC y).toArray _ rfl rfl rfl Try.size39 rfl (all_one (XC_one y)) ?_; rw [← HW4.out, HE4.out])
          | fail)
        try simp only [Act.put]
        clear ry3
        go_wp2_with (first
          | (refine wpList_load_mid rfl 39 _ rfl E 0 rfl (XC x) _ rx4 Try.underlying39 rfl Try.size39 ?_)
          | (refine wpList_load_mid rfl 39 _ rfl E4 0 rfl (XC y) _ ry4 Try.underlying39 rfl Try.size39 ?_)
          | fail)
        refine CS.out.mono ?_
        rintro e w5 ⟨rfl, hb5⟩
        have L5 : Hid (Below w.heap.size w w5) := (show Below _ _ _ from BL.out.trans ((L4.out.trans (hb5.mono L4.out.size)).mono BL.out.size))
        clear hb5 CS rx4 ry4
        cases q with
        | true =>
          have HT2 : Hid ((A.take (i + 1)).map plR = (B.take (i + 1)).map plR) := (show _ = _ by rw [HTK.out, HTB.out, HT.out, of_decide_eq_true HQ.out])
          go_wp2_with fail
          go_roundg (n - i)
          case measure => omega
          case rel => exact ⟨i + 1, by omega, by omega, by go_num, HT2, L5⟩
        | false =>
          have HF : Hid (eqX (A.map plR) (B.map plR) = false) := (show _ = _ by
            rw [Bool.eq_false_iff]
            intro e
            have e := eqX_iff.1 e
            have h1 := HGA.out
            rw [e, HGB.out] at h1
            exact of_decide_eq_false HQ.out (Option.some.inj h1).symm)
          go_wp2_with fail
          go_ret
          exact ⟨by rw [HF.out]; rfl, L5.out⟩
      · obtain rfl : i = n := by omega
        have HF : Hid (eqX (A.map plR) (B.map plR) = true) := (show _ = _ by
          refine eqX_iff.2 ?_
          have := HT.out
          rwa [List.take_of_length_le (by rw [HN.out]; exact Nat.le_refl _), List.take_of_length_le (by rw [HNB.out]; exact Nat.le_refl _)] at this)
        have hlt' : ¬ (i : Int) < i := by omega
        go_wp2_with fail
        go_ret
        exact ⟨by rw [HF.out]; rfl, BL.out⟩
  · have hne : ((A.length : Int) != (B.length : Int)) = true := by simp; omega
    have HF : Hid (eqX (A.map plR) (B.map plR) = false) := (show _ = _ by
      rw [Bool.eq_false_iff]
      exact fun e => hlen (by have := congrArg List.length (eqX_iff.1 e); rwa [List.length_map, List.length_map] at this))
    clear hlen
    go_enter Try.func27, Try.ntmps27
    go_wp2_with fail
    go_ret
    exact ⟨by rw [HF.out]; rfl, Below.refl _ _⟩
#print axioms equalF_any
set_option linter.unusedSimpArgs false in
set_option maxHeartbeats 1000000 in
set_option maxRecDepth 100000 in
theorem same16_any {w : World} {p q : Rc} (hp : ROk w p) (hq : ROk w q) : Calls Try.prog 14 #[.agg (RC p).toArray, .agg (RC q).toArray] w fun e w' => e = .returned (.bool (sameB p q)) ∧ Below w.heap.size w w' := by
  obtain ⟨N, HN⟩ : ∃ N, Hid (w.heap.size = N) := ⟨_, rfl⟩
  obtain ⟨w1, hw1⟩ : ∃ z, z = (w.alloc (.cells (RC p).toArray 27 (0, 0))).alloc (.cells (RC q).toArray 27 (0, 0)) := ⟨_, rfl⟩
  obtain ⟨b1, b2, l1⟩ := newB2 HN hw1
  have HW := hide hw1
  have PO := hide (hp.kept l1.out)
  have QO := hide (hq.kept l1.out)
  have CR := hide (equalF_any PO.out.rs QO.out.rs)
  have HCW : Hid (∀ w2, Below w1.heap.size w1 w2 → Calls Try.prog 29 #[wv p, wv q] w2 fun e w' => e = .returned (.bool (decide (p.ws = q.ws))) ∧ Below w2.heap.size w2 w') := (show ∀ w2, _ from fun w2 hb => equalP_any (RdG.kept PO.out.ws hb) (RdG.kept QO.out.ws hb))
  have d0 := b1.out.rses
  have d1 := b1.out.rsnap
  have d2 := b1.out.rst
  have d3 := b1.out.rrs
  have d4 := b1.out.rws
  have f0 := b2.out.rses
  have f1 := b2.out.rsnap
  have f2 := b2.out.rst
  have f3 := b2.out.rrs
  have f4 := b2.out.rws
  have HP : Hid (sameB p q = (decide (p.ses = q.ses) && (decide (p.snap = q.snap) && (decide (p.st = q.st) && (eqX (p.rs.map plR) (q.rs.map plR) && decide (p.ws = q.ws)))))) := (show _ = _ from rfl)
  rw [HP.out]
  unfold rv at d3 f3 CR
  obtain ⟨a1, H1⟩ : ∃ z, Hid (p.ses = z) := ⟨_, rfl⟩
  obtain ⟨a2, H2⟩ : ∃ z, Hid (q.ses = z) := ⟨_, rfl⟩
  obtain ⟨s1, H3⟩ : ∃ z, Hid (p.snap = z) := ⟨_, rfl⟩
  obtain ⟨s2, H4⟩ : ∃ z, Hid (q.snap = z) := ⟨_, rfl⟩
  obtain ⟨t1, H5⟩ : ∃ z, Hid (p.st = z) := ⟨_, rfl⟩
  obtain ⟨t2, H6⟩ : ∃ z, Hid (q.st = z) := ⟨_, rfl⟩
  rw [H1.out] at d0
  rw [H2.out] at f0
  rw [H3.out] at d1
  rw [H4.out] at f1
  rw [H5.out] at d2
  rw [H6.out] at f2
  rw [H1.out, H2.out, H3.out, H4.out, H5.out, H6.out]
  obtain ⟨c1, G1⟩ : ∃ z, Hid (eqX (p.rs.map plR) (q.rs.map plR) = z) := ⟨_, rfl⟩
  obtain ⟨c2, G2⟩ : ∃ z, Hid (decide (p.ws = q.ws) = z) := ⟨_, rfl⟩
  rw [G1.out] at CR
  rw [G2.out] at HCW
  rw [G1.out, G2.out]
  clear hp hq hw1
  by_cases h1 : a1 = a2
  · have q0 : (a1 == a2) = true := by simpa using h1
    by_cases h2 : s1 = s2
    · have q1 : (s1 == s2) = true := by simpa using h2
      by_cases h3 : t1 = t2
      · have q2 : (t1 == t2) = true := by simpa using h3
        go_enter Try.func14, Try.ntmps14
        go_upto_region 1 with fail
        change Code.wp _ _ _ _ ((w.alloc (.cells (RC p).toArray 27 (0, 0))).alloc (.cells (RC q).toArray 27 (0, 0)))
        rw [← HW.out, HN.out]
        go_wp2_with fail
        refine CR.out.mono ?_
        rintro e w2 ⟨rfl, hb2⟩
        have L2 : Hid (Below w.heap.size w w2) := (show Below _ _ _ from l1.out.trans (hb2.mono l1.out.size))
        have CW := hide (HCW.out w2 hb2)
        have d5 := (b1.out.kept hb2).rws
        have f5 := (b2.out.kept hb2).rws
        unfold wv at d5 f5 CW
        clear hb2 CR HCW d0 d1 d2 d3 d4 f0 f1 f2 f3 f4
        cases c1 with
        | false =>
          go_wp2_with fail
          go_ret
          exact ⟨by simp, L2.out⟩
        | true =>
          go_wp2_with fail
          refine CW.out.mono ?_
          rintro e w3 ⟨rfl, hb3⟩
          have L3 : Hid (Below w.heap.size w w3) := (show Below _ _ _ from L2.out.trans (hb3.mono L2.out.size))
          clear hb3 CW
          go_wp2_with fail
          go_ret
          exact ⟨by simp [h1, h2, h3], L3.out⟩
      · have q2 : (t1 == t2) = false := by simpa using h3
        clear CR HCW
        go_enter Try.func14, Try.ntmps14
        go_upto_region 1 with fail
        change Code.wp _ _ _ _ ((w.alloc (.cells (RC p).toArray 27 (0, 0))).alloc (.cells (RC q).toArray 27 (0, 0)))
        rw [← HW.out, HN.out]
        go_wp2_with fail
        go_ret
        exact ⟨by simp [h1, h2, h3], l1.out⟩
    · have q1 : (s1 == s2) = false := by simpa using h2
      clear CR HCW
      go_enter Try.func14, Try.ntmps14
      go_upto_region 1 with fail
      change Code.wp _ _ _ _ ((w.alloc (.cells (RC p).toArray 27 (0, 0))).alloc (.cells (RC q).toArray 27 (0, 0)))
      rw [← HW.out, HN.out]
      go_wp2_with fail
      go_ret
      exact ⟨by simp [h1, h2], l1.out⟩
  · have q0 : (a1 == a2) = false := by simpa using h1
    clear CR HCW
    go_enter Try.func14, Try.ntmps14
    go_upto_region 1 with fail
    change Code.wp _ _ _ _ ((w.alloc (.cells (RC p).toArray 27 (0, 0))).alloc (.cells (RC q).toArray 27 (0, 0)))
    rw [← HW.out, HN.out]
    go_wp2_with fail
    go_ret
    exact ⟨by simp [h1], l1.out⟩
#print axioms same16_any
set_option linter.unusedSimpArgs false in
set_option maxHeartbeats 1000000 in
set_option maxRecDepth 100000 in
theorem same14_any {w : World} {p q : Rc} (hp : ROk w p) (hq : ROk w q) : Calls Try.prog 10 #[.agg (RC p).toArray, .agg (RC q).toArray] w fun e w' => e = .returned (.bool (sameB p q)) ∧ Below w.heap.size w w' := by
  obtain ⟨N, HN⟩ : ∃ N, Hid (w.heap.size = N) := ⟨_, rfl⟩
  obtain ⟨w1, hw1⟩ : ∃ z, z = (w.alloc (.cells (RC p).toArray 27 (0, 0))).alloc (.cells (RC q).toArray 27 (0, 0)) := ⟨_, rfl⟩
  obtain ⟨b1, b2, l1⟩ := newB2 HN hw1
  have HW := hide hw1
  have PO := hide (hp.kept l1.out)
  have QO := hide (hq.kept l1.out)
  have CR := hide (sameX_any PO.out.rs QO.out.rs (eqX (p.rs.map plR) (q.rs.map plR)) eqX_iff)
  have HCW : Hid (∀ w2, Below w1.heap.size w1 w2 → Calls Try.prog 24 #[wv p, wv q] w2 fun e w' => e = .returned (.bool (decide (p.ws = q.ws))) ∧ Below w2.heap.size w2 w') := (show ∀ w2, _ from fun w2 hb => sameR_any (RdG.kept PO.out.ws hb) (RdG.kept QO.out.ws hb))
  have d0 := b1.out.rses
  have d1 := b1.out.rsnap
  have d2 := b1.out.rst
  have d3 := b1.out.rrs
  have d4 := b1.out.rws
  have f0 := b2.out.rses
  have f1 := b2.out.rsnap
  have f2 := b2.out.rst
  have f3 := b2.out.rrs
  have f4 := b2.out.rws
  have HP : Hid (sameB p q = (decide (p.ses = q.ses) && (decide (p.snap = q.snap) && (decide (p.st = q.st) && (eqX (p.rs.map plR) (q.rs.map plR) && decide (p.ws = q.ws)))))) := (show _ = _ from rfl)
  rw [HP.out]
  unfold rv at d3 f3 CR
  obtain ⟨a1, H1⟩ : ∃ z, Hid (p.ses = z) := ⟨_, rfl⟩
  obtain ⟨a2, H2⟩ : ∃ z, Hid (q.ses = z) := ⟨_, rfl⟩
  obtain ⟨s1, H3⟩ : ∃ z, Hid (p.snap = z) := ⟨_, rfl⟩
  obtain ⟨s2, H4⟩ : ∃ z, Hid (q.snap = z) := ⟨_, rfl⟩
  obtain ⟨t1, H5⟩ : ∃ z, Hid (p.st = z) := ⟨_, rfl⟩
  obtain ⟨t2, H6⟩ : ∃ z, Hid (q.st = z) := ⟨_, rfl⟩
  rw [H1.out] at d0
  rw [H2.out] at f0
  rw [H3.out] at d1
  rw [H4.out] at f1
  rw [H5.out] at d2
  rw [H6.out] at f2
  rw [H1.out, H2.out, H3.out, H4.out, H5.out, H6.out]
  obtain ⟨c1, G1⟩ : ∃ z, Hid (eqX (p.rs.map plR) (q.rs.map plR) = z) := ⟨_, rfl⟩
  obtain ⟨c2, G2⟩ : ∃ z, Hid (decide (p.ws = q.ws) = z) := ⟨_, rfl⟩
  rw [G1.out] at CR
  rw [G2.out] at HCW
  rw [G1.out, G2.out]
  clear hp hq hw1
  by_cases h1 : a1 = a2
  · have q0 : (a1 == a2) = true := by simpa using h1
    by_cases h2 : s1 = s2
    · have q1 : (s1 == s2) = true := by simpa using h2
      by_cases h3 : t1 = t2
      · have q2 : (t1 == t2) = true := by simpa using h3
        go_enter Try.func10, Try.ntmps10
        go_upto_region 1 with fail
        change Code.wp _ _ _ _ ((w.alloc (.cells (RC p).toArray 27 (0, 0))).alloc (.cells (RC q).toArray 27 (0, 0)))
        rw [← HW.out, HN.out]
        go_wp2_with fail
        refine CR.out.mono ?_
        rintro e w2 ⟨rfl, hb2⟩
        have L2 : Hid (Below w.heap.size w w2) := (show Below _ _ _ from l1.out.trans (hb2.mono l1.out.size))
        have CW := hide (HCW.out w2 hb2)
        have d5 := (b1.out.kept hb2).rws
        have f5 := (b2.out.kept hb2).rws
        unfold wv at d5 f5 CW
        clear hb2 CR HCW d0 d1 d2 d3 d4 f0 f1 f2 f3 f4
        cases c1 with
        | false =>
          go_wp2_with fail
          go_ret
          exact ⟨by simp, L2.out⟩
        | true =>
          go_wp2_with fail
          refine CW.out.mono ?_
          rintro e w3 ⟨rfl, hb3⟩
          have L3 : Hid (Below w.heap.size w w3) := (show Below _ _ _ from L2.out.trans (hb3.mono L2.out.size))
          clear hb3 CW
          go_wp2_with fail
          go_ret
          exact ⟨by simp [h1, h2, h3], L3.out⟩
      · have q2 : (t1 == t2) = false := by simpa using h3
        clear CR HCW
        go_enter Try.func10, Try.ntmps10
        go_upto_region 1 with fail
        change Code.wp _ _ _ _ ((w.alloc (.cells (RC p).toArray 27 (0, 0))).alloc (.cells (RC q).toArray 27 (0, 0)))
        rw [← HW.out, HN.out]
        go_wp2_with fail
        go_ret
        exact ⟨by simp [h1, h2, h3], l1.out⟩
    · have q1 : (s1 == s2) = false := by simpa using h2
      clear CR HCW
      go_enter Try.func10, Try.ntmps10
      go_upto_region 1 with fail
      change Code.wp _ _ _ _ ((w.alloc (.cells (RC p).toArray 27 (0, 0))).alloc (.cells (RC q).toArray 27 (0, 0)))
      rw [← HW.out, HN.out]
      go_wp2_with fail
      go_ret
      exact ⟨by simp [h1, h2], l1.out⟩
  · have q0 : (a1 == a2) = false := by simpa using h1
    clear CR HCW
    go_enter Try.func10, Try.ntmps10
    go_upto_region 1 with fail
    change Code.wp _ _ _ _ ((w.alloc (.cells (RC p).toArray 27 (0, 0))).alloc (.cells (RC q).toArray 27 (0, 0)))
    rw [← HW.out, HN.out]
    go_wp2_with fail
    go_ret
    exact ⟨by simp [h1], l1.out⟩
#print axioms same14_any
end Go.Proofs.Ytmicmbjbclkbjaa
