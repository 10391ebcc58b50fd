/-
  The document's right: what the call does.
-/
import Derived.Test.YtmicmbjbclkbjaaDoorRcC
namespace Go.Proofs.YtmicmbjbclkbjaaDoor
open Go.RowKit
/-- Do two reads ask for the same key alone? -/
def conf (x y : Rp) : Bool := !x.1 && (!y.1 && (x.2.1.toList == y.2.1.toList))
theorem apK_iff : ∀ {l R : List Rp}, apK R l = true ↔ ∀ i (h : i < l.length), (l[i].1 || !seenK (R ++ l.take i) l[i].2.1) = true
  | [], R => by simp [apK]
  | x :: l, R => by
    rw [apK, Bool.and_eq_true, apK_iff (l := l)]
    constructor
    · rintro ⟨h1, h2⟩ i hi
      cases i with
      | zero => simpa using h1
      | succ i =>
        have := h2 i (by simpa using hi)
        simpa [List.append_assoc] using this
    · intro h
      refine ⟨by have h0 := h 0 (by simp); simp only [List.getElem_cons_zero, List.take_zero, List.append_nil] at h0; exact h0, fun i hi => ?_⟩
      have := h (i + 1) (by simpa using hi)
      simpa [List.append_assoc] using this
theorem conf_seen {L : List Rp} {x : Rp} {i : Nat} (hi : i ≤ L.length) (h : ∀ j (hj : j < L.length), j < i → conf x L[j] = false) : (x.1 || !seenK (L.take i) x.2.1) = true := by
  cases hx : x.1 with
  | true => rfl
  | false =>
    rw [Bool.false_or, Bool.not_eq_true']
    unfold seenK
    rw [List.any_eq_false]
    intro y hy
    obtain ⟨j, hj, e⟩ := List.getElem_of_mem hy
    have hj' : j < i := by rw [List.length_take] at hj; omega
    have h2 := h j (by omega) hj'
    rw [List.getElem_take] at e
    rw [e] at h2
    unfold conf at h2
    rw [hx, Bool.not_false, Bool.true_and] at h2
    have hc : (x.2.1.toList == y.2.1.toList) = (y.2.1.toList == x.2.1.toList) := by rw [Bool.eq_iff_iff, beq_iff_eq, beq_iff_eq]; exact ⟨Eq.symm, Eq.symm⟩
    rw [hc] at h2
    rw [h2]
    simp
theorem rs_all {L : List Rp} (h : ∀ i (hi : i < L.length), noRd L[i] = false ∧ (L[i].1 || !seenK (L.take i) L[i].2.1) = true) : (!(L.any noRd) && apK [] L) = true := by
  rw [Bool.and_eq_true, Bool.not_eq_true', List.any_eq_false, apK_iff]
  refine ⟨fun x hx => ?_, fun i hi => by simpa using (h i hi).2⟩
  obtain ⟨j, hj, e⟩ := List.getElem_of_mem hx
  rw [← e, (h j hj).1]
  simp
theorem rs_no1 {L : List Rp} {i : Nat} (hi : i < L.length) (h : noRd L[i] = true) : (!(L.any noRd) && apK [] L) = false := by
  rw [List.any_eq_true.2 ⟨_, List.getElem_mem hi, h⟩]
  rfl
theorem rs_no2 {L : List Rp} {i j : Nat} (hi : i < L.length) (hj : j < i) (h : conf L[i] (L[j]'(by omega)) = true) : (!(L.any noRd) && apK [] L) = false := by
  cases ha : apK [] L with
  | false => rw [Bool.and_false]
  | true =>
    exfalso
    have h2 := apK_iff.1 ha i hi
    unfold conf at h
    simp only [Bool.and_eq_true, Bool.not_eq_true', beq_iff_eq] at h
    obtain ⟨h3, h4, h5⟩ := h
    rw [h3, Bool.false_or, List.nil_append, Bool.not_eq_true'] at h2
    unfold seenK at h2
    rw [List.any_eq_false] at h2
    have hm : L[j]'(by omega) ∈ L.take i := by
      have hl : j < (L.take i).length := by rw [List.length_take]; omega
      have := List.getElem_mem hl
      rwa [List.getElem_take] at this
    have := h2 _ hm
    rw [h4, h5] at this
    simp at this
set_option maxHeartbeats 8000000 in
set_option maxRecDepth 100000 in
theorem kright_any {w : World} {r : Rc} (hr : ROk w r) : Calls Tryd.prog 21 #[.agg (RC r).toArray] w fun e w' => e = .returned (.bool (soundP r)) ∧ Below w.heap.size w w' := by
  obtain ⟨N, HN⟩ : ∃ N, Hid (w.heap.size = N) := ⟨_, rfl⟩
  obtain ⟨w1, hw1⟩ : ∃ y, y = w.alloc (.cells (RC r).toArray 25 (0, 0)) := ⟨_, rfl⟩
  obtain ⟨b1, l1⟩ := newB HN hw1
  have HW := hide hw1
  obtain ⟨R, HRq⟩ : ∃ z, Hid (soundP r = z) := ⟨_, rfl⟩
  rw [HRq.out]
  obtain ⟨ses, snap, st, Rs, Ws, ra, rc, wa, wc⟩ := r
  obtain ⟨n, Hn⟩ : ∃ z, Hid (Rs.length = z) := ⟨_, rfl⟩
  obtain ⟨m, Hm⟩ : ∃ z, Hid (Ws.length = z) := ⟨_, rfl⟩
  obtain ⟨Z, HZ⟩ : ∃ z, Hid ((!((Rs.map plR).any noRd) && apK [] (Rs.map plR)) = z) := ⟨_, rfl⟩
  obtain ⟨g, Hg⟩ : ∃ z, Hid (goodP em Ws = z) := ⟨_, rfl⟩
  have HQ : Hid ((decide (1 ≤ ses) && (decide (ses ≤ 8) && (decide (0 ≤ snap) && (decide (snap ≤ 1099511627776) && ((decide (n ≤ 64) && Z) && (decide (m ≤ 64) && g)))))) = R) := (show _ = _ by
    rw [← HRq.out, ← HZ.out, ← Hg.out, ← Hn.out, ← Hm.out]
    unfold soundP rsP wsP
    simp only [List.length_map])
  have HRV : Hid (RC ⟨ses, snap, st, Rs, Ws, ra, rc, wa, wc⟩ = [.int .i64 ses, .int .i64 snap, .bool st, .slice ra n rc, .slice wa m wc]) := (show _ = _ by unfold RC; simp only [Hn.out, Hm.out])
  have HXR : Hid (RdX w1 (.slice ra n rc) Rs) := (show RdX _ _ _ by have h := (hr.kept l1.out).rs; unfold rv at h; rwa [Hn.out] at h)
  have HXW : Hid (RdG PE w1 (.slice wa m wc) Ws) := (show RdG _ _ _ _ by have h := (hr.kept l1.out).ws; unfold wv at h; rwa [Hm.out] at h)
  have b1' := b1.out
  rw [HRV.out] at b1' HW hw1 ⊢
  clear b1 hr HRq
  have b1 := hide b1'
  clear b1' hw1
  have d0 := b1.out.cell (j := 0) rfl
  have d1 := b1.out.cell (j := 1) rfl
  have d3 := b1.out.cell (j := 3) rfl
  have d4 := b1.out.cell (j := 4) rfl
  have CG := hide (vGood_any HXW.out)
  rw [Hg.out] at CG
  go_enter Tryd.func21, Tryd.ntmps21
  go_upto_region 1 with fail
  change Code.wp _ _ _ _ (w.alloc (.cells #[.int .i64 ses, .int .i64 snap, .bool st, .slice ra n rc, .slice wa m wc] 25 (0, 0)))
  rw [show w.alloc (.cells #[.int .i64 ses, .int .i64 snap, .bool st, .slice ra n rc, .slice wa m wc] 25 (0, 0)) = w1 from HW.out.symm, HN.out]
  by_cases h1 : ses < 1
  · have qh1 : decide (ses < 1) = true := decide_eq_true (by omega)
    go_wp2_with fail
    go_ret
    exact ⟨by rw [← HQ.out]; simp [show ¬ (1 ≤ ses) by omega], l1.out⟩
  have qh1 : decide (ses < 1) = false := decide_eq_false (by omega)
  by_cases h2 : 8 < ses
  · have qh2 : decide (8 < ses) = true := decide_eq_true (by omega)
    go_wp2_with fail
    go_ret
    exact ⟨by rw [← HQ.out]; simp [show ¬ (ses ≤ 8) by omega], l1.out⟩
  have qh2 : decide (8 < ses) = false := decide_eq_false (by omega)
  by_cases h3 : snap < 0
  · have qh3 : decide (snap < 0) = true := decide_eq_true (by omega)
    go_wp2_with fail
    go_ret
    exact ⟨by rw [← HQ.out]; simp [show ¬ (0 ≤ snap) by omega], l1.out⟩
  have qh3 : decide (snap < 0) = false := decide_eq_false (by omega)
  by_cases h4 : 1099511627776 < snap
  · have qh4 : decide (1099511627776 < snap) = true := decide_eq_true (by omega)
    go_wp2_with fail
    go_ret
    exact ⟨by rw [← HQ.out]; simp [show ¬ (snap ≤ 1099511627776) by omega], l1.out⟩
  have qh4 : decide (1099511627776 < snap) = false := decide_eq_false (by omega)
  by_cases h5 : 64 < n
  · have qh5 : decide ((64 : Int) < (n : Int)) = true := decide_eq_true (by omega)
    go_wp2_with fail
    go_ret
    exact ⟨by rw [← HQ.out]; simp [show ¬ (n ≤ 64) by omega], l1.out⟩
  have qh5 : decide ((64 : Int) < (n : Int)) = false := decide_eq_false (by omega)
  by_cases h6 : 64 < m
  · have qh6 : decide ((64 : Int) < (m : Int)) = true := decide_eq_true (by omega)
    go_wp2_with fail
    go_ret
    exact ⟨by rw [← HQ.out]; simp [show ¬ (m ≤ 64) by omega], l1.out⟩
  have qh6 : decide ((64 : Int) < (m : Int)) = false := decide_eq_false (by omega)
  go_wp2_with fail
  refine CG.out.mono ?_
  rintro e w2 ⟨rfl, hb2⟩
  have L2 : Hid (Below w1.heap.size w1 w2) := (show Below _ _ _ from hb2)
  clear hb2 CG d0 d1 d3 d4
  have HQ2 : Hid ((Z && g) = R) := (show _ = _ by rw [← HQ.out]; simp [show 1 ≤ ses by omega, show ses ≤ 8 by omega, show 0 ≤ snap by omega, show snap ≤ 1099511627776 by omega, show n ≤ 64 by omega, show m ≤ 64 by omega])
  clear HQ
  cases g with
  | false =>
    go_wp2_with fail
    go_ret
    exact ⟨by rw [← HQ2.out]; simp, l1.out.trans (L2.out.mono l1.out.size)⟩
  | true =>
    have HQ3 : Hid (Z = R) := (show _ = _ by rw [← HQ2.out, Bool.and_true])
    clear HQ2
    have B2 := hide (b1.out.kept L2.out)
    have d3 := B2.out.cell (j := 3) rfl
    go_wp2_with fail
    clear d3
    have L0 := L2
    go_loopg [46] (n + 1) (fun g z wr => ∃ i : Nat, i ≤ n ∧ g + i = n + 1 ∧ z = .int .i64 (i : Int) ∧ Hid (∀ j (hj : j < (Rs.map plR).length), j < i → noRd (Rs.map plR)[j] = false ∧ ((Rs.map plR)[j].1 || !seenK ((Rs.map plR).take j) (Rs.map plR)[j].2.1) = true) ∧ Hid (Below w1.heap.size w1 wr))
    case atStart => exact ⟨0, Nat.zero_le _, by omega, rfl, (show ∀ j (hj : j < (Rs.map plR).length), _ from fun j hj h => by omega), L0⟩
    case round =>
      clear L0 L2 B2
      obtain ⟨i, hi, hg, rfl, HT, LR⟩ := hrel
      by_cases hlt : i < n
      · have hlt2 : i < Rs.length := by rw [Hn.out]; exact hlt
        have hltM : i < (Rs.map plR).length := by rw [List.length_map]; exact hlt2
        have RX := HXR.out.kept LR.out
        have hcapi : (i : Int) ≤ (rc : Int) := by have := RX.rd.cap; omega
        obtain ⟨bb, off, rfl, hb1, hx⟩ := RX.rd.nth (by omega)
        have hrow : wr.rangeAt bb (off + i * 4) (XC Rs[i]) := hx i hlt2
        have hxo := RX.ps Rs[i] (List.getElem_mem hlt2)
        have hlt' : (i : Int) < (n : Int) := by omega
        obtain ⟨x, HX⟩ : ∃ p, Hid (Rs[i] = p) := ⟨Rs[i], (show Rs[i] = Rs[i] from rfl)⟩
        rw [HX.out] at hrow hxo
        have HXM : Hid ((Rs.map plR)[i] = plR x) := (show _ = _ by rw [List.getElem_map, HX.out])
        obtain ⟨E, HEq⟩ : ∃ E, Hid (wr.heap.size = E) := ⟨_, rfl⟩
        obtain ⟨w6, hw6⟩ : ∃ y, y = wr.alloc (.cells (XC x).toArray 46 (0, 0)) := ⟨_, rfl⟩
        obtain ⟨b6, l6⟩ := newB HEq hw6
        have HW6 := hide hw6
        have L6 : Hid (Below w1.heap.size w1 w6) := (show Below _ _ _ from LR.out.trans (l6.out.mono LR.out.size))
        have CR := hide (kgoodRead_any (XOk.kept hxo l6.out))
        have rk := b6.out.range0
        obtain ⟨q, Hq⟩ : ∃ z, Hid (noRd (plR x) = z) := ⟨_, rfl⟩
        rw [Hq.out] at CR
        clear hx hw6 hb1 RX hxo
        go_upto_region 6 with (first
          | (refine wpList_load_mid rfl 46 _ rfl bb (off + i * 4) rfl (XC x) _ hrow Tryd.underlying46 rfl Tryd.size46 ?_)
          | (refine wpList_store_new rfl 46 _ _ rfl wr _ (XC x).toArray _ rfl rfl rfl Tryd.size46 rfl (all_one (XC_one x)) ?_; rw [← HW6.out, HEq.out])
          | fail)
        try simp only [Act.put]
        clear hrow
        go_wp2_with (first
          | (refine wpList_load_mid rfl 46 _ rfl E 0 rfl (XC x) _ rk Tryd.underlying46 rfl Tryd.size46 ?_)
          | fail)
        refine CR.out.mono ?_
        rintro e w7 ⟨rfl, hb7⟩
        have L7 : Hid (Below w1.heap.size w1 w7) := (show Below _ _ _ from L6.out.trans (hb7.mono L6.out.size))
        have B67 := hide (b6.out.kept hb7)
        clear hb7 CR rk
        cases q with
        | true =>
          go_wp2_with fail
          go_ret
          exact ⟨by rw [← HQ3.out, ← HZ.out, rs_no1 hltM (by rw [HXM.out, Hq.out])]; rfl, l1.out.trans (L7.out.mono l1.out.size)⟩
        | false =>
          have B7 := hide (b1.out.kept L7.out)
          have d3 := B7.out.cell (j := 3) rfl
          have hi0 : (0 : Int) ≤ (i : Int) := by omega
          go_wp2_with fail
          clear d3
          have L0 := L7
          go_loopg [59] (i + 1) (fun g z wr => ∃ j : Nat, j ≤ i ∧ g + j = i + 1 ∧ z = .int .i64 (j : Int) ∧ Hid (∀ k (hk : k < (Rs.map plR).length), k < j → conf (plR x) (Rs.map plR)[k] = false) ∧ Hid (Blk wr E 46 (XC x)) ∧ Hid (Below w1.heap.size w1 wr))
          case atStart => exact ⟨0, Nat.zero_le _, by omega, rfl, (show ∀ k (hk : k < (Rs.map plR).length), _ from fun j hj h => by omega), B67, L0⟩
          case round =>
            clear L0 L6 L7 b6 l6 B67 B7 LR
            obtain ⟨j, hj, hgj, rfl, HC, BE, LS⟩ := hrel
            by_cases hltj : j < i
            · have hlj2 : j < Rs.length := by rw [Hn.out]; omega
              have RX := HXR.out.kept LS.out
              obtain ⟨bb2, off2, he2, hb1, hx⟩ := RX.rd.nth (by omega)
              cases he2
              have hrow : wr.rangeAt bb (off + j * 4) (XC Rs[j]) := hx j hlj2
              have hlt'j : (j : Int) < (i : Int) := by omega
              obtain ⟨y, HY⟩ : ∃ p, Hid (Rs[j] = p) := ⟨Rs[j], (show Rs[j] = Rs[j] from rfl)⟩
              rw [HY.out] at hrow
              have HYM : Hid ((Rs.map plR)[j]'(by rw [List.length_map]; exact hlj2) = plR y) := (show _ = _ by rw [List.getElem_map, HY.out])
              obtain ⟨G, HGq⟩ : ∃ E, Hid (wr.heap.size = E) := ⟨_, rfl⟩
              obtain ⟨w6, hw6⟩ : ∃ z, z = wr.alloc (.cells (XC y).toArray 46 (0, 0)) := ⟨_, rfl⟩
              obtain ⟨b6, l6⟩ := newB HGq hw6
              have HW6 := hide hw6
              have L6 : Hid (Below w1.heap.size w1 w6) := (show Below _ _ _ from LS.out.trans (l6.out.mono LS.out.size))
              have BE6 := hide (BE.out.kept l6.out)
              have e0 := BE6.out.xsc
              have e1 := BE6.out.xk
              have f0 := b6.out.xsc
              have f1 := b6.out.xk
              have HCF : Hid (conf (plR x) (plR y) = (!x.sc && (!y.sc && (x.k.toList == y.k.toList)))) := (show _ = _ from rfl)
              obtain ⟨xs, Hxs⟩ : ∃ z, Hid (x.sc = z) := ⟨_, rfl⟩
              obtain ⟨ys, Hys⟩ : ∃ z, Hid (y.sc = z) := ⟨_, rfl⟩
              obtain ⟨xk, Hxk⟩ : ∃ z, Hid (x.k = z) := ⟨_, rfl⟩
              obtain ⟨yk, Hyk⟩ : ∃ z, Hid (y.k = z) := ⟨_, rfl⟩
              rw [Hxs.out, Hys.out, Hxk.out, Hyk.out] at HCF
              rw [Hxs.out] at e0
              rw [Hys.out] at f0
              rw [Hxk.out] at e1
              rw [Hyk.out] at f1
              obtain ⟨c, HCc⟩ : ∃ z, (xk.toList == yk.toList) = z := ⟨_, rfl⟩
              rw [HCc] at HCF
              clear hx hw6 hb1 RX
              go_upto_region 11 with (first
                | (refine wpList_load_mid rfl 46 _ rfl bb (off + j * 4) rfl (XC y) _ hrow Tryd.underlying46 rfl Tryd.size46 ?_)
                | (refine wpList_store_new rfl 46 _ _ rfl wr _ (XC y).toArray _ rfl rfl rfl Tryd.size46 rfl (all_one (XC_one y)) ?_; rw [← HW6.out, HGq.out])
                | fail)
              try simp only [Act.put]
              clear hrow
              cases xs with
              | true =>
                have HCN : Hid (conf (plR x) (plR y) = false) := (show _ = _ by rw [HCF.out]; rfl)
                go_wp2_with fail
                go_roundg (i - j)
                case measure => omega
                case rel => exact ⟨j + 1, by omega, by omega, by go_num, (show ∀ k (hk : k < (Rs.map plR).length), _ from fun k hk hkj => by
                  by_cases e : k = j
                  · subst e
                    rw [HYM.out]
                    exact HCN.out
                  · exact HC.out k hk (by omega)), BE6, L6⟩
              | false =>
                cases ys with
                | true =>
                  have HCN : Hid (conf (plR x) (plR y) = false) := (show _ = _ by rw [HCF.out]; rfl)
                  go_wp2_with fail
                  go_roundg (i - j)
                  case measure => omega
                  case rel => exact ⟨j + 1, by omega, by omega, by go_num, (show ∀ k (hk : k < (Rs.map plR).length), _ from fun k hk hkj => by
                    by_cases e : k = j
                    · subst e
                      rw [HYM.out]
                      exact HCN.out
                    · exact HC.out k hk (by omega)), BE6, L6⟩
                | false =>
                  cases c with
                  | false =>
                    have HCN : Hid (conf (plR x) (plR y) = false) := (show _ = _ by rw [HCF.out]; rfl)
                    go_wp2_with fail
                    go_roundg (i - j)
                    case measure => omega
                    case rel => exact ⟨j + 1, by omega, by omega, by go_num, (show ∀ k (hk : k < (Rs.map plR).length), _ from fun k hk hkj => by
                      by_cases e : k = j
                      · subst e
                        rw [HYM.out]
                        exact HCN.out
                      · exact HC.out k hk (by omega)), BE6, L6⟩
                  | true =>
                    have HCN : Hid (conf (plR x) (plR y) = true) := (show _ = _ by rw [HCF.out]; rfl)
                    go_wp2_with fail
                    go_ret
                    exact ⟨by rw [← HQ3.out, ← HZ.out, rs_no2 hltM hltj (by rw [HXM.out, HYM.out]; exact HCN.out)]; rfl, l1.out.trans (L6.out.mono l1.out.size)⟩
            · obtain rfl : j = i := by omega
              have hlt'j : ¬ (j : Int) < j := by omega
              have HSN := hide (conf_seen (x := plR x) (i := j) (by omega) HC.out)
              go_wp2_with fail
              go_roundg (n - j)
              case measure => omega
              case rel => exact ⟨j + 1, by omega, by omega, by go_num, (show ∀ k (hk : k < (Rs.map plR).length), _ from fun k hk hkj => by
                by_cases e : k = j
                · subst e
                  rw [HXM.out]
                  exact ⟨Hq.out, HSN.out⟩
                · exact HT.out k hk (by omega)), LS⟩
      · obtain rfl : i = n := by omega
        have hlt' : ¬ (i : Int) < i := by omega
        have HAN : Hid (Z = true) := (show _ = _ by rw [← HZ.out]; exact rs_all fun k hk => HT.out k hk (by rw [List.length_map, Hn.out] at hk; exact hk))
        have HR1 : Hid (R = true) := (show _ = _ by rw [← HQ3.out, HAN.out])
        go_wp2_with fail
        go_ret
        exact ⟨by rw [HR1.out]; rfl, l1.out.trans (LR.out.mono l1.out.size)⟩
#print axioms kright_any
end Go.Proofs.YtmicmbjbclkbjaaDoor
