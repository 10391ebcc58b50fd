/-
  The document's goodRead: what the call does.
-/
import Derived.Test.YtmicmbjbclkbjaaDoorRcV
import Derived.Test.YtmicmbjbclkbjaaDoorRcK
namespace Go.Proofs.YtmicmbjbclkbjaaDoor
open Go.RowKit
def goodQ (x : Rp) : Bool := decide (x.2.1.size ≤ 64) && (decide (x.2.2.1.size ≤ 64) && (decide (x.2.2.2.length ≤ 200) && (goodP em x.2.2.2 && (!(x.2.2.2.any (wrongP x)) && (x.1 || (decide (0 < x.2.1.size) && (x.2.2.1.toList.isEmpty && decide (x.2.2.2.length ≤ 1))))))))
theorem goodQ_eq (x : Rp) : goodQ x = !noRd x := by
  obtain ⟨s, k, t, ps⟩ := x
  have hz : t.toList.isEmpty = true → t.size = 0 := fun h => by
    rw [List.isEmpty_iff] at h
    have := size_list t
    rw [h] at this
    simpa using this.symm
  rw [Bool.eq_iff_iff]
  unfold goodQ noRd thereP
  cases s with
  | true =>
    simp only [if_true, Bool.true_or, Bool.and_true, Bool.not_or, Bool.not_not, Bool.and_eq_true, decide_eq_true_eq, Bool.not_eq_true', decide_eq_false_iff_not]
    constructor
    · rintro ⟨h1, h2, h3, h4, h5⟩
      exact ⟨by omega, by omega, h3, h4, h5⟩
    · rintro ⟨h1, h2, h3, h4, h5⟩
      exact ⟨by omega, by omega, h3, h4, h5⟩
  | false =>
    simp only [Bool.false_eq_true, if_false, Bool.false_or, Bool.not_or, Bool.not_not, Bool.and_eq_true, decide_eq_true_eq, Bool.not_eq_true', decide_eq_false_iff_not]
    constructor
    · rintro ⟨h1, h2, h3, h4, h5, h6, h7, h8⟩
      exact ⟨by omega, by omega, h7, h8, h4, h5⟩
    · rintro ⟨h1, h2, h7, h8, h4, h5⟩
      have := hz h7
      exact ⟨by omega, by omega, by omega, h4, h5, by omega, h7, h8⟩
theorem any_no {x : Rp} {L : List Pr} (h : ∀ j (hj : j < L.length), wrongP x L[j] = false) : L.any (wrongP x) = false := by
  rw [List.any_eq_false]
  intro p hp
  obtain ⟨j, hj, e⟩ := List.getElem_of_mem hp
  rw [← e, h j hj]
  simp
theorem any_yes {x : Rp} {L : List Pr} {j : Nat} (hj : j < L.length) (h : wrongP x L[j] = true) : L.any (wrongP x) = true := List.any_eq_true.2 ⟨_, List.getElem_mem hj, h⟩
set_option maxHeartbeats 4000000 in
set_option maxRecDepth 100000 in
theorem kgoodRead_any {w : World} {x : Rz} (hx : XOk w x) : Calls Tryd.prog 41 #[.agg (XC x).toArray] w fun e w' => e = .returned (.bool (!noRd (plR x))) ∧ Below w.heap.size w w' := by
  obtain ⟨N, HN⟩ : ∃ N, Hid (w.heap.size = N) := ⟨_, rfl⟩
  obtain ⟨w1, hw1⟩ : ∃ y, y = w.alloc (.cells (XC x).toArray 46 (0, 0)) := ⟨_, rfl⟩
  obtain ⟨b1, l1⟩ := newB HN hw1
  have HW := hide hw1
  have HXO : Hid (RdG PE w1 (xv x) x.ps) := (show RdG _ _ _ _ from RdG.kept hx l1.out)
  obtain ⟨R, HRq⟩ : ∃ z, Hid ((!noRd (plR x)) = z) := ⟨_, rfl⟩
  rw [HRq.out]
  have HQ : Hid (goodQ (plR x) = R) := (show _ = _ by rw [goodQ_eq, HRq.out])
  obtain ⟨PX, HPX⟩ : ∃ z, Hid (plR x = z) := ⟨_, rfl⟩
  obtain ⟨s, k, t, ps, ha, hc⟩ := x
  have HE : Hid (PX = (s, k, t, ps)) := (show _ = _ from HPX.out.symm)
  rw [HPX.out] at HQ
  obtain ⟨n, Hn⟩ : ∃ z, Hid (ps.length = z) := ⟨_, rfl⟩
  have HQ2 : Hid ((decide (k.size ≤ 64) && (decide (t.size ≤ 64) && (decide (n ≤ 200) && (goodP em ps && (!(ps.any (wrongP PX)) && (s || (decide (0 < k.size) && (t.toList.isEmpty && decide (n ≤ 1))))))))) = R) := (show _ = _ by rw [← HQ.out, ← Hn.out, HE.out]; rfl)
  clear HRq HQ HPX hx
  have b1' := b1.out
  have HXV : Hid (XC ⟨s, k, t, ps, ha, hc⟩ = [.bool s, .string k, .string t, .slice ha n hc]) := (show _ = _ by unfold XC; simp only [Hn.out])
  have HXO' : RdG PE w1 (.slice ha n hc) ps := by have h := HXO.out; unfold xv at h; rwa [Hn.out] at h
  rw [HXV.out] at b1' HW hw1 ⊢
  clear b1 HXO
  have HXO := hide HXO'
  have b1 := hide b1'
  clear HXO' b1'
  have d0 := b1.out.cell (j := 0) rfl
  have d1 := b1.out.cell (j := 1) rfl
  have d2 := b1.out.cell (j := 2) rfl
  have d3 := b1.out.cell (j := 3) rfl
  have CG := hide (vGood_any HXO.out)
  obtain ⟨g, Hg⟩ : ∃ z, Hid (goodP em ps = z) := ⟨_, rfl⟩
  rw [Hg.out] at CG HQ2
  have hsl := slt
  have hsg := sge
  clear hw1
  go_enter Tryd.func41, Tryd.ntmps41
  go_upto_region 1 with fail
  change Code.wp _ _ _ _ (w.alloc (.cells #[.bool s, .string k, .string t, .slice ha n hc] 46 (0, 0)))
  rw [show w.alloc (.cells #[.bool s, .string k, .string t, .slice ha n hc] 46 (0, 0)) = w1 from HW.out.symm, HN.out]
  by_cases h1 : 64 < k.size
  · have q1 : decide ((64 : Int) < (k.size : Int)) = true := by simp; omega
    go_wp2_with fail
    go_ret
    exact ⟨by rw [← HQ2.out]; simp [show ¬ k.size ≤ 64 by omega], l1.out⟩
  have q1 : decide ((64 : Int) < (k.size : Int)) = false := by simp; omega
  by_cases h2 : 64 < t.size
  · have q2 : decide ((64 : Int) < (t.size : Int)) = true := by simp; omega
    go_wp2_with fail
    go_ret
    exact ⟨by rw [← HQ2.out]; simp [show ¬ t.size ≤ 64 by omega], l1.out⟩
  have q2 : decide ((64 : Int) < (t.size : Int)) = false := by simp; omega
  by_cases h3 : 200 < n
  · have q3 : decide ((200 : Int) < (n : Int)) = true := by simp; omega
    go_wp2_with fail
    go_ret
    exact ⟨by rw [← HQ2.out]; simp [show ¬ n ≤ 200 by omega], l1.out⟩
  have q3 : decide ((200 : Int) < (n : Int)) = false := by simp; omega
  go_wp2_with fail
  refine CG.out.mono ?_
  rintro e w2 ⟨rfl, hb2⟩
  have L2 : Hid (Below w1.heap.size w1 w2) := (show Below _ _ _ from hb2)
  clear hb2 CG d0 d1 d2 d3
  cases g with
  | false =>
    go_wp2_with fail
    go_ret
    exact ⟨by rw [← HQ2.out]; simp, l1.out.trans (L2.out.mono l1.out.size)⟩
  | true =>
    have HQ3 : Hid ((!(ps.any (wrongP PX)) && (s || (decide (0 < k.size) && (t.toList.isEmpty && decide (n ≤ 1))))) = R) := (show _ = _ by rw [← HQ2.out]; simp [show k.size ≤ 64 by omega, show t.size ≤ 64 by omega, show n ≤ 200 by omega])
    clear HQ2
    have B2 := hide (b1.out.kept L2.out)
    have d3 := B2.out.cell (j := 3) rfl
    go_wp2_with fail
    clear d3
    have L0 := L2
    go_loopg [30] (n + 1) (fun g z wr => ∃ i : Nat, i ≤ n ∧ g + i = n + 1 ∧ z = .int .i64 (i : Int) ∧ Hid (∀ j (hj : j < ps.length), j < i → wrongP PX ps[j] = false) ∧ Hid (Below w1.heap.size w1 wr))
    case atStart => exact ⟨0, Nat.zero_le _, by omega, rfl, (show ∀ j (hj : j < ps.length), _ from fun j hj h => by omega), L0⟩
    case round =>
      clear L0 L2 B2
      obtain ⟨i, hi, hg, rfl, HT, LR⟩ := hrel
      by_cases hlt : i < n
      · have hlt2 : i < ps.length := by rw [Hn.out]; exact hlt
        obtain ⟨bb, off, rfl, hb1, hx⟩ := (HXO.out.kept LR.out).nth (by omega)
        have hrow : wr.rangeAt bb (off + i * 3) (PC ps[i]) := hx i hlt2
        have hlt' : (i : Int) < (n : Int) := by omega
        obtain ⟨p, HP⟩ : ∃ p, Hid (ps[i] = p) := ⟨ps[i], (show ps[i] = ps[i] from rfl)⟩
        rw [HP.out] at hrow
        obtain ⟨E, HEq⟩ : ∃ E, Hid (wr.heap.size = E) := ⟨_, rfl⟩
        obtain ⟨w6, hw6⟩ : ∃ y, y = wr.alloc (.cells (PC p).toArray 43 (0, 0)) := ⟨_, rfl⟩
        obtain ⟨b6, l6⟩ := newB HEq hw6
        have HW6 := hide hw6
        have L6 : Hid (Below w1.heap.size w1 w6) := (show Below _ _ _ from LR.out.trans (l6.out.mono LR.out.size))
        have B6 := hide (b1.out.kept L6.out)
        have HWP : Hid (wrongP PX p = (p.2.2 || (if s = true then (lt p.1 k || !lt p.1 t) else !(p.1.toList == k.toList)))) := (show _ = _ by rw [HE.out]; rfl)
        obtain ⟨q, Hq⟩ : ∃ z, Hid (wrongP PX p = z) := ⟨_, rfl⟩
        rw [Hq.out] at HWP
        obtain ⟨pk, pv, pd⟩ := p
        simp only at HWP
        have hb6 := b6.out
        have k0 := hb6.cell (j := 0) rfl
        have k2 := hb6.cell (j := 2) rfl
        simp only at k0 k2
        have d0 := B6.out.cell (j := 0) rfl
        have d1 := B6.out.cell (j := 1) rfl
        have d2 := B6.out.cell (j := 2) rfl
        obtain ⟨c1, HC1⟩ : ∃ c, lt pk k = c := ⟨_, rfl⟩
        obtain ⟨c2, HC2⟩ : ∃ c, lt pk t = c := ⟨_, rfl⟩
        obtain ⟨c3, HC3⟩ : ∃ c, (pk.toList == k.toList) = c := ⟨_, rfl⟩
        rw [HC1, HC2, HC3] at HWP
        clear hx hw6 hb6 hb1
        go_upto_region 6 with (first
          | (refine wpList_load_mid rfl 43 _ rfl bb (off + i * 3) rfl (PC (pk, pv, pd)) _ hrow Tryd.underlying43 rfl Tryd.size43 ?_)
          | (refine wpList_store_new rfl 43 _ _ rfl wr _ (PC (pk, pv, pd)).toArray _ rfl rfl rfl Tryd.size43 rfl (all_one (PC_one (pk, pv, pd))) ?_; rw [← HW6.out, HEq.out])
          | fail)
        try simp only [Act.put]
        clear hrow
        skip
        cases pd with
        | true =>
          have hq : q = true := by have h := HWP.out; simpa using h
          subst hq
          go_wp2_with fail
          go_ret
          exact ⟨by rw [← HQ3.out, any_yes hlt2 (by rw [HP.out, Hq.out])]; rfl, l1.out.trans (L6.out.mono l1.out.size)⟩
        | false =>
          cases s with
          | true =>
            cases c1 with
            | true =>
              have hq : q = true := by have h := HWP.out; simpa using h
              subst hq
              go_wp2_with fail
              go_ret
              exact ⟨by rw [← HQ3.out, any_yes hlt2 (by rw [HP.out, Hq.out])]; rfl, l1.out.trans (L6.out.mono l1.out.size)⟩
            | false =>
              cases c2 with
              | true =>
                have hq : q = false := by have h := HWP.out; simpa using h
                subst hq
                go_wp2_with fail
                go_roundg (n - i)
                case measure => omega
                case rel => exact ⟨i + 1, by omega, by omega, by go_num, (show ∀ j (hj : j < ps.length), _ from fun j hj hji => by
                  by_cases e : j = i
                  · subst e
                    rw [HP.out]
                    exact Hq.out
                  · exact HT.out j hj (by omega)), L6⟩
              | false =>
                have hq : q = true := by have h := HWP.out; simpa using h
                subst hq
                go_wp2_with fail
                go_ret
                exact ⟨by rw [← HQ3.out, any_yes hlt2 (by rw [HP.out, Hq.out])]; rfl, l1.out.trans (L6.out.mono l1.out.size)⟩
          | false =>
            cases c3 with
            | true =>
              have hq : q = false := by have h := HWP.out; simpa using h
              subst hq
              go_wp2_with fail
              go_roundg (n - i)
              case measure => omega
              case rel => exact ⟨i + 1, by omega, by omega, by go_num, (show ∀ j (hj : j < ps.length), _ from fun j hj hji => by
                by_cases e : j = i
                · subst e
                  rw [HP.out]
                  exact Hq.out
                · exact HT.out j hj (by omega)), L6⟩
            | false =>
              have hq : q = true := by have h := HWP.out; simpa using h
              subst hq
              go_wp2_with fail
              go_ret
              exact ⟨by rw [← HQ3.out, any_yes hlt2 (by rw [HP.out, Hq.out])]; rfl, l1.out.trans (L6.out.mono l1.out.size)⟩
      · obtain rfl : i = n := by omega
        have hlt' : ¬ (i : Int) < i := by omega
        have HAN : Hid (ps.any (wrongP PX) = false) := (show _ = _ from any_no fun j hj => HT.out j hj (by rw [← Hn.out]; exact hj))
        have HQ4 := HQ3.out
        rw [HAN.out] at HQ4
        simp only [Bool.not_false, Bool.true_and] at HQ4
        have HQ5 := hide HQ4
        clear HQ4
        have B6 := hide (b1.out.kept LR.out)
        have d0 := B6.out.cell (j := 0) rfl
        have d1 := B6.out.cell (j := 1) rfl
        have d2 := B6.out.cell (j := 2) rfl
        have d3 := B6.out.cell (j := 3) rfl
        cases s with
        | true =>
          go_wp2_with fail
          go_ret
          exact ⟨by rw [← HQ5.out]; simp, l1.out.trans (LR.out.mono l1.out.size)⟩
        | false =>
          by_cases h4 : 0 < k.size
          · have q4 : decide ((0 : Int) < (k.size : Int)) = true := by simp; omega
            have HIE : Hid (t.toList.isEmpty = (t.toList == [])) := (show _ = _ by cases t.toList <;> rfl)
            obtain ⟨c, Hc⟩ : ∃ z, (t.toList == []) = z := ⟨_, rfl⟩
            rw [HIE.out, Hc] at HQ5
            have q5 : (t.toList == (⟨#[]⟩ : ByteArray).toList) = c := by rw [show (⟨#[]⟩ : ByteArray).toList = [] from em_list]; exact Hc
            cases c with
            | false =>
              go_wp2_with fail
              go_ret
              exact ⟨by rw [← HQ5.out]; simp, l1.out.trans (LR.out.mono l1.out.size)⟩
            | true =>
              by_cases h5 : i ≤ 1
              · have q6 : decide ((i : Int) ≤ 1) = true := by simp; omega
                go_wp2_with fail
                go_ret
                exact ⟨by rw [← HQ5.out]; simp [h4, h5], l1.out.trans (LR.out.mono l1.out.size)⟩
              · have q6 : decide ((i : Int) ≤ 1) = false := by simp; omega
                go_wp2_with fail
                go_ret
                exact ⟨by rw [← HQ5.out]; simp [h5], l1.out.trans (LR.out.mono l1.out.size)⟩
          · have q4 : decide ((0 : Int) < (k.size : Int)) = false := decide_eq_false (by omega)
            go_wp2_with fail
            go_ret
            exact ⟨by rw [← HQ5.out]; simp [h4], l1.out.trans (LR.out.mono l1.out.size)⟩
#print axioms kgoodRead_any
end Go.Proofs.YtmicmbjbclkbjaaDoor
