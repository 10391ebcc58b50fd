/-
  The reference's Clash, Stale and May: what the calls do.
-/
import Derived.Test.YthniaoacanabdaaCtR
namespace Go.Proofs.Ythniaoacanabdaa
open Go.RowKit
set_option maxHeartbeats 4000000 in
set_option maxRecDepth 100000 in
theorem clashR_any {w : World} {r : Rc} {vl : Value} {L : List Rc} (hr : ROk w r) (hl : RdR9 w vl L) : Calls Try.prog 19 #[.agg (RC r).toArray, vl] w fun e w' => e = .returned (.int .i64 (clashP r L)) ∧ Below w.heap.size w w' := by
  obtain ⟨la, lc, rfl⟩ := hl.rd.slice
  obtain ⟨ln, HLN⟩ : ∃ n, Hid (L.length = n) := ⟨_, rfl⟩
  rw [HLN.out] at hl ⊢
  have hln0 := Nat.le_trans hl.rd.cap hl.rd.max
  obtain ⟨N, HN⟩ : ∃ N, Hid (w.heap.size = N) := ⟨_, rfl⟩
  obtain ⟨w1, hw1⟩ : ∃ y, y = w.alloc (.cells (RC r).toArray 25 (0, 0)) := ⟨_, rfl⟩
  obtain ⟨b1, l1⟩ := newB HN hw1
  have HL := hide (hl.kept l1.out)
  have HW := hide hw1
  obtain ⟨K, HK⟩ : ∃ K, Hid (r.ws = K) := ⟨_, rfl⟩
  have HR : Hid (RdG PE w1 (.slice r.wa r.ws.length r.wc) r.ws) := (show RdG _ _ _ _ from (hr.ws).kept l1.out)
  obtain ⟨F, HF⟩ : ∃ F : Rc → Bool, Hid (hitP (spW r) = F) := ⟨_, rfl⟩
  have HFA : Hid (∀ o, F o = K.any (fun p : Pr => wroteP o p.1)) := (show _ from fun o => by rw [← HF.out, hit_clash, HK.out])
  have HSP : Hid (clashP r L = fstI F L 0) := (show _ = _ by rw [← HF.out]; rfl)
  obtain ⟨u, HU⟩ : ∃ u, Hid (clashP r L = u) := ⟨_, rfl⟩
  rw [HU.out] at HSP ⊢
  have d9 := b1.out.rws
  unfold wv at d9
  rw [HK.out] at d9 HR
  obtain ⟨n, HNn⟩ : ∃ n, Hid (K.length = n) := ⟨_, rfl⟩
  rw [HNn.out] at d9 HR
  obtain ⟨ya, HYA⟩ : ∃ y, Hid (r.wa = y) := ⟨_, rfl⟩
  obtain ⟨yc, HYC⟩ : ∃ y, Hid (r.wc = y) := ⟨_, rfl⟩
  rw [HYA.out, HYC.out] at d9 HR
  have hn0 := Nat.le_trans HR.out.cap HR.out.max
  have D9 := hide d9
  have hN1 : N < w1.heap.size := b1.out.lt
  have hzr := zeroR
  have hzp := zeroP
  clear hr hl hw1 d9
  go_enter Try.func19, Try.ntmps19
  go_upto_region 1 with fail
  change Code.wp _ _ _ _ (w.alloc (.cells (RC r).toArray 25 (0, 0)))
  rw [← HW.out, HN.out]
  have R0 : Hid (Below w1.heap.size w1 w1) := Below.refl _ _
  go_wp2_with fail
  go_loopg [11] (ln + 1) (fun g z wr => ∃ i : Nat, i ≤ ln ∧ g + i = ln + 1 ∧ z = .int .i64 (i : Int) ∧ Hid (∀ j (hj : j < L.length), j < i → F L[j] = false) ∧ Hid (Below w1.heap.size w1 wr))
  case atStart => exact ⟨0, Nat.zero_le _, by omega, rfl, (show ∀ j (hj : j < L.length), _ from fun j hj h => by omega), R0⟩
  case round =>
    clear R0
    obtain ⟨i, hi, hg, rfl, HT, LR⟩ := hrel
    by_cases hlt : i < ln
    · have hlt2 : i < L.length := by rw [HLN.out]; exact hlt
      have hlt' : (i : Int) < (ln : Int) := by omega
      have RB := HL.out.kept LR.out
      obtain ⟨bb, off, rfl, hb1, hx⟩ := RB.rd.nth (by omega)
      have hrow : wr.rangeAt bb (off + i * 5) (RC L[i]) := hx i hlt2
      have hws := (RB.rs _ (List.getElem_mem hlt2)).ws
      obtain ⟨o, HO⟩ : ∃ o, Hid (L[i] = o) := ⟨L[i], (show L[i] = L[i] from rfl)⟩
      rw [HO.out] at hrow hws
      obtain ⟨E, HE⟩ : ∃ E, Hid (wr.heap.size = E) := ⟨_, rfl⟩
      obtain ⟨w2, hw2⟩ : ∃ y, y = wr.alloc (.cells (RC o).toArray 25 (0, 0)) := ⟨_, rfl⟩
      obtain ⟨b2, l2⟩ := newB HE hw2
      have HOW := hide (hws.kept l2.out)
      have L2 : Hid (Below w1.heap.size w1 w2) := (show Below _ _ _ from LR.out.trans (l2.out.mono LR.out.size))
      have c9 := (L2.out.cell (p := ⟨N, 4, none⟩) hN1).trans D9.out
      have HW2 := hide hw2
      have HFo := hide (HFA.out o)
      clear hx hw2 RB hws
      go_upto_region 5 with (first
        | (refine wpList_load_mid rfl 25 _ rfl bb (off + i * 5) rfl (RC o) _ hrow Try.underlying25 rfl Try.size25 ?_)
        | (refine wpList_store_new rfl 25 _ _ rfl wr _ (RC o).toArray _ rfl rfl rfl Try.size25 rfl (all_one (RC_one o)) ?_; rw [← HW2.out, HE.out])
        | fail)
      have R2 : Hid (Below w2.heap.size w2 w2) := Below.refl _ _
      clear c9 hrow
      go_loopg [19] (n + 1) (fun g z wr => ∃ j : Nat, j ≤ n ∧ g + j = n + 1 ∧ z = .int .i64 (j : Int) ∧ Hid (∀ t (ht : t < K.length), t < j → (fun p : Pr => wroteP o p.1) K[t] = false) ∧ Hid (Below w2.heap.size w2 wr))
      case atStart => exact ⟨0, Nat.zero_le _, by omega, rfl, (show ∀ j (hj : j < K.length), _ from fun j hj h => by omega), R2⟩
      case round =>
        clear R2
        obtain ⟨j, hj, hgj, rfl, HT2, LR2⟩ := hrel
        by_cases hltj : j < n
        · have hlt2j : j < K.length := by rw [HNn.out]; exact hltj
          have hltj' : (j : Int) < (n : Int) := by omega
          obtain ⟨bb2, off2, rfl, hb2, hx⟩ := (HR.out.kept (L2.out.trans (LR2.out.mono L2.out.size))).nth (by omega)
          have hrow : wr.rangeAt bb2 (off2 + j * 3) (PC K[j]) := hx j hlt2j
          obtain ⟨p, HP⟩ : ∃ p, Hid (K[j] = p) := ⟨K[j], (show K[j] = K[j] from rfl)⟩
          rw [HP.out] at hrow
          obtain ⟨E2, HE2⟩ : ∃ E, Hid (wr.heap.size = E) := ⟨_, rfl⟩
          obtain ⟨w3, hw3⟩ : ∃ y, y = wr.alloc (.cells (PC p).toArray 43 (0, 0)) := ⟨_, rfl⟩
          obtain ⟨b3, l3⟩ := newB HE2 hw3
          have d0 := b3.out.key
          obtain ⟨y, HY⟩ : ∃ y, Hid (p.1 = y) := ⟨_, rfl⟩
          rw [HY.out] at d0
          have lk : Below w2.heap.size w2 w3 := LR2.out.trans (l3.out.mono LR2.out.size)
          have CO := hide (wroteR_any (HOW.out.kept lk) p.1)
          rw [HY.out] at CO
          have b23 := (b2.out.kept lk).range0
          have LK := hide lk
          have HW3 := hide hw3
          obtain ⟨q, HQ⟩ : ∃ q, Hid (wroteP o p.1 = q) := ⟨_, rfl⟩
          have HQ2 : wroteP o y = q := by rw [← HY.out]; exact HQ.out
          rw [HQ2] at CO
          clear HQ2
          clear hx hw3 lk
          go_wp2_with (first
            | (refine wpList_load_mid rfl 43 _ rfl bb2 (off2 + j * 3) rfl (PC p) _ hrow Try.underlying43 rfl Try.size43 ?_)
            | (refine wpList_store_new rfl 43 _ _ rfl wr _ (PC p).toArray _ rfl rfl rfl Try.size43 rfl (all_one (PC_one p)) ?_; rw [← HW3.out, HE2.out])
            | (refine wpList_load_mid rfl 25 _ rfl E 0 rfl (RC o) _ b23 Try.underlying25 rfl Try.size25 ?_)
            | fail)
          refine CO.out.mono ?_
          rintro e w4 ⟨rfl, hb4⟩
          have L4 : Hid (Below w2.heap.size w2 w4) := (show Below _ _ _ from LK.out.trans (hb4.mono LK.out.size))
          clear hb4 CO hrow b23
          cases q with
          | true =>
            have hu : u = (i : Int) := by
              rw [HSP.out, fst_hit (f := F) (k := i) hlt2 (by rw [HO.out, HFo.out]; exact List.any_eq_true.2 ⟨K[j], List.getElem_mem hlt2j, by rw [HP.out]; exact HQ.out⟩) HT.out]
              simp
            subst hu
            go_wp2_with fail
            go_ret
            exact ⟨rfl, l1.out.trans ((L2.out.trans (L4.out.mono L2.out.size)).mono l1.out.size)⟩
          | false =>
            have HT3 : Hid (∀ t (ht : t < K.length), t < j + 1 → (fun p : Pr => wroteP o p.1) K[t] = false) := (show ∀ j (hj : j < K.length), _ from fun t ht htj => by
              by_cases e : t = j
              · subst e
                rw [HP.out]
                exact HQ.out
              · exact HT2.out t ht (by omega))
            go_wp2_with fail
            go_roundg (n - j)
            case measure => omega
            case rel => exact ⟨j + 1, by omega, by omega, by go_num, HT3, L4⟩
        · obtain rfl : j = n := by omega
          have hltj' : ¬ (j : Int) < j := by omega
          have HT4 : Hid (∀ t (ht : t < L.length), t < i + 1 → F L[t] = false) := (show ∀ j (hj : j < L.length), _ from fun t ht hti => by
            by_cases e : t = i
            · subst e
              rw [HO.out, HFo.out, Bool.eq_false_iff]
              intro h
              obtain ⟨p, hp, h2⟩ := List.any_eq_true.1 h
              obtain ⟨m, hm, e⟩ := List.getElem_of_mem hp
              rw [← e] at h2
              have := HT2.out m hm (by rw [← HNn.out]; exact hm)
              exact absurd (this.symm.trans h2) (by decide)
            · exact HT.out t ht (by omega))
          have L5 : Hid (Below w1.heap.size w1 wr) := (show Below _ _ _ from L2.out.trans (LR2.out.mono L2.out.size))
          go_wp2_with fail
          go_roundg (ln - i)
          case measure => omega
          case rel => exact ⟨i + 1, by omega, by omega, by go_num, HT4, L5⟩
    · obtain rfl : i = ln := by omega
      have hlt' : ¬ (i : Int) < i := by omega
      have hu : u = -1 := by
        rw [HSP.out]
        refine fst_none fun p hp => ?_
        obtain ⟨j, hj, e⟩ := List.getElem_of_mem hp
        rw [← e]
        exact HT.out j hj (by rw [← HLN.out]; exact hj)
      subst hu
      go_wp2_with fail
      go_ret
      exact ⟨rfl, l1.out.trans (LR.out.mono l1.out.size)⟩
#print axioms clashR_any
set_option maxHeartbeats 4000000 in
set_option maxRecDepth 100000 in
theorem staleR_any {w : World} {r : Rc} {vl : Value} {L : List Rc} (hr : ROk w r) (hl : RdR9 w vl L) : Calls Try.prog 21 #[.agg (RC r).toArray, vl] w fun e w' => e = .returned (.int .i64 (staleP r L)) ∧ Below w.heap.size w w' := by
  obtain ⟨la, lc, rfl⟩ := hl.rd.slice
  obtain ⟨ln, HLN⟩ : ∃ n, Hid (L.length = n) := ⟨_, rfl⟩
  rw [HLN.out] at hl ⊢
  have hln0 := Nat.le_trans hl.rd.cap hl.rd.max
  obtain ⟨N, HN⟩ : ∃ N, Hid (w.heap.size = N) := ⟨_, rfl⟩
  obtain ⟨w1, hw1⟩ : ∃ y, y = w.alloc (.cells (RC r).toArray 25 (0, 0)) := ⟨_, rfl⟩
  obtain ⟨b1, l1⟩ := newB HN hw1
  have HL := hide (hl.kept l1.out)
  have HW := hide hw1
  obtain ⟨K, HK⟩ : ∃ K, Hid (r.rs = K) := ⟨_, rfl⟩
  have HR : Hid (RdG XE w1 (.slice r.ra r.rs.length r.rc) r.rs) := (show RdG _ _ _ _ from (hr.rs.rd).kept l1.out)
  obtain ⟨F, HF⟩ : ∃ F : Rc → Bool, Hid (hitP (spR r) = F) := ⟨_, rfl⟩
  have HFA : Hid (∀ o, F o = K.any (fun p : Rz => touchP o p)) := (show _ from fun o => by rw [← HF.out, hit_stale, HK.out])
  have HSP : Hid (staleP r L = fstI F L 0) := (show _ = _ by rw [← HF.out]; rfl)
  obtain ⟨u, HU⟩ : ∃ u, Hid (staleP r L = u) := ⟨_, rfl⟩
  rw [HU.out] at HSP ⊢
  have d9 := b1.out.rrs
  unfold rv at d9
  rw [HK.out] at d9 HR
  obtain ⟨n, HNn⟩ : ∃ n, Hid (K.length = n) := ⟨_, rfl⟩
  rw [HNn.out] at d9 HR
  obtain ⟨ya, HYA⟩ : ∃ y, Hid (r.ra = y) := ⟨_, rfl⟩
  obtain ⟨yc, HYC⟩ : ∃ y, Hid (r.rc = y) := ⟨_, rfl⟩
  rw [HYA.out, HYC.out] at d9 HR
  have hn0 := Nat.le_trans HR.out.cap HR.out.max
  have D9 := hide d9
  have hN1 : N < w1.heap.size := b1.out.lt
  have hzr := zeroR
  have hzp := zeroX
  clear hr hl hw1 d9
  go_enter Try.func21, Try.ntmps21
  go_upto_region 1 with fail
  change Code.wp _ _ _ _ (w.alloc (.cells (RC r).toArray 25 (0, 0)))
  rw [← HW.out, HN.out]
  have R0 : Hid (Below w1.heap.size w1 w1) := Below.refl _ _
  go_wp2_with fail
  go_loopg [11] (ln + 1) (fun g z wr => ∃ i : Nat, i ≤ ln ∧ g + i = ln + 1 ∧ z = .int .i64 (i : Int) ∧ Hid (∀ j (hj : j < L.length), j < i → F L[j] = false) ∧ Hid (Below w1.heap.size w1 wr))
  case atStart => exact ⟨0, Nat.zero_le _, by omega, rfl, (show ∀ j (hj : j < L.length), _ from fun j hj h => by omega), R0⟩
  case round =>
    clear R0
    obtain ⟨i, hi, hg, rfl, HT, LR⟩ := hrel
    by_cases hlt : i < ln
    · have hlt2 : i < L.length := by rw [HLN.out]; exact hlt
      have hlt' : (i : Int) < (ln : Int) := by omega
      have RB := HL.out.kept LR.out
      obtain ⟨bb, off, rfl, hb1, hx⟩ := RB.rd.nth (by omega)
      have hrow : wr.rangeAt bb (off + i * 5) (RC L[i]) := hx i hlt2
      have hws := (RB.rs _ (List.getElem_mem hlt2)).ws
      obtain ⟨o, HO⟩ : ∃ o, Hid (L[i] = o) := ⟨L[i], (show L[i] = L[i] from rfl)⟩
      rw [HO.out] at hrow hws
      obtain ⟨E, HE⟩ : ∃ E, Hid (wr.heap.size = E) := ⟨_, rfl⟩
      obtain ⟨w2, hw2⟩ : ∃ y, y = wr.alloc (.cells (RC o).toArray 25 (0, 0)) := ⟨_, rfl⟩
      obtain ⟨b2, l2⟩ := newB HE hw2
      have HOW := hide (hws.kept l2.out)
      have L2 : Hid (Below w1.heap.size w1 w2) := (show Below _ _ _ from LR.out.trans (l2.out.mono LR.out.size))
      have c9 := (L2.out.cell (p := ⟨N, 3, none⟩) hN1).trans D9.out
      have HW2 := hide hw2
      have HFo := hide (HFA.out o)
      clear hx hw2 RB hws
      go_upto_region 5 with (first
        | (refine wpList_load_mid rfl 25 _ rfl bb (off + i * 5) rfl (RC o) _ hrow Try.underlying25 rfl Try.size25 ?_)
        | (refine wpList_store_new rfl 25 _ _ rfl wr _ (RC o).toArray _ rfl rfl rfl Try.size25 rfl (all_one (RC_one o)) ?_; rw [← HW2.out, HE.out])
        | fail)
      have R2 : Hid (Below w2.heap.size w2 w2) := Below.refl _ _
      clear c9 hrow
      go_loopg [19] (n + 1) (fun g z wr => ∃ j : Nat, j ≤ n ∧ g + j = n + 1 ∧ z = .int .i64 (j : Int) ∧ Hid (∀ t (ht : t < K.length), t < j → (fun p : Rz => touchP o p) K[t] = false) ∧ Hid (Below w2.heap.size w2 wr))
      case atStart => exact ⟨0, Nat.zero_le _, by omega, rfl, (show ∀ j (hj : j < K.length), _ from fun j hj h => by omega), R2⟩
      case round =>
        clear R2
        obtain ⟨j, hj, hgj, rfl, HT2, LR2⟩ := hrel
        by_cases hltj : j < n
        · have hlt2j : j < K.length := by rw [HNn.out]; exact hltj
          have hltj' : (j : Int) < (n : Int) := by omega
          obtain ⟨bb2, off2, rfl, hb2, hx⟩ := (HR.out.kept (L2.out.trans (LR2.out.mono L2.out.size))).nth (by omega)
          have hrow : wr.rangeAt bb2 (off2 + j * 4) (XC K[j]) := hx j hlt2j
          obtain ⟨p, HP⟩ : ∃ p, Hid (K[j] = p) := ⟨K[j], (show K[j] = K[j] from rfl)⟩
          rw [HP.out] at hrow
          obtain ⟨E2, HE2⟩ : ∃ E, Hid (wr.heap.size = E) := ⟨_, rfl⟩
          obtain ⟨w3, hw3⟩ : ∃ y, y = wr.alloc (.cells (XC p).toArray 27 (0, 0)) := ⟨_, rfl⟩
          obtain ⟨b3, l3⟩ := newB HE2 hw3
          have lk : Below w2.heap.size w2 w3 := LR2.out.trans (l3.out.mono LR2.out.size)
          have CO := hide (touchesR_any (HOW.out.kept lk) p)
          skip
          have b23 := (b2.out.kept lk).range0
          have LK := hide lk
          have HW3 := hide hw3
          obtain ⟨q, HQ⟩ : ∃ q, Hid (touchP o p = q) := ⟨_, rfl⟩
          rw [HQ.out] at CO
          clear hx hw3 lk
          go_wp2_with (first
            | (refine wpList_load_mid rfl 27 _ rfl bb2 (off2 + j * 4) rfl (XC p) _ hrow Try.underlying27 rfl Try.size27 ?_)
            | (refine wpList_store_new rfl 27 _ _ rfl wr _ (XC p).toArray _ rfl rfl rfl Try.size27 rfl (all_one (XC_one p)) ?_; rw [← HW3.out, HE2.out])
            | (refine wpList_load_mid rfl 25 _ rfl E 0 rfl (RC o) _ b23 Try.underlying25 rfl Try.size25 ?_)
            | (refine wpList_load_mid rfl 27 _ rfl E2 0 rfl (XC p) _ b3.out.range0 Try.underlying27 rfl Try.size27 ?_)
            | fail)
          refine CO.out.mono ?_
          rintro e w4 ⟨rfl, hb4⟩
          have L4 : Hid (Below w2.heap.size w2 w4) := (show Below _ _ _ from LK.out.trans (hb4.mono LK.out.size))
          clear hb4 CO hrow b23
          cases q with
          | true =>
            have hu : u = (i : Int) := by
              rw [HSP.out, fst_hit (f := F) (k := i) hlt2 (by rw [HO.out, HFo.out]; exact List.any_eq_true.2 ⟨K[j], List.getElem_mem hlt2j, by rw [HP.out]; exact HQ.out⟩) HT.out]
              simp
            subst hu
            go_wp2_with fail
            go_ret
            exact ⟨rfl, l1.out.trans ((L2.out.trans (L4.out.mono L2.out.size)).mono l1.out.size)⟩
          | false =>
            have HT3 : Hid (∀ t (ht : t < K.length), t < j + 1 → (fun p : Rz => touchP o p) K[t] = false) := (show ∀ j (hj : j < K.length), _ from fun t ht htj => by
              by_cases e : t = j
              · subst e
                rw [HP.out]
                exact HQ.out
              · exact HT2.out t ht (by omega))
            go_wp2_with fail
            go_roundg (n - j)
            case measure => omega
            case rel => exact ⟨j + 1, by omega, by omega, by go_num, HT3, L4⟩
        · obtain rfl : j = n := by omega
          have hltj' : ¬ (j : Int) < j := by omega
          have HT4 : Hid (∀ t (ht : t < L.length), t < i + 1 → F L[t] = false) := (show ∀ j (hj : j < L.length), _ from fun t ht hti => by
            by_cases e : t = i
            · subst e
              rw [HO.out, HFo.out, Bool.eq_false_iff]
              intro h
              obtain ⟨p, hp, h2⟩ := List.any_eq_true.1 h
              obtain ⟨m, hm, e⟩ := List.getElem_of_mem hp
              rw [← e] at h2
              have := HT2.out m hm (by rw [← HNn.out]; exact hm)
              exact absurd (this.symm.trans h2) (by decide)
            · exact HT.out t ht (by omega))
          have L5 : Hid (Below w1.heap.size w1 wr) := (show Below _ _ _ from L2.out.trans (LR2.out.mono L2.out.size))
          go_wp2_with fail
          go_roundg (ln - i)
          case measure => omega
          case rel => exact ⟨i + 1, by omega, by omega, by go_num, HT4, L5⟩
    · obtain rfl : i = ln := by omega
      have hlt' : ¬ (i : Int) < i := by omega
      have hu : u = -1 := by
        rw [HSP.out]
        refine fst_none fun p hp => ?_
        obtain ⟨j, hj, e⟩ := List.getElem_of_mem hp
        rw [← e]
        exact HT.out j hj (by rw [← HLN.out]; exact hj)
      subst hu
      go_wp2_with fail
      go_ret
      exact ⟨rfl, l1.out.trans (LR.out.mono l1.out.size)⟩
#print axioms staleR_any
set_option maxHeartbeats 2000000 in
set_option maxRecDepth 100000 in
theorem mayR_any {w : World} {r : Rc} {vl : Value} {L : List Rc} (hr : ROk w r) (hl : RdR9 w vl L) : Calls Try.prog 23 #[.agg (RC r).toArray, vl] w fun e w' => e = .returned (.int .i64 (if mayP r L = true then 10 else 0)) ∧ Below w.heap.size w w' := by
  obtain ⟨la, lc, rfl⟩ := hl.rd.slice
  obtain ⟨ln, HLN⟩ : ∃ n, Hid (L.length = n) := ⟨_, rfl⟩
  rw [HLN.out] at hl ⊢
  obtain ⟨N, HN⟩ : ∃ N, Hid (w.heap.size = N) := ⟨_, rfl⟩
  obtain ⟨w1, hw1⟩ : ∃ y, y = w.alloc (.cells (RC r).toArray 25 (0, 0)) := ⟨_, rfl⟩
  obtain ⟨b1, l1⟩ := newB HN hw1
  have C1 := hide (clashR_any (hr.kept l1.out)  (hl.kept l1.out))
  have C2 := hide (fun W (hW : Below w1.heap.size w1 W) => staleR_any ((hr.kept l1.out).kept hW)  ((hl.kept l1.out).kept hW))
  have HW := hide hw1
  have HM : Hid (mayP r L = (decide (0 ≤ clashP r L) || (r.st && decide (0 ≤ staleP r L)))) := (show _ = _ from rfl)
  obtain ⟨m, HMm⟩ : ∃ m, Hid (mayP r L = m) := ⟨_, rfl⟩
  rw [HMm.out] at HM ⊢
  obtain ⟨u, HU⟩ : ∃ u, Hid (clashP r L = u) := ⟨_, rfl⟩
  obtain ⟨x, HX⟩ : ∃ u, Hid (staleP r L = u) := ⟨_, rfl⟩
  rw [HU.out] at C1 HM
  rw [HX.out] at C2 HM
  obtain ⟨t, HT⟩ : ∃ t, Hid (r.st = t) := ⟨_, rfl⟩
  rw [HT.out] at HM
  clear hr hl hw1
  go_enter Try.func23, Try.ntmps23
  go_upto_region 1 with fail
  change Code.wp _ _ _ _ (w.alloc (.cells (RC r).toArray 25 (0, 0)))
  rw [← HW.out, HN.out]
  by_cases h1 : 0 ≤ u
  · have q1 : decide (0 ≤ u) = true := decide_eq_true h1
    have hm : m = true := by rw [HM.out, q1]; rfl
    subst hm
    go_wp2_with (first
      | (refine wpList_load_mid rfl 25 _ rfl N 0 rfl (RC r) _ b1.out.range0 Try.underlying25 rfl Try.size25 ?_)
      | (go_at_call 19; refine C1.out.mono ?_; rintro e w2 ⟨rfl, hb2⟩; have L2 := hide hb2; have B2 := hide (b1.out.kept hb2); have d2 := B2.out.rst; rw [HT.out] at d2; clear hb2)
      | fail)
    go_ret
    exact ⟨rfl, l1.out.trans (L2.out.mono l1.out.size)⟩
  · have q1 : decide (0 ≤ u) = false := decide_eq_false h1
    cases t with
    | false =>
      have hm : m = false := by rw [HM.out, q1]; rfl
      subst hm
      go_wp2_with (first
        | (refine wpList_load_mid rfl 25 _ rfl N 0 rfl (RC r) _ b1.out.range0 Try.underlying25 rfl Try.size25 ?_)
        | (go_at_call 19; refine C1.out.mono ?_; rintro e w2 ⟨rfl, hb2⟩; have L2 := hide hb2; have B2 := hide (b1.out.kept hb2); have d2 := B2.out.rst; rw [HT.out] at d2; clear hb2)
        | fail)
      go_ret
      exact ⟨rfl, l1.out.trans (L2.out.mono l1.out.size)⟩
    | true =>
      by_cases h2 : 0 ≤ x
      · have q2 : decide (0 ≤ x) = true := decide_eq_true h2
        have hm : m = true := by rw [HM.out, q1, q2]; rfl
        subst hm
        go_wp2_with (first
          | (refine wpList_load_mid rfl 25 _ rfl N 0 rfl (RC r) _ b1.out.range0 Try.underlying25 rfl Try.size25 ?_)
          | (refine wpList_load_w9 rfl 25 _ rfl N 0 rfl (RC r) _ B2.out.range0 Try.underlying25 rfl Try.size25 ?_)
          | (go_at_call 19; refine C1.out.mono ?_; rintro e w2 ⟨rfl, hb2⟩; have L2 := hide hb2; have B2 := hide (b1.out.kept hb2); have d2 := B2.out.rst; rw [HT.out] at d2; clear hb2)
          | (go_at_call 21; refine (C2.out _ L2.out).mono ?_; rintro e w3 ⟨rfl, hb3⟩; have L3 : Hid (Below w1.heap.size w1 w3) := (show Below _ _ _ from L2.out.trans (hb3.mono L2.out.size)); clear hb3)
          | fail)
        go_ret
        exact ⟨rfl, l1.out.trans (L3.out.mono l1.out.size)⟩
      · have q2 : decide (0 ≤ x) = false := decide_eq_false h2
        have hm : m = false := by rw [HM.out, q1, q2]; rfl
        subst hm
        go_wp2_with (first
          | (refine wpList_load_mid rfl 25 _ rfl N 0 rfl (RC r) _ b1.out.range0 Try.underlying25 rfl Try.size25 ?_)
          | (refine wpList_load_w9 rfl 25 _ rfl N 0 rfl (RC r) _ B2.out.range0 Try.underlying25 rfl Try.size25 ?_)
          | (go_at_call 19; refine C1.out.mono ?_; rintro e w2 ⟨rfl, hb2⟩; have L2 := hide hb2; have B2 := hide (b1.out.kept hb2); have d2 := B2.out.rst; rw [HT.out] at d2; clear hb2)
          | (go_at_call 21; refine (C2.out _ L2.out).mono ?_; rintro e w3 ⟨rfl, hb3⟩; have L3 : Hid (Below w1.heap.size w1 w3) := (show Below _ _ _ from L2.out.trans (hb3.mono L2.out.size)); clear hb3)
          | fail)
        go_ret
        exact ⟨rfl, l1.out.trans (L3.out.mono l1.out.size)⟩
#print axioms mayR_any
end Go.Proofs.Ythniaoacanabdaa
