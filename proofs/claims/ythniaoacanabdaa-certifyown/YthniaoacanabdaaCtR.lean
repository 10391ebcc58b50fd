/-
  The reference's Wrote and Touches: what the calls do.
-/
import Derived.Test.YthniaoacanabdaaCtC
namespace Go.Proofs.Ythniaoacanabdaa
open Go.RowKit
set_option maxHeartbeats 2000000 in
set_option maxRecDepth 100000 in
theorem wroteR_any {w : World} {r : Rc} (hr : RdG PE w (wv r) r.ws) (k : ByteArray) : Calls Try.prog 12 #[.agg (RC r).toArray, .string k] w fun e w' => e = .returned (.bool (wroteP r k)) ∧ Below w.heap.size w w' := by
  obtain ⟨N, HN⟩ : ∃ N, Hid (w.heap.size = N) := ⟨_, rfl⟩
  obtain ⟨w1, hw1⟩ : ∃ y, y = w.alloc (.cells (RC r).toArray 25 (0, 0)) := ⟨_, rfl⟩
  obtain ⟨b1, l1⟩ := newB HN hw1
  have d9 := b1.out.rws
  have HW := hide hw1
  obtain ⟨K, HK⟩ : ∃ K, Hid (r.ws = K) := ⟨_, rfl⟩
  have HR : Hid (RdG PE w1 (.slice r.wa r.ws.length r.wc) r.ws) := (show RdG _ _ _ _ from hr.kept l1.out)
  obtain ⟨u, HU⟩ : ∃ u, Hid (wroteP r k = u) := ⟨_, rfl⟩
  rw [HU.out]
  have HU : Hid (K.any (fun p : Pr => p.1.toList == k.toList) = u) := (show _ = _ by rw [← HU.out, ← HK.out]; rfl)
  unfold wv at d9
  rw [HK.out] at d9 HR
  obtain ⟨n, HNn⟩ : ∃ n, Hid (K.length = n) := ⟨_, rfl⟩
  rw [HNn.out] at d9 HR
  obtain ⟨ya, HYA⟩ : ∃ y, Hid (r.wa = y) := ⟨_, rfl⟩
  obtain ⟨yc, HYC⟩ : ∃ y, Hid (r.wc = y) := ⟨_, rfl⟩
  rw [HYA.out, HYC.out] at d9 HR
  have hn0 := Nat.le_trans HR.out.cap HR.out.max
  have hzp := zeroP
  clear hr hw1
  go_enter Try.func12, Try.ntmps12
  go_upto_region 1 with fail
  change Code.wp _ _ _ _ (w.alloc (.cells (RC r).toArray 25 (0, 0)))
  rw [← HW.out, HN.out]
  have R0 : Hid (Below w1.heap.size w1 w1) := Below.refl _ _
  go_wp2_with fail
  go_loopg [10] (n + 1) (fun g z wr => ∃ i : Nat, i ≤ n ∧ g + i = n + 1 ∧ z = .int .i64 (i : Int) ∧ Hid (∀ j (hj : j < K.length), j < i → (fun p : Pr => p.1.toList == k.toList) K[j] = false) ∧ Hid (Below w1.heap.size w1 wr))
  case atStart => exact ⟨0, Nat.zero_le _, by omega, rfl, (show ∀ j (hj : j < K.length), _ from fun j hj h => by omega), R0⟩
  case round =>
    clear R0
    obtain ⟨i, hi, hg, rfl, HT, LR⟩ := hrel
    by_cases hlt : i < n
    · have hlt2 : i < K.length := by rw [HNn.out]; exact hlt
      have hlt' : (i : Int) < (n : Int) := by omega
      obtain ⟨bb, off, rfl, hb1, hx⟩ := (HR.out.kept LR.out).nth (by omega)
      have hrow : wr.rangeAt bb (off + i * 3) (PC K[i]) := hx i hlt2
      obtain ⟨p, HP⟩ : ∃ p, Hid (K[i] = p) := ⟨K[i], (show K[i] = K[i] from rfl)⟩
      rw [HP.out] at hrow
      obtain ⟨E, HE⟩ : ∃ E, Hid (wr.heap.size = E) := ⟨_, rfl⟩
      obtain ⟨w2, hw2⟩ : ∃ y, y = wr.alloc (.cells (PC p).toArray 43 (0, 0)) := ⟨_, rfl⟩
      obtain ⟨b9, l2⟩ := newB HE hw2
      have d0 := b9.out.key
      obtain ⟨y, HY⟩ : ∃ y, Hid (p.1 = y) := ⟨_, rfl⟩
      rw [HY.out] at d0
      have HW2 := hide hw2
      have LR2 : Hid (Below w1.heap.size w1 w2) := (show Below _ _ _ from LR.out.trans (l2.out.mono LR.out.size))
      clear hx hw2
      obtain ⟨q, hq⟩ : ∃ q, (y.toList == k.toList) = q := ⟨_, rfl⟩
      have HF : Hid ((fun p : Pr => p.1.toList == k.toList) p = q) := (show (p.1.toList == k.toList) = q by rw [HY.out]; exact hq)
      cases q with
      | true =>
        go_wp2_with (first
          | (refine wpList_load_mid rfl 43 _ rfl bb (off + i * 3) rfl (PC p) _ hrow Try.underlying43 rfl Try.size43 ?_)
          | (refine wpList_store_new rfl 43 _ _ rfl wr _ (PC p).toArray _ rfl rfl rfl Try.size43 rfl (all_one (PC_one p)) ?_; rw [← HW2.out, HE.out])
          | fail)
        have hu : u = true := by
          rw [← HU.out]
          exact List.any_eq_true.2 ⟨K[i], List.getElem_mem hlt2, by rw [HP.out]; exact HF.out⟩
        subst hu
        go_ret
        exact ⟨rfl, l1.out.trans (LR2.out.mono l1.out.size)⟩
      | false =>
        go_wp2_with (first
          | (refine wpList_load_mid rfl 43 _ rfl bb (off + i * 3) rfl (PC p) _ hrow Try.underlying43 rfl Try.size43 ?_)
          | (refine wpList_store_new rfl 43 _ _ rfl wr _ (PC p).toArray _ rfl rfl rfl Try.size43 rfl (all_one (PC_one p)) ?_; rw [← HW2.out, HE.out])
          | fail)
        have HT2 : Hid (∀ j (hj : j < K.length), j < i + 1 → (fun p : Pr => p.1.toList == k.toList) K[j] = false) := (show ∀ j (hj : j < K.length), _ from fun j hj hji => by
          by_cases e : j = i
          · subst e
            rw [HP.out]
            exact HF.out
          · exact HT.out j hj (by omega))
        go_roundg (n - i)
        case measure => omega
        case rel => exact ⟨i + 1, by omega, by omega, by go_num, HT2, LR2⟩
    · obtain rfl : i = n := by omega
      have hlt' : ¬ (i : Int) < i := by omega
      have hu : u = false := by
        rw [← HU.out, Bool.eq_false_iff]
        intro h
        obtain ⟨p, hp, h2⟩ := List.any_eq_true.1 h
        obtain ⟨j, hj, e⟩ := List.getElem_of_mem hp
        rw [← e] at h2
        have := HT.out j hj (by rw [← HNn.out]; exact hj)
        exact absurd (this.symm.trans h2) (by decide)
      subst hu
      go_wp2_with fail
      go_ret
      exact ⟨rfl, l1.out.trans (LR.out.mono l1.out.size)⟩
#print axioms wroteR_any
set_option maxHeartbeats 2000000 in
set_option maxRecDepth 100000 in
theorem touchesR_any {w : World} {r : Rc} (hr : RdG PE w (wv r) r.ws) (x : Rz) : Calls Try.prog 14 #[.agg (RC r).toArray, .agg (XC x).toArray] w fun e w' => e = .returned (.bool (touchP r x)) ∧ Below w.heap.size w w' := by
  obtain ⟨N, HN⟩ : ∃ N, Hid (w.heap.size = N) := ⟨_, rfl⟩
  obtain ⟨w1, hw1⟩ : ∃ y, y = (w.alloc (.cells (RC r).toArray 25 (0, 0))).alloc (.cells (XC x).toArray 27 (0, 0)) := ⟨_, rfl⟩
  obtain ⟨b1, b2, l1⟩ := newB2 HN hw1
  have d9 := b1.out.rws
  have HW := hide hw1
  obtain ⟨K, HK⟩ : ∃ K, Hid (r.ws = K) := ⟨_, rfl⟩
  have HR : Hid (RdG PE w1 (.slice r.wa r.ws.length r.wc) r.ws) := (show RdG _ _ _ _ from hr.kept l1.out)
  obtain ⟨u, HU⟩ : ∃ u, Hid (touchP r x = u) := ⟨_, rfl⟩
  rw [HU.out]
  have HU : Hid (K.any (fun p : Pr => askP x p.1) = u) := (show _ = _ by rw [← HU.out, ← HK.out]; rfl)
  unfold wv at d9
  rw [HK.out] at d9 HR
  obtain ⟨n, HNn⟩ : ∃ n, Hid (K.length = n) := ⟨_, rfl⟩
  rw [HNn.out] at d9 HR
  obtain ⟨ya, HYA⟩ : ∃ y, Hid (r.wa = y) := ⟨_, rfl⟩
  obtain ⟨yc, HYC⟩ : ∃ y, Hid (r.wc = y) := ⟨_, rfl⟩
  rw [HYA.out, HYC.out] at d9 HR
  obtain ⟨xk, HXk⟩ : ∃ z, Hid (x.k = z) := ⟨_, rfl⟩
  obtain ⟨xt, HXt⟩ : ∃ z, Hid (x.t = z) := ⟨_, rfl⟩
  obtain ⟨xs, HXs⟩ : ∃ z, Hid (x.sc = z) := ⟨_, rfl⟩
  have HA : Hid (∀ k, askP x k = ((!xs && k.toList == xk.toList) || (xs && (!lt k xk && lt k xt)))) := (show _ from fun k => by rw [← HXk.out, ← HXt.out, ← HXs.out]; rfl)
  have hn0 := Nat.le_trans HR.out.cap HR.out.max
  have hzp := zeroP
  clear hr hw1
  go_enter Try.func14, Try.ntmps14
  go_upto_region 1 with fail
  change Code.wp _ _ _ _ ((w.alloc (.cells (RC r).toArray 25 (0, 0))).alloc (.cells (XC x).toArray 27 (0, 0)))
  rw [← HW.out, HN.out]
  have R0 : Hid (Below w1.heap.size w1 w1) := Below.refl _ _
  go_wp2_with fail
  go_loopg [10] (n + 1) (fun g z wr => ∃ i : Nat, i ≤ n ∧ g + i = n + 1 ∧ z = .int .i64 (i : Int) ∧ Hid (∀ j (hj : j < K.length), j < i → (fun p : Pr => askP x p.1) K[j] = false) ∧ Hid (Below w1.heap.size w1 wr))
  case atStart => exact ⟨0, Nat.zero_le _, by omega, rfl, (show ∀ j (hj : j < K.length), _ from fun j hj h => by omega), R0⟩
  case round =>
    clear R0
    obtain ⟨i, hi, hg, rfl, HT, LR⟩ := hrel
    by_cases hlt : i < n
    · have hlt2 : i < K.length := by rw [HNn.out]; exact hlt
      have hlt' : (i : Int) < (n : Int) := by omega
      obtain ⟨bb, off, rfl, hb1, hx⟩ := (HR.out.kept LR.out).nth (by omega)
      have hrow : wr.rangeAt bb (off + i * 3) (PC K[i]) := hx i hlt2
      obtain ⟨p, HP⟩ : ∃ p, Hid (K[i] = p) := ⟨K[i], (show K[i] = K[i] from rfl)⟩
      rw [HP.out] at hrow
      obtain ⟨E, HE⟩ : ∃ E, Hid (wr.heap.size = E) := ⟨_, rfl⟩
      obtain ⟨w2, hw2⟩ : ∃ y, y = wr.alloc (.cells (PC p).toArray 43 (0, 0)) := ⟨_, rfl⟩
      obtain ⟨b9, l2⟩ := newB HE hw2
      have d0 := b9.out.key
      obtain ⟨y, HY⟩ : ∃ y, Hid (p.1 = y) := ⟨_, rfl⟩
      rw [HY.out] at d0
      have HW2 := hide hw2
      have LR2 : Hid (Below w1.heap.size w1 w2) := (show Below _ _ _ from LR.out.trans (l2.out.mono LR.out.size))
      have e0 := (b2.out.kept LR.out).xsc
      have e1 := (b2.out.kept LR.out).xk
      have e2 := (b2.out.kept LR.out).xt
      rw [HXs.out] at e0
      rw [HXk.out] at e1
      rw [HXt.out] at e2
      have e0 := (l2.out.cell (p := ⟨N + 1, 0, none⟩) (b2.out.kept LR.out).lt).trans e0
      have e1 := (l2.out.cell (p := ⟨N + 1, 1, none⟩) (b2.out.kept LR.out).lt).trans e1
      have e2 := (l2.out.cell (p := ⟨N + 1, 2, none⟩) (b2.out.kept LR.out).lt).trans e2
      clear hx hw2
      have HF0 : Hid ((fun p : Pr => askP x p.1) p = ((!xs && y.toList == xk.toList) || (xs && (!lt y xk && lt y xt)))) := (show askP x p.1 = _ by rw [HA.out, HY.out])
      cases xs with
      | false =>
        obtain ⟨q, hq⟩ : ∃ q, (y.toList == xk.toList) = q := ⟨_, rfl⟩
        cases q with
        | true =>
          have HF : Hid ((fun p : Pr => askP x p.1) p = true) := (show _ = _ by rw [HF0.out, hq]; rfl)
          go_upto_region 4 with (first
            | (refine wpList_load_mid rfl 43 _ rfl bb (off + i * 3) rfl (PC p) _ hrow Try.underlying43 rfl Try.size43 ?_)
            | (refine wpList_store_new rfl 43 _ _ rfl wr _ (PC p).toArray _ rfl rfl rfl Try.size43 rfl (all_one (PC_one p)) ?_; rw [← HW2.out, HE.out])
            | fail)
          simp only [Act.put]
          go_wp2_with fail
          have hu : u = true := by
            rw [← HU.out]
            exact List.any_eq_true.2 ⟨K[i], List.getElem_mem hlt2, by rw [HP.out]; exact HF.out⟩
          subst hu
          go_ret
          exact ⟨rfl, l1.out.trans (LR2.out.mono l1.out.size)⟩
        | false =>
          have HF : Hid ((fun p : Pr => askP x p.1) p = false) := (show _ = _ by rw [HF0.out, hq]; rfl)
          go_upto_region 4 with (first
            | (refine wpList_load_mid rfl 43 _ rfl bb (off + i * 3) rfl (PC p) _ hrow Try.underlying43 rfl Try.size43 ?_)
            | (refine wpList_store_new rfl 43 _ _ rfl wr _ (PC p).toArray _ rfl rfl rfl Try.size43 rfl (all_one (PC_one p)) ?_; rw [← HW2.out, HE.out])
            | fail)
          simp only [Act.put]
          go_wp2_with fail
          have HT2 : Hid (∀ j (hj : j < K.length), j < i + 1 → (fun p : Pr => askP x p.1) K[j] = false) := (show ∀ j (hj : j < K.length), _ from fun j hj hji => by
            by_cases e : j = i
            · subst e
              rw [HP.out]
              exact HF.out
            · exact HT.out j hj (by omega))
          go_roundg (n - i)
          case measure => omega
          case rel => exact ⟨i + 1, by omega, by omega, by go_num, HT2, LR2⟩
      | true =>
        obtain ⟨q, hq⟩ : ∃ q, lt y xk = q := ⟨_, rfl⟩
        have hge := sge 9 y xk
        rw [hq] at hge
        cases q with
        | true =>
          have hge2 : ∀ W, (binOp .geq 9 (.string y) (.string xk)).run Try.prog W = .ok (.bool false) W := fun W => by rw [hge]; rfl
          have HF : Hid ((fun p : Pr => askP x p.1) p = false) := (show _ = _ by rw [HF0.out, hq]; simp)
          clear hge
          go_upto_region 4 with (first
            | (refine wpList_load_mid rfl 43 _ rfl bb (off + i * 3) rfl (PC p) _ hrow Try.underlying43 rfl Try.size43 ?_)
            | (refine wpList_store_new rfl 43 _ _ rfl wr _ (PC p).toArray _ rfl rfl rfl Try.size43 rfl (all_one (PC_one p)) ?_; rw [← HW2.out, HE.out])
            | fail)
          simp only [Act.put]
          go_wp2_with fail
          have HT2 : Hid (∀ j (hj : j < K.length), j < i + 1 → (fun p : Pr => askP x p.1) K[j] = false) := (show ∀ j (hj : j < K.length), _ from fun j hj hji => by
            by_cases e : j = i
            · subst e
              rw [HP.out]
              exact HF.out
            · exact HT.out j hj (by omega))
          go_roundg (n - i)
          case measure => omega
          case rel => exact ⟨i + 1, by omega, by omega, by go_num, HT2, LR2⟩
        | false =>
          have hge2 : ∀ W, (binOp .geq 9 (.string y) (.string xk)).run Try.prog W = .ok (.bool true) W := fun W => by rw [hge]; rfl
          clear hge
          obtain ⟨q2, hq2⟩ : ∃ q, lt y xt = q := ⟨_, rfl⟩
          have hq3 : Op.bytesLess y.toList xt.toList = q2 := hq2
          cases q2 with
          | true =>
            have HF : Hid ((fun p : Pr => askP x p.1) p = true) := (show _ = _ by rw [HF0.out, hq, hq2]; rfl)
            go_upto_region 4 with (first
              | (refine wpList_load_mid rfl 43 _ rfl bb (off + i * 3) rfl (PC p) _ hrow Try.underlying43 rfl Try.size43 ?_)
              | (refine wpList_store_new rfl 43 _ _ rfl wr _ (PC p).toArray _ rfl rfl rfl Try.size43 rfl (all_one (PC_one p)) ?_; rw [← HW2.out, HE.out])
              | fail)
            simp only [Act.put]
            go_wp2_with fail
            have hu : u = true := by
              rw [← HU.out]
              exact List.any_eq_true.2 ⟨K[i], List.getElem_mem hlt2, by rw [HP.out]; exact HF.out⟩
            subst hu
            go_ret
            exact ⟨rfl, l1.out.trans (LR2.out.mono l1.out.size)⟩
          | false =>
            have HF : Hid ((fun p : Pr => askP x p.1) p = false) := (show _ = _ by rw [HF0.out, hq, hq2]; rfl)
            go_upto_region 4 with (first
              | (refine wpList_load_mid rfl 43 _ rfl bb (off + i * 3) rfl (PC p) _ hrow Try.underlying43 rfl Try.size43 ?_)
              | (refine wpList_store_new rfl 43 _ _ rfl wr _ (PC p).toArray _ rfl rfl rfl Try.size43 rfl (all_one (PC_one p)) ?_; rw [← HW2.out, HE.out])
              | fail)
            simp only [Act.put]
            go_wp2_with fail
            have HT2 : Hid (∀ j (hj : j < K.length), j < i + 1 → (fun p : Pr => askP x p.1) K[j] = false) := (show ∀ j (hj : j < K.length), _ from fun j hj hji => by
              by_cases e : j = i
              · subst e
                rw [HP.out]
                exact HF.out
              · exact HT.out j hj (by omega))
            go_roundg (n - i)
            case measure => omega
            case rel => exact ⟨i + 1, by omega, by omega, by go_num, HT2, LR2⟩
    · obtain rfl : i = n := by omega
      have hlt' : ¬ (i : Int) < i := by omega
      have hu : u = false := by
        rw [← HU.out, Bool.eq_false_iff]
        intro h
        obtain ⟨p, hp, h2⟩ := List.any_eq_true.1 h
        obtain ⟨j, hj, e⟩ := List.getElem_of_mem hp
        rw [← e] at h2
        have := HT.out j hj (by rw [← HNn.out]; exact hj)
        exact absurd (this.symm.trans h2) (by decide)
      subst hu
      go_wp2_with fail
      go_ret
      exact ⟨rfl, l1.out.trans (LR.out.mono l1.out.size)⟩
#print axioms touchesR_any
end Go.Proofs.Ythniaoacanabdaa
