/-
  Texts that ride together: CtJ CtY.
-/
import Derived.Test.YtcicekggeampcaaGreatGE1
import Derived.Test.YtcicekggeampcaaGreatGBd
import Derived.Test.YtcicekggeampcaaGreatGX
import Derived.Laws.StructEq
import Derived.Lib.QuietBelow
/-
  The reference's Own: what the call does.
-/
namespace Go.Proofs.YtcicekggeampcaaGreat
open Go.RowKit
theorem ownA_mem : ∀ {l acc : List Rz} {x : Rz}, x ∈ ownA acc l → x ∈ acc ∨ x ∈ l
  | [], acc, x, h => .inl h
  | y :: l, acc, x, h => by
    unfold ownA at h
    split at h
    · rcases ownA_mem h with h | h
      · exact .inl h
      · exact .inr (List.mem_cons_of_mem _ h)
    · rcases ownA_mem h with h | h
      · rcases List.mem_append.1 h with h | h
        · exact .inl h
        · rw [List.mem_singleton] at h
          subst h
          exact .inr (List.mem_cons_self ..)
      · exact .inr (List.mem_cons_of_mem _ h)
theorem ownP_mem {l : List Rz} {x : Rz} (h : x ∈ ownP l) : x ∈ l := by
  rcases ownA_mem h with h | h
  · cases h
  · exact h
set_option linter.unusedSimpArgs false in
set_option maxHeartbeats 8000000 in
set_option maxRecDepth 100000 in
theorem ownR_any {w : World} {r : Rc} (hr : ROk w r) (hl : r.rs.length ≤ 1000000) : Calls Tryz.prog 36 #[.agg (RC r).toArray] w fun e w' => ∃ v, e = .returned v ∧ RdX w' v (ownP r.rs) ∧ Below w.heap.size w w' := by
  obtain ⟨N, HN⟩ : ∃ N, Hid (w.heap.size = N) := ⟨_, rfl⟩
  obtain ⟨w1, hw1⟩ : ∃ y, y = w.alloc (.cells (RC r).toArray 41 (0, 0)) := ⟨_, rfl⟩
  obtain ⟨b1, l1⟩ := newB HN hw1
  have HW := hide hw1
  have d9 := b1.out.rrs
  have hzx := zeroX
  have RX : Hid (RdX w1 (.slice r.ra r.rs.length r.rc) r.rs) := (show RdX _ _ _ from (hr.kept l1.out).rs)
  obtain ⟨K, HK⟩ : ∃ K, Hid (r.rs = K) := ⟨_, rfl⟩
  unfold rv at d9
  rw [HK.out] at d9 RX hl ⊢
  obtain ⟨n, HNn⟩ : ∃ n, Hid (K.length = n) := ⟨_, rfl⟩
  rw [HNn.out] at d9 RX hl
  obtain ⟨ra, HRA⟩ : ∃ y, Hid (r.ra = y) := ⟨_, rfl⟩
  obtain ⟨rc, HRC⟩ : ∃ y, Hid (r.rc = y) := ⟨_, rfl⟩
  rw [HRA.out, HRC.out] at d9 RX
  obtain ⟨T, HT⟩ : ∃ T, Hid (ownP K = T) := ⟨_, rfl⟩
  rw [HT.out]
  have HTM : Hid (∀ x ∈ T, x ∈ K) := (show _ from fun x hx => ownP_mem (by rw [HT.out]; exact hx))
  obtain ⟨M, HM⟩ : ∃ M, Hid (w1.heap.size = M) := ⟨_, rfl⟩
  have O0 : Hid (OwnG XE w1 M 58 (.slice none 0 0) []) := (show OwnG _ _ _ _ _ _ from ownG_nil _ _ _)
  have T0 : Hid (ownA [] (K.drop 0) = T) := HT
  have L0 : Hid (Below w1.heap.size w1 w1) := Below.refl _ _
  clear hr hw1
  go_enter Tryz.func36, Tryz.ntmps36
  go_upto_region 1 with fail
  change Code.wp _ _ _ _ (w.alloc (.cells (RC r).toArray 41 (0, 0)))
  rw [← HW.out, HN.out]
  go_wp2_with fail
  go_loopg [3, 12] (n + 1) (fun g x z wr => ∃ (i m : Nat) (acc : List Rz) (a : Option Addr) (c : Nat), i ≤ n ∧ g + i = n + 1 ∧ x = .slice a m c ∧ z = .int .i64 (i : Int) ∧ m ≤ i ∧ Hid (acc.length = m) ∧ Hid (ownA acc (K.drop i) = T) ∧ Hid (OwnG XE wr M 58 (.slice a m c) acc) ∧ Hid (Below w1.heap.size w1 wr))
  case atStart => exact ⟨0, 0, [], none, 0, Nat.zero_le _, by omega, rfl, rfl, Nat.le_refl _, (show _ = _ from rfl), T0, O0, L0⟩
  case round =>
    clear T0 O0 L0 d9
    obtain ⟨i, m, acc, a, c, hi, hg, rfl, rfl, hmi, HML, HKT, OR, LR⟩ := hrel
    by_cases hlt : i < n
    · have hlt2 : i < K.length := by rw [HNn.out]; exact hlt
      have hlt' : (i : Int) < (n : Int) := by omega
      have RB := RX.out.kept LR.out
      obtain ⟨bb, off, rfl, hb1, hx⟩ := RB.rd.nth (by omega)
      have hrow : wr.rangeAt bb (off + i * 4) (XC K[i]) := hx i hlt2
      have HDR : Hid (K.drop i = K[i] :: K.drop (i + 1)) := (show _ = _ from List.drop_eq_getElem_cons hlt2)
      obtain ⟨x, HXx⟩ : ∃ o, Hid (K[i] = o) := ⟨K[i], (show K[i] = K[i] from rfl)⟩
      rw [HXx.out] at hrow HDR
      obtain ⟨E, HE⟩ : ∃ E, Hid (wr.heap.size = E) := ⟨_, rfl⟩
      obtain ⟨w3, hw3⟩ : ∃ y, y = wr.alloc (.cells (XC x).toArray 58 (0, 0)) := ⟨_, rfl⟩
      obtain ⟨b3, l3⟩ := newB HE hw3
      have HW3 := hide hw3
      obtain ⟨xs, HXs⟩ : ∃ z, Hid (x.sc = z) := ⟨_, rfl⟩
      obtain ⟨xk, HXk⟩ : ∃ z, Hid (x.k = z) := ⟨_, rfl⟩
      obtain ⟨F, HF⟩ : ∃ F : Rz → Bool, Hid ((fun y : Rz => !x.sc && !y.sc && x.k.toList == y.k.toList) = F) := ⟨_, rfl⟩
      have HFA : Hid (∀ y : Rz, F y = (!xs && !y.sc && xk.toList == y.k.toList)) := (show _ from fun y => by rw [← HF.out, ← HXs.out, ← HXk.out])
      have HAG : Hid (again acc x = acc.any F) := (show _ = _ by rw [← HF.out]; rfl)
      have O3 := hide (OR.out.kept l3.out)
      have LR3 : Hid (Below w1.heap.size w1 w3) := (show Below _ _ _ from LR.out.trans (l3.out.mono LR.out.size))
      have HKTT := HKT.out
      rw [HDR.out] at HKTT
      have HKT2 : Hid ((if again acc x = true then ownA acc (K.drop (i + 1)) else ownA (acc ++ [x]) (K.drop (i + 1))) = T) := (show _ = _ from HKTT)
      have hmcap : m ≤ 9223372036854775807 := by omega
      clear hx hw3 RB HKTT
      go_upto_region 7 with (first
        | (refine wpList_load_mid rfl 58 _ rfl bb (off + i * 4) rfl (XC x) _ hrow Tryz.underlying58 rfl Tryz.size58 ?_)
        | (refine wpList_store_new rfl 58 _ _ rfl wr _ (XC x).toArray _ rfl rfl rfl Tryz.size58 rfl (all_one (XC_one x)) ?_; rw [← HW3.out, HE.out])
        | fail)
      have R3 : Hid (Below w3.heap.size w3 w3) := Below.refl _ _
      have B0 : Hid ((acc.take 0).any F = false) := (show _ = _ from rfl)
      clear hrow
      go_loopg [6, 18] (m + 1) (fun g y z wr => ∃ (j : Nat) (b : Bool), j ≤ m ∧ g + j = m + 1 ∧ y = .bool b ∧ z = .int .i64 (j : Int) ∧ Hid ((acc.take j).any F = b) ∧ Hid (Below w3.heap.size w3 wr))
      case atStart => exact ⟨0, false, Nat.zero_le _, by omega, rfl, rfl, B0, R3⟩
      case round =>
        clear R3 B0
        obtain ⟨j, b, hj, hgj, rfl, rfl, HB, LR4⟩ := hrel
        by_cases hltj : j < m
        · have hlt2j : j < acc.length := by rw [HML.out]; exact hltj
          have hltj' : (j : Int) < (m : Int) := by omega
          obtain ⟨ba, oa, rfl, hba, hx⟩ := (O3.out.rd.kept LR4.out).nth (by omega)
          have hrow : wr.rangeAt ba (oa + j * 4) (XC acc[j]) := hx j hlt2j
          have HTK : Hid (acc.take (j + 1) = acc.take j ++ [acc[j]]) := (show _ = _ from List.take_succ_eq_append_getElem hlt2j)
          obtain ⟨y, HYy⟩ : ∃ o, Hid (acc[j] = o) := ⟨acc[j], (show acc[j] = acc[j] from rfl)⟩
          rw [HYy.out] at hrow HTK
          obtain ⟨E4, HE4⟩ : ∃ E, Hid (wr.heap.size = E) := ⟨_, rfl⟩
          obtain ⟨w4, hw4⟩ : ∃ y', y' = wr.alloc (.cells (XC y).toArray 58 (0, 0)) := ⟨_, rfl⟩
          obtain ⟨b4, l4⟩ := newB HE4 hw4
          have HW4 := hide hw4
          have L4 : Hid (Below w3.heap.size w3 w4) := (show Below _ _ _ from LR4.out.trans (l4.out.mono LR4.out.size))
          have e0 := (b3.out.kept L4.out).xsc
          have e1 := (b3.out.kept L4.out).xk
          have f0 := b4.out.xsc
          have f1 := b4.out.xk
          obtain ⟨ys, HYs⟩ : ∃ z, Hid (y.sc = z) := ⟨_, rfl⟩
          obtain ⟨yk, HYk⟩ : ∃ z, Hid (y.k = z) := ⟨_, rfl⟩
          rw [HXs.out] at e0
          rw [HXk.out] at e1
          rw [HYs.out] at f0
          rw [HYk.out] at f1
          have HB2 : Hid ((acc.take (j + 1)).any F = (b || (!xs && !ys && xk.toList == yk.toList))) := (show _ = _ by rw [HTK.out, List.any_append, HB.out, List.any_cons, List.any_nil, Bool.or_false, HFA.out, HYs.out, HYk.out])
          clear hx hw4 HTK HB
          go_upto_region 9 with (first
            | (refine wpList_load_mid rfl 58 _ rfl ba (oa + j * 4) rfl (XC y) _ hrow Tryz.underlying58 rfl Tryz.size58 ?_)
            | (refine wpList_store_new rfl 58 _ _ rfl wr _ (XC y).toArray _ rfl rfl rfl Tryz.size58 rfl (all_one (XC_one y)) ?_; rw [← HW4.out, HE4.out])
            | fail)
          try simp only [Act.put]
          clear hrow
          obtain ⟨e, he⟩ : ∃ e, (xk.toList == yk.toList) = e := ⟨_, rfl⟩
          have HE9 := hide he
          rcases b with _ | _ <;> rcases xs with _ | _ <;> rcases ys with _ | _ <;> rcases e with _ | _
          all_goals
            have HB3 := HB2.out
            rw [HE9.out] at HB3
            simp only [Bool.not_false, Bool.not_true, Bool.true_and, Bool.and_true, Bool.false_and, Bool.and_false, Bool.or_false, Bool.or_true, Bool.false_or, Bool.true_or] at HB3
            replace HB3 := hide HB3
            go_wp2_with fail
            go_roundg (m - j)
            case measure => omega
            case rel => exact ⟨j + 1, _, by omega, by omega, rfl, by go_num, HB3, L4⟩
        · obtain rfl : j = m := by omega
          have hltj' : ¬ (j : Int) < j := by omega
          have hfull : acc.take j = acc := List.take_of_length_le (by rw [HML.out]; exact Nat.le_refl _)
          have HB2 := HB.out
          rw [hfull, ← HAG.out] at HB2
          replace HB2 := hide HB2
          have L5 : Hid (Below w1.heap.size w1 wr) := (show Below _ _ _ from LR3.out.trans (LR4.out.mono LR3.out.size))
          have O5 := hide (O3.out.kept LR4.out)
          have rk := (b3.out.kept LR4.out).range0
          clear hfull
          cases b with
          | true =>
            have T6 : Hid (ownA acc (K.drop (i + 1)) = T) := (show _ = _ by
              have := HKT2.out
              rwa [if_pos HB2.out] at this)
            clear rk
            go_wp2_with fail
            go_roundg (n - i)
            case measure => omega
            case rel => exact ⟨i + 1, j, acc, a, c, by omega, by omega, rfl, by go_num, by omega, HML, T6, O5, L5⟩
          | false =>
            have T6 : Hid (ownA (acc ++ [x]) (K.drop (i + 1)) = T) := (show _ = _ by
              have := HKT2.out
              rwa [if_neg (by rw [HB2.out]; simp)] at this)
            have HL9 : Hid (acc.length + [x].length ≤ 10000000) := (show _ ≤ _ by rw [List.length_singleton, HML.out]; omega)
            have hMr : M ≤ wr.heap.size := by have h1 := HM.out; have h2 := L5.out.size; omega
            have HL8 : Hid (M ≤ (wr.alloc (.cells (XE.c x).toArray 58 (0, 0))).heap.size) := (show _ ≤ _ by simp; omega)
            go_wp2_with (first
              | (refine wpList_load_mid rfl 58 _ rfl E 0 rfl (XC x) _ rk Tryz.underlying58 rfl Tryz.size58 ?_)
              | (refine wpList_build1E (E := XE) build_read1 rfl _ rfl x rfl ?_)
              | (refine wpList_append_E (E := XE) Tryz.underlying39 infoX (by decide) rfl (.tmp 43) (.tmp 45) rfl M (.slice a j c) acc rfl (O5.out.kept ((Below.refl _ _).alloc (Nat.le_refl _) _)) (.slice (some ⟨wr.heap.size, 0, none⟩) 1 1) [x] rfl (rdG_one (E := XE) wr 58 x) HL9.out HL8.out ?_; intro v9 w9 o9 g9 q9)
              | fail)
            obtain ⟨p9, c9, hv9⟩ := o9.form
            have hn9 : (acc ++ [x]).length = j + 1 := by rw [List.length_append, List.length_singleton, HML.out]
            rw [hn9] at hv9
            subst hv9
            have O9 := hide o9
            have HM9 := hide hn9
            have L9 : Hid (Below w1.heap.size w1 w9) := (show Below _ _ _ from by
              have hG : Chg (fun b => (Value.slice a j c).ownBlock = some b) wr w9 := (Chg.alloc _ wr (.cells (XE.c x).toArray 58 (0, 0))).trans (Chg.of_grown g9 (fun k e _ => e))
              exact L5.out.trans (hG.below L5.out.size (fun k hk e => by have := (O5.out.block e).1; have := HM.out; omega)))
            clear o9 g9 q9 hn9
            go_roundg (n - i)
            case measure => omega
            case rel => exact ⟨i + 1, j + 1, acc ++ [x], p9, c9, by omega, by omega, rfl, by go_num, by omega, HM9, T6, O9, L9⟩
    · obtain rfl : i = n := by omega
      have hlt' : ¬ (i : Int) < i := by omega
      have HE : Hid (acc = T) := (show _ = _ by
        have := HKT.out
        rwa [List.drop_of_length_le (by rw [HNn.out]; exact Nat.le_refl _)] at this)
      have RF : Hid (RdX wr (.slice a m c) T) := (show RdX _ _ _ by
        rw [← HE.out]
        exact ⟨OR.out.rd, fun x hx => ((RX.out.kept LR.out).ps x (HTM.out x (by rw [← HE.out]; exact hx)))⟩)
      go_wp2_with fail
      go_ret
      exact ⟨_, rfl, RF.out, l1.out.trans (LR.out.mono l1.out.size)⟩
end Go.Proofs.YtcicekggeampcaaGreat

/-
  Pairs held against each other; the reference's same.
-/
namespace Go.Proofs.YtcicekggeampcaaGreat
open Go.RowKit
set_option maxRecDepth 100000 in
set_option maxHeartbeats 1000000 in
theorem sameR_any {u v : Value} {A B : List Pr} {w : World} (hu : RdG PE w u A) (hv : RdG PE w v B) :
    Calls Tryz.prog 38 #[u, v] w fun e w' => e = .returned (.bool (decide (A = B))) ∧ Below w.heap.size w w' := by
  have H4 := hide hu
  have H5 := hide hv
  obtain ⟨a, cap, rfl⟩ := hu.slice
  obtain ⟨a2, cap2, rfl⟩ := hv.slice
  have hm := Nat.le_trans hu.cap hu.max
  clear hu hv
  by_cases hlen : A.length = B.length
  · have hne : ((A.length : Int) != (B.length : Int)) = false := by simp [hlen]
    have HLEN := hide hlen
    clear hlen
    go_enter Tryz.func38, Tryz.ntmps38
    go_wp2_with fail
    go_loopg [13] (A.length + 1) (fun g z wr => ∃ i : Nat, i ≤ A.length ∧ g + i = A.length + 1 ∧ z = .int .i64 (i : Int) ∧ Hid (A.take i = B.take i) ∧ Hid (Below w.heap.size w wr))
    case atStart => exact ⟨0, Nat.zero_le _, rfl, rfl, rfl, Below.refl _ _⟩
    case round =>
      obtain ⟨i, hi, hg, rfl, HT, BL⟩ := hrel
      by_cases hlt : i < A.length
      · have hlt2 : i < B.length := by have := HLEN.out; omega
        have hd : Below w.heap.size w wr := BL.out
        obtain ⟨b, off, rfl, hb1, hc⟩ := (H4.out.kept hd).nth (by omega)
        obtain ⟨b2, off2, rfl, hb2, hc2⟩ := (H5.out.kept hd).nth (by omega)
        have rx := hc i hlt
        have ry := hc2 i hlt2
        obtain ⟨p, HP⟩ : ∃ p, Hid (A[i] = p) := ⟨A[i], (show A[i] = A[i] from rfl)⟩
        obtain ⟨r, HR⟩ : ∃ r, Hid (B[i] = r) := ⟨B[i], (show B[i] = B[i] from rfl)⟩
        rw [HP.out] at rx
        rw [HR.out] at ry
        have hlt' : (i : Int) < A.length := by omega
        have hlt2' : (i : Int) < B.length := by omega
        have KX : Hid (∀ w', (∃ p : Regrown, w' = Go.Sort.grow (redrawn wr p.d) p.os) → w'.rangeAt b (off + i * 3) (PC p)) := (show _ from fun w' h => by
          obtain ⟨q, rfl⟩ := h
          exact fun j u hj => ((below_regrown wr q.d q.os).cell (p := ⟨b, off + i * 3 + j, none⟩) hb1).trans (rx j u hj))
        have KY : Hid (∀ w', (∃ p : Regrown, w' = Go.Sort.grow (redrawn wr p.d) p.os) → w'.rangeAt b2 (off2 + i * 3) (PC r)) := (show _ from fun w' h => by
          obtain ⟨q, rfl⟩ := h
          exact fun j u hj => ((below_regrown wr q.d q.os).cell (p := ⟨b2, off2 + i * 3 + j, none⟩) hb2).trans (ry j u hj))
        have hne2 := ne_pair p r
        obtain ⟨q, HQ⟩ : ∃ q, Hid (decide (p = r) = q) := ⟨_, rfl⟩
        rw [HQ.out] at hne2
        clear hc hc2 rx ry hd
        go_upto_region 6 with fail
        refine wp_region_quiet_below Tryz.mixed (by kernel_rfl) ?_
        iterate 3 (go_big_quiet_step (fail))
        refine wpQuiet_load_mid rfl 51 _ rfl b (off + i * 3) rfl (PC p) _ KX.out Tryz.underlying51 rfl Tryz.size51 ?_
        simp only [Act.put, List.setIfInBounds_toArray, List.set_cons_succ, List.set_cons_zero]
        iterate 3 (go_big_quiet_step (fail))
        refine wpQuiet_load_mid rfl 51 _ rfl b2 (off2 + i * 3) rfl (PC r) _ KY.out Tryz.underlying51 rfl Tryz.size51 ?_
        simp only [Act.put, List.setIfInBounds_toArray, List.set_cons_succ, List.set_cons_zero]
        go_big_quiet_step (fail)
        refine wpQuiet_nil ?_
        intro w3 hw3
        have L3 : Hid (Below w.heap.size w w3) := (show Below _ _ _ by obtain ⟨⟨dq, osq⟩, rfl⟩ := hw3; exact BL.out.trans ((below_regrown wr dq osq).mono BL.out.size))
        clear hw3 KX KY hne2
        cases q with
        | true =>
          have HT2 : Hid (A.take (i + 1) = B.take (i + 1)) := (show _ = _ by rw [List.take_succ_eq_append_getElem hlt, List.take_succ_eq_append_getElem hlt2, HT.out, HP.out, HR.out, of_decide_eq_true HQ.out])
          go_wp2_with fail
          go_roundg (gk - 1)
          case measure => omega
          case rel => exact ⟨i + 1, by omega, by omega, by go_num, HT2, L3⟩
        | false =>
          have HF : Hid (decide (A = B) = false) := (show _ = _ by
            rw [decide_eq_false_iff_not]
            intro e
            have := of_decide_eq_false HQ.out
            subst e
            exact this (HP.out.symm.trans HR.out))
          go_wp2_with fail
          go_ret
          exact ⟨by rw [HF.out]; rfl, L3.out⟩
      · obtain rfl : i = A.length := by omega
        have HF : Hid (decide (A = B) = true) := (show _ = _ by
          rw [decide_eq_true_eq]
          have := HT.out
          rwa [List.take_of_length_le (Nat.le_refl _), HLEN.out, List.take_of_length_le (Nat.le_refl _)] at this)
        have hlt' : ¬ (A.length : Int) < A.length := by omega
        go_wp2_with fail
        go_ret
        exact ⟨by rw [HF.out]; rfl, BL.out⟩
  · have hne : ((A.length : Int) != (B.length : Int)) = true := by simp; omega
    have HF : Hid (decide (A = B) = false) := (show _ = _ by
      rw [decide_eq_false_iff_not]
      exact fun e => hlen (by rw [e]))
    clear hlen
    go_enter Tryz.func38, Tryz.ntmps38
    go_wp2_with fail
    go_ret
    exact ⟨by rw [HF.out]; rfl, Below.refl _ _⟩
end Go.Proofs.YtcicekggeampcaaGreat
