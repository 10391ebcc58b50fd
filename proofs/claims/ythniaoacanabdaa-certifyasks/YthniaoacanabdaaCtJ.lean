/-
  The reference's Own: what the call does.
-/
import Derived.Test.YthniaoacanabdaaCtC
namespace Go.Proofs.Ythniaoacanabdaa
open Go.RowKit
theorem ownA_mem : ∀ {l acc : List Rz} {x : Rz}, x ∈ ownA acc l → x ∈ acc ∨ x ∈ l
  | [], acc, x, h => .inl h
  | y :: l, acc, x, h => by
    unfold ownA at h
    split at h
    · rcases ownA_mem h with h | h
      · exact .inl h
      · exact .inr (List.mem_cons_of_mem _ h)
    · rcases ownA_mem h with h | h
      · rcases List.mem_append.1 h with h | h
        · exact .inl h
        · rw [List.mem_singleton] at h
          subst h
          exact .inr (List.mem_cons_self ..)
      · exact .inr (List.mem_cons_of_mem _ h)
theorem ownP_mem {l : List Rz} {x : Rz} (h : x ∈ ownP l) : x ∈ l := by
  rcases ownA_mem h with h | h
  · cases h
  · exact h
set_option linter.unusedSimpArgs false in
set_option maxHeartbeats 8000000 in
set_option maxRecDepth 100000 in
theorem ownR_any {w : World} {r : Rc} (hr : ROk w r) (hl : r.rs.length ≤ 1000000) : Calls Try.prog 17 #[.agg (RC r).toArray] w fun e w' => ∃ v, e = .returned v ∧ RdX w' v (ownP r.rs) ∧ Below w.heap.size w w' := by
  obtain ⟨N, HN⟩ : ∃ N, Hid (w.heap.size = N) := ⟨_, rfl⟩
  obtain ⟨w1, hw1⟩ : ∃ y, y = w.alloc (.cells (RC r).toArray 25 (0, 0)) := ⟨_, rfl⟩
  obtain ⟨b1, l1⟩ := newB HN hw1
  have HW := hide hw1
  have d9 := b1.out.rrs
  have hzx := zeroX
  have RX : Hid (RdX w1 (.slice r.ra r.rs.length r.rc) r.rs) := (show RdX _ _ _ from (hr.kept l1.out).rs)
  obtain ⟨K, HK⟩ : ∃ K, Hid (r.rs = K) := ⟨_, rfl⟩
  unfold rv at d9
  rw [HK.out] at d9 RX hl ⊢
  obtain ⟨n, HNn⟩ : ∃ n, Hid (K.length = n) := ⟨_, rfl⟩
  rw [HNn.out] at d9 RX hl
  obtain ⟨ra, HRA⟩ : ∃ y, Hid (r.ra = y) := ⟨_, rfl⟩
  obtain ⟨rc, HRC⟩ : ∃ y, Hid (r.rc = y) := ⟨_, rfl⟩
  rw [HRA.out, HRC.out] at d9 RX
  obtain ⟨T, HT⟩ : ∃ T, Hid (ownP K = T) := ⟨_, rfl⟩
  rw [HT.out]
  have HTM : Hid (∀ x ∈ T, x ∈ K) := (show _ from fun x hx => ownP_mem (by rw [HT.out]; exact hx))
  obtain ⟨M, HM⟩ : ∃ M, Hid (w1.heap.size = M) := ⟨_, rfl⟩
  have O0 : Hid (OwnG XE w1 M 27 (.slice none 0 0) []) := (show OwnG _ _ _ _ _ _ from ownG_nil _ _ _)
  have T0 : Hid (ownA [] (K.drop 0) = T) := HT
  have L0 : Hid (Below w1.heap.size w1 w1) := Below.refl _ _
  clear hr hw1
  go_enter Try.func17, Try.ntmps17
  go_upto_region 1 with fail
  change Code.wp _ _ _ _ (w.alloc (.cells (RC r).toArray 25 (0, 0)))
  rw [← HW.out, HN.out]
  go_wp2_with fail
  go_loopg [3, 12] (n + 1) (fun g x z wr => ∃ (i m : Nat) (acc : List Rz) (a : Option Addr) (c : Nat), i ≤ n ∧ g + i = n + 1 ∧ x = .slice a m c ∧ z = .int .i64 (i : Int) ∧ m ≤ i ∧ Hid (acc.length = m) ∧ Hid (ownA acc (K.drop i) = T) ∧ Hid (OwnG XE wr M 27 (.slice a m c) acc) ∧ Hid (Below w1.heap.size w1 wr))
  case atStart => exact ⟨0, 0, [], none, 0, Nat.zero_le _, by omega, rfl, rfl, Nat.le_refl _, (show _ = _ from rfl), T0, O0, L0⟩
  case round =>
    clear T0 O0 L0 d9
    obtain ⟨i, m, acc, a, c, hi, hg, rfl, rfl, hmi, HML, HKT, OR, LR⟩ := hrel
    by_cases hlt : i < n
    · have hlt2 : i < K.length := by rw [HNn.out]; exact hlt
      have hlt' : (i : Int) < (n : Int) := by omega
      have RB := RX.out.kept LR.out
      obtain ⟨bb, off, rfl, hb1, hx⟩ := RB.rd.nth (by omega)
      have hrow : wr.rangeAt bb (off + i * 4) (XC K[i]) := hx i hlt2
      have HDR : Hid (K.drop i = K[i] :: K.drop (i + 1)) := (show _ = _ from List.drop_eq_getElem_cons hlt2)
      obtain ⟨x, HXx⟩ : ∃ o, Hid (K[i] = o) := ⟨K[i], (show K[i] = K[i] from rfl)⟩
      rw [HXx.out] at hrow HDR
      obtain ⟨E, HE⟩ : ∃ E, Hid (wr.heap.size = E) := ⟨_, rfl⟩
      obtain ⟨w3, hw3⟩ : ∃ y, y = wr.alloc (.cells (XC x).toArray 27 (0, 0)) := ⟨_, rfl⟩
      obtain ⟨b3, l3⟩ := newB HE hw3
      have HW3 := hide hw3
      obtain ⟨xs, HXs⟩ : ∃ z, Hid (x.sc = z) := ⟨_, rfl⟩
      obtain ⟨xk, HXk⟩ : ∃ z, Hid (x.k = z) := ⟨_, rfl⟩
      obtain ⟨F, HF⟩ : ∃ F : Rz → Bool, Hid ((fun y : Rz => !x.sc && !y.sc && x.k.toList == y.k.toList) = F) := ⟨_, rfl⟩
      have HFA : Hid (∀ y : Rz, F y = (!xs && !y.sc && xk.toList == y.k.toList)) := (show _ from fun y => by rw [← HF.out, ← HXs.out, ← HXk.out])
      have HAG : Hid (again acc x = acc.any F) := (show _ = _ by rw [← HF.out]; rfl)
      have O3 := hide (OR.out.kept l3.out)
      have LR3 : Hid (Below w1.heap.size w1 w3) := (show Below _ _ _ from LR.out.trans (l3.out.mono LR.out.size))
      have HKTT := HKT.out
      rw [HDR.out] at HKTT
      have HKT2 : Hid ((if again acc x = true then ownA acc (K.drop (i + 1)) else ownA (acc ++ [x]) (K.drop (i + 1))) = T) := (show _ = _ from HKTT)
      have hmcap : m ≤ 9223372036854775807 := by omega
      clear hx hw3 RB HKTT
      go_upto_region 7 with (first
        | (refine wpList_load_mid rfl 27 _ rfl bb (off + i * 4) rfl (XC x) _ hrow Try.underlying27 rfl Try.size27 ?_)
        | (refine wpList_store_new rfl 27 _ _ rfl wr _ (XC x).toArray _ rfl rfl rfl Try.size27 rfl (all_one (XC_one x)) ?_; rw [← HW3.out, HE.out])
        | fail)
      have R3 : Hid (Below w3.heap.size w3 w3) := Below.refl _ _
      have B0 : Hid ((acc.take 0).any F = false) := (show _ = _ from rfl)
      clear hrow
      go_loopg [6, 18] (m + 1) (fun g y z wr => ∃ (j : Nat) (b : Bool), j ≤ m ∧ g + j = m + 1 ∧ y = .bool b ∧ z = .int .i64 (j : Int) ∧ Hid ((acc.take j).any F = b) ∧ Hid (Below w3.heap.size w3 wr))
      case atStart => exact ⟨0, false, Nat.zero_le _, by omega, rfl, rfl, B0, R3⟩
      case round =>
        clear R3 B0
        obtain ⟨j, b, hj, hgj, rfl, rfl, HB, LR4⟩ := hrel
        by_cases hltj : j < m
        · have hlt2j : j < acc.length := by rw [HML.out]; exact hltj
          have hltj' : (j : Int) < (m : Int) := by omega
          obtain ⟨ba, oa, rfl, hba, hx⟩ := (O3.out.rd.kept LR4.out).nth (by omega)
          have hrow : wr.rangeAt ba (oa + j * 4) (XC acc[j]) := hx j hlt2j
          have HTK : Hid (acc.take (j + 1) = acc.take j ++ [acc[j]]) := (show _ = _ from List.take_succ_eq_append_getElem hlt2j)
          obtain ⟨y, HYy⟩ : ∃ o, Hid (acc[j] = o) := ⟨acc[j], (show acc[j] = acc[j] from rfl)⟩
          rw [HYy.out] at hrow HTK
          obtain ⟨E4, HE4⟩ : ∃ E, Hid (wr.heap.size = E) := ⟨_, rfl⟩
          obtain ⟨w4, hw4⟩ : ∃ y', y' = wr.alloc (.cells (XC y).toArray 27 (0, 0)) := ⟨_, rfl⟩
          obtain ⟨b4, l4⟩ := newB HE4 hw4
          have HW4 := hide hw4
          have L4 : Hid (Below w3.heap.size w3 w4) := (show Below _ _ _ from LR4.out.trans (l4.out.mono LR4.out.size))
          have e0 := (b3.out.kept L4.out).xsc
          have e1 := (b3.out.kept L4.out).xk
          have f0 := b4.out.xsc
          have f1 := b4.out.xk
          obtain ⟨ys, HYs⟩ : ∃ z, Hid (y.sc = z) := ⟨_, rfl⟩
          obtain ⟨yk, HYk⟩ : ∃ z, Hid (y.k = z) := ⟨_, rfl⟩
          rw [HXs.out] at e0
          rw [HXk.out] at e1
          rw [HYs.out] at f0
          rw [HYk.out] at f1
          have HB2 : Hid ((acc.take (j + 1)).any F = (b || (!xs && !ys && xk.toList == yk.toList))) := (show _ = _ by rw [HTK.out, List.any_append, HB.out, List.any_cons, List.any_nil, Bool.or_false, HFA.out, HYs.out, HYk.out])
          clear hx hw4 HTK HB
          go_upto_region 9 with (first
            | (refine wpList_load_mid rfl 27 _ rfl ba (oa + j * 4) rfl (XC y) _ hrow Try.underlying27 rfl Try.size27 ?_)
            | (refine wpList_store_new rfl 27 _ _ rfl wr _ (XC y).toArray _ rfl rfl rfl Try.size27 rfl (all_one (XC_one y)) ?_; rw [← HW4.out, HE4.out])
            | fail)
          try simp only [Act.put]
          clear hrow
          obtain ⟨e, he⟩ : ∃ e, (xk.toList == yk.toList) = e := ⟨_, rfl⟩
          have HE9 := hide he
          rcases b with _ | _ <;> rcases xs with _ | _ <;> rcases ys with _ | _ <;> rcases e with _ | _
          all_goals
            have HB3 := HB2.out
            rw [HE9.out] at HB3
            simp only [Bool.not_false, Bool.not_true, Bool.true_and, Bool.and_true, Bool.false_and, Bool.and_false, Bool.or_false, Bool.or_true, Bool.false_or, Bool.true_or] at HB3
            replace HB3 := hide HB3
            go_wp2_with fail
            go_roundg (m - j)
            case measure => omega
            case rel => exact ⟨j + 1, _, by omega, by omega, rfl, by go_num, HB3, L4⟩
        · obtain rfl : j = m := by omega
          have hltj' : ¬ (j : Int) < j := by omega
          have hfull : acc.take j = acc := List.take_of_length_le (by rw [HML.out]; exact Nat.le_refl _)
          have HB2 := HB.out
          rw [hfull, ← HAG.out] at HB2
          replace HB2 := hide HB2
          have L5 : Hid (Below w1.heap.size w1 wr) := (show Below _ _ _ from LR3.out.trans (LR4.out.mono LR3.out.size))
          have O5 := hide (O3.out.kept LR4.out)
          have rk := (b3.out.kept LR4.out).range0
          clear hfull
          cases b with
          | true =>
            have T6 : Hid (ownA acc (K.drop (i + 1)) = T) := (show _ = _ by
              have := HKT2.out
              rwa [if_pos HB2.out] at this)
            clear rk
            go_wp2_with fail
            go_roundg (n - i)
            case measure => omega
            case rel => exact ⟨i + 1, j, acc, a, c, by omega, by omega, rfl, by go_num, by omega, HML, T6, O5, L5⟩
          | false =>
            have T6 : Hid (ownA (acc ++ [x]) (K.drop (i + 1)) = T) := (show _ = _ by
              have := HKT2.out
              rwa [if_neg (by rw [HB2.out]; simp)] at this)
            have HL9 : Hid (acc.length + [x].length ≤ 10000000) := (show _ ≤ _ by rw [List.length_singleton, HML.out]; omega)
            have hMr : M ≤ wr.heap.size := by have h1 := HM.out; have h2 := L5.out.size; omega
            have HL8 : Hid (M ≤ (wr.alloc (.cells (XE.c x).toArray 27 (0, 0))).heap.size) := (show _ ≤ _ by simp; omega)
            go_wp2_with (first
              | (refine wpList_load_mid rfl 27 _ rfl E 0 rfl (XC x) _ rk Try.underlying27 rfl Try.size27 ?_)
              | (refine wpList_build1E (E := XE) build_read1 rfl _ rfl x rfl ?_)
              | (refine wpList_append_E (E := XE) Try.underlying22 infoX (by decide) rfl (.tmp 43) (.tmp 45) rfl M (.slice a j c) acc rfl (O5.out.kept ((Below.refl _ _).alloc (Nat.le_refl _) _)) (.slice (some ⟨wr.heap.size, 0, none⟩) 1 1) [x] rfl (rdG_one (E := XE) wr 27 x) HL9.out HL8.out ?_; intro v9 w9 o9 g9 q9)
              | fail)
            obtain ⟨p9, c9, hv9⟩ := o9.form
            have hn9 : (acc ++ [x]).length = j + 1 := by rw [List.length_append, List.length_singleton, HML.out]
            rw [hn9] at hv9
            subst hv9
            have O9 := hide o9
            have HM9 := hide hn9
            have L9 : Hid (Below w1.heap.size w1 w9) := (show Below _ _ _ from by
              have hG : Chg (fun b => (Value.slice a j c).ownBlock = some b) wr w9 := (Chg.alloc _ wr (.cells (XE.c x).toArray 27 (0, 0))).trans (Chg.of_grown g9 (fun k e _ => e))
              exact L5.out.trans (hG.below L5.out.size (fun k hk e => by have := (O5.out.block e).1; have := HM.out; omega)))
            clear o9 g9 q9 hn9
            go_roundg (n - i)
            case measure => omega
            case rel => exact ⟨i + 1, j + 1, acc ++ [x], p9, c9, by omega, by omega, rfl, by go_num, by omega, HM9, T6, O9, L9⟩
    · obtain rfl : i = n := by omega
      have hlt' : ¬ (i : Int) < i := by omega
      have HE : Hid (acc = T) := (show _ = _ by
        have := HKT.out
        rwa [List.drop_of_length_le (by rw [HNn.out]; exact Nat.le_refl _)] at this)
      have RF : Hid (RdX wr (.slice a m c) T) := (show RdX _ _ _ by
        rw [← HE.out]
        exact ⟨OR.out.rd, fun x hx => ((RX.out.kept LR.out).ps x (HTM.out x (by rw [← HE.out]; exact hx)))⟩)
      go_wp2_with fail
      go_ret
      exact ⟨_, rfl, RF.out, l1.out.trans (LR.out.mono l1.out.size)⟩
#print axioms ownR_any
end Go.Proofs.Ythniaoacanabdaa
