/-
  Pairs held against each other; the reference's same.
-/
import Derived.Test.YtmicmbjbclkbjaaCtM
import Derived.Laws.StructEq
import Derived.Lib.QuietBelow
namespace Go.Proofs.Ytmicmbjbclkbjaa
open Go.RowKit
theorem ne_pair (x y : Pr) (W : World) : (binOp .neq 41 (.agg (PC x).toArray) (.agg (PC y).toArray)).run Try.prog W = .ok (.bool (!decide (x = y))) W := by
  have u4 := Try.underlying4
  have u9 := Try.underlying9
  obtain ⟨a, s, d⟩ := x
  obtain ⟨a', s', d'⟩ := y
  rw [run_neq_struct, run_equalIn_agg W 9999 41 _ _ (by kernel_rfl) (by kernel_rfl)]
  simp [Program.fieldsOf, Try.underlying41, Op.eqFields, PC, go_sem, part, u4, u9, ba_inj]
  by_cases h1 : a = a' <;> by_cases h2 : s = s' <;> by_cases h3 : d = d' <;> simp [h1, h2, h3]
set_option maxRecDepth 100000 in
set_option maxHeartbeats 1000000 in
theorem sameR_any {u v : Value} {A B : List Pr} {w : World} (hu : RdG PE w u A) (hv : RdG PE w v B) :
    Calls Try.prog 24 #[u, v] w fun e w' => e = .returned (.bool (decide (A = B))) ∧ Below w.heap.size w w' := by
  have H4 := hide hu
  have H5 := hide hv
  obtain ⟨a, cap, rfl⟩ := hu.slice
  obtain ⟨a2, cap2, rfl⟩ := hv.slice
  have hm := Nat.le_trans hu.cap hu.max
  clear hu hv
  by_cases hlen : A.length = B.length
  · have hne : ((A.length : Int) != (B.length : Int)) = false := by simp [hlen]
    have HLEN := hide hlen
    clear hlen
    go_enter Try.func24, Try.ntmps24
    go_wp2_with fail
    go_loopg [13] (A.length + 1) (fun g z wr => ∃ i : Nat, i ≤ A.length ∧ g + i = A.length + 1 ∧ z = .int .i64 (i : Int) ∧ Hid (A.take i = B.take i) ∧ Hid (Below w.heap.size w wr))
    case atStart => exact ⟨0, Nat.zero_le _, rfl, rfl, rfl, Below.refl _ _⟩
    case round =>
      obtain ⟨i, hi, hg, rfl, HT, BL⟩ := hrel
      by_cases hlt : i < A.length
      · have hlt2 : i < B.length := by have := HLEN.out; omega
        have hd : Below w.heap.size w wr := BL.out
        obtain ⟨b, off, rfl, hb1, hc⟩ := (H4.out.kept hd).nth (by omega)
        obtain ⟨b2, off2, rfl, hb2, hc2⟩ := (H5.out.kept hd).nth (by omega)
        have rx := hc i hlt
        have ry := hc2 i hlt2
        obtain ⟨p, HP⟩ : ∃ p, Hid (A[i] = p) := ⟨A[i], (show A[i] = A[i] from rfl)⟩
        obtain ⟨r, HR⟩ : ∃ r, Hid (B[i] = r) := ⟨B[i], (show B[i] = B[i] from rfl)⟩
        rw [HP.out] at rx
        rw [HR.out] at ry
        have hlt' : (i : Int) < A.length := by omega
        have hlt2' : (i : Int) < B.length := by omega
        have KX : Hid (∀ w', (∃ p : Regrown, w' = Go.Sort.grow (redrawn wr p.d) p.os) → w'.rangeAt b (off + i * 3) (PC p)) := (show _ from fun w' h => by
          obtain ⟨q, rfl⟩ := h
          exact fun j u hj => ((below_regrown wr q.d q.os).cell (p := ⟨b, off + i * 3 + j, none⟩) hb1).trans (rx j u hj))
        have KY : Hid (∀ w', (∃ p : Regrown, w' = Go.Sort.grow (redrawn wr p.d) p.os) → w'.rangeAt b2 (off2 + i * 3) (PC r)) := (show _ from fun w' h => by
          obtain ⟨q, rfl⟩ := h
          exact fun j u hj => ((below_regrown wr q.d q.os).cell (p := ⟨b2, off2 + i * 3 + j, none⟩) hb2).trans (ry j u hj))
        have hne2 := ne_pair p r
        obtain ⟨q, HQ⟩ : ∃ q, Hid (decide (p = r) = q) := ⟨_, rfl⟩
        rw [HQ.out] at hne2
        clear hc hc2 rx ry hd
        go_upto_region 6 with fail
        refine wp_region_quiet_below Try.mixed (by kernel_rfl) ?_
        iterate 3 (go_big_quiet_step (fail))
        refine wpQuiet_load_mid rfl 41 _ rfl b (off + i * 3) rfl (PC p) _ KX.out Try.underlying41 rfl Try.size41 ?_
        simp only [Act.put, List.setIfInBounds_toArray, List.set_cons_succ, List.set_cons_zero]
        iterate 3 (go_big_quiet_step (fail))
        refine wpQuiet_load_mid rfl 41 _ rfl b2 (off2 + i * 3) rfl (PC r) _ KY.out Try.underlying41 rfl Try.size41 ?_
        simp only [Act.put, List.setIfInBounds_toArray, List.set_cons_succ, List.set_cons_zero]
        go_big_quiet_step (fail)
        refine wpQuiet_nil ?_
        intro w3 hw3
        have L3 : Hid (Below w.heap.size w w3) := (show Below _ _ _ by obtain ⟨⟨dq, osq⟩, rfl⟩ := hw3; exact BL.out.trans ((below_regrown wr dq osq).mono BL.out.size))
        clear hw3 KX KY hne2
        cases q with
        | true =>
          have HT2 : Hid (A.take (i + 1) = B.take (i + 1)) := (show _ = _ by rw [List.take_succ_eq_append_getElem hlt, List.take_succ_eq_append_getElem hlt2, HT.out, HP.out, HR.out, of_decide_eq_true HQ.out])
          go_wp2_with fail
          go_roundg (gk - 1)
          case measure => omega
          case rel => exact ⟨i + 1, by omega, by omega, by go_num, HT2, L3⟩
        | false =>
          have HF : Hid (decide (A = B) = false) := (show _ = _ by
            rw [decide_eq_false_iff_not]
            intro e
            have := of_decide_eq_false HQ.out
            subst e
            exact this (HP.out.symm.trans HR.out))
          go_wp2_with fail
          go_ret
          exact ⟨by rw [HF.out]; rfl, L3.out⟩
      · obtain rfl : i = A.length := by omega
        have HF : Hid (decide (A = B) = true) := (show _ = _ by
          rw [decide_eq_true_eq]
          have := HT.out
          rwa [List.take_of_length_le (Nat.le_refl _), HLEN.out, List.take_of_length_le (Nat.le_refl _)] at this)
        have hlt' : ¬ (A.length : Int) < A.length := by omega
        go_wp2_with fail
        go_ret
        exact ⟨by rw [HF.out]; rfl, BL.out⟩
  · have hne : ((A.length : Int) != (B.length : Int)) = true := by simp; omega
    have HF : Hid (decide (A = B) = false) := (show _ = _ by
      rw [decide_eq_false_iff_not]
      exact fun e => hlen (by rw [e]))
    clear hlen
    go_enter Try.func24, Try.ntmps24
    go_wp2_with fail
    go_ret
    exact ⟨by rw [HF.out]; rfl, Below.refl _ _⟩
end Go.Proofs.Ytmicmbjbclkbjaa
