/-
  indenturelaw05.ints: what the call does.
-/
import Derived.Test.YtnkcjhfdmnpckaaDArgs
import Derived.Test.YtnkcjhfdmnpckaaDUn
namespace Go.Proofs.Ytnkcjhfdmnpckaa
open Go.RowKit
theorem RdN.at {w : World} {v : Value} {l : List Int} (h : RdN w v l) : ∃ a cp, v = .slice a l.length cp ∧ l.length ≤ 9223372036854775807 ∧ (0 < l.length → ∃ b off, a = some ⟨b, off, none⟩ ∧ ∀ j (hj : j < l.length), w.cell? ⟨b, off + j, none⟩ = some (.int .i64 l[j])) := by
  obtain ⟨a, cp, rfl, h1, h2, h3, h4⟩ := h
  refine ⟨a, cp, rfl, by unfold maxLen at h2; omega, fun hp => ?_⟩
  obtain ⟨b, off, rfl, _, hc⟩ := h4 hp
  exact ⟨b, off, rfl, fun j hj => hc j hj⟩
set_option maxHeartbeats 2000000 in
set_option maxRecDepth 100000 in
theorem ints_any {w : World} {va vb : Value} {A B : List Int} (ha : RdN w va A) (hb : RdN w vb B) : Calls Try.prog 23 #[va, vb] w fun e w' => e = .returned (.bool (decide (A = B))) ∧ Below w.heap.size w w' := by
  have HA : Hid (RdN w va A) := ha
  have HB : Hid (RdN w vb B) := hb
  obtain ⟨a, ca, rfl, la, -⟩ := ha.at
  obtain ⟨b, cb, rfl, lb, -⟩ := hb.at
  clear ha hb
  obtain ⟨n, HN⟩ : ∃ n, Hid (A.length = n) := ⟨_, rfl⟩
  obtain ⟨k, HK⟩ : ∃ k, Hid (B.length = k) := ⟨_, rfl⟩
  rw [HN.out] at la HA ⊢
  rw [HK.out] at lb HB ⊢
  go_enter Try.func23, Try.ntmps23
  by_cases hne : n = k
  · subst hne
    go_wp2_with fail
    go_loopg [13] n (fun g x wr => ∃ i : Nat, g + i = n ∧ x = .int .i64 (i : Int) ∧ Hid (Below w.heap.size w wr) ∧ Hid (∀ j, j < i → A[j]? = B[j]?))
    case atStart => exact ⟨0, by omega, rfl, Below.refl _ _, (show _ from fun j hj => by omega)⟩
    case round =>
      obtain ⟨i, hgi, rfl, LR, HR⟩ := hrel
      by_cases hlt : i < n
      · have q2 : (i : Int) < (n : Int) := by omega
        have ha : i < A.length := by rw [HN.out]; exact hlt
        have hb : i < B.length := by rw [HK.out]; exact hlt
        obtain ⟨_, _, e1, -, h1⟩ := (HA.out.kept LR.out).at
        simp only [Value.slice.injEq] at e1
        obtain ⟨rfl, -, rfl⟩ := e1
        obtain ⟨ba, oa, rfl, hca⟩ := h1 (by omega)
        obtain ⟨_, _, e2, -, h2⟩ := (HB.out.kept LR.out).at
        simp only [Value.slice.injEq] at e2
        obtain ⟨rfl, -, rfl⟩ := e2
        obtain ⟨bb, ob, rfl, hcb⟩ := h2 (by omega)
        have ca := hca i ha
        have cb' := hcb i hb
        clear hca hcb h1 h2
        obtain ⟨x, HX⟩ : ∃ x, Hid (A[i] = x) := ⟨A[i], (show A[i] = A[i] from rfl)⟩
        obtain ⟨y, HY⟩ : ∃ y, Hid (B[i] = y) := ⟨B[i], (show B[i] = B[i] from rfl)⟩
        rw [HX.out] at ca
        rw [HY.out] at cb'
        go_upto_region 6 with fail
        by_cases hxy : x = y
        · have HXY : Hid (x = y) := hxy
          subst hxy
          go_quiet (fail)
          have L2 : Hid (Below w.heap.size w (wr.drewN 1)) := LR.out.trans ((below_drewN _ _ _).mono LR.out.size)
          go_wp2_with fail
          go_roundg (gk - 1)
          case measure => omega
          case rel =>
            refine ⟨i + 1, by omega, by go_num, LR.out.trans ((below_drewN _ _ _).mono LR.out.size), (show _ from fun j hj => ?_)⟩
            by_cases hji : j < i
            · exact HR.out j hji
            · obtain rfl : j = i := by omega
              rw [List.getElem?_eq_getElem ha, List.getElem?_eq_getElem hb, HX.out, HY.out]
        · have q3 : decide (x = y) = false := by simp [hxy]
          go_quiet (fail)
          go_wp2
          go_ret
          refine ⟨?_, LR.out.trans ((below_drewN _ _ _).mono LR.out.size)⟩
          have : A ≠ B := fun e => hxy (by rw [← HX.out, ← HY.out]; simp [e])
          simp [this]
      · obtain rfl : i = n := by omega
        go_wp2
        go_ret
        refine ⟨?_, LR.out⟩
        have : A = B := List.ext_getElem? fun j => by
          by_cases hj : j < i
          · exact HR.out j hj
          · rw [List.getElem?_eq_none (by rw [HN.out]; omega), List.getElem?_eq_none (by rw [HK.out]; omega)]
        simp [this]
  · have q1 : decide ((n : Int) = (k : Int)) = false := by simp; omega
    go_wp2
    go_ret
    refine ⟨?_, Below.refl _ _⟩
    have : A ≠ B := fun e => hne (by rw [← HN.out, ← HK.out, e])
    simp [this]
end Go.Proofs.Ytnkcjhfdmnpckaa
