/-
  indentureref05.has: what the call does.
-/
import Derived.Test.YtnkcjhfdmnpckaaDInts
namespace Go.Proofs.Ytnkcjhfdmnpckaa
open Go.RowKit
set_option maxHeartbeats 2000000 in
set_option maxRecDepth 100000 in
theorem has_any {w : World} {v : Value} {A : List Int} (ha : RdN w v A) (s : Int) : Calls Try.prog 44 #[v, .int .i64 s] w fun e w' => e = .returned (.bool (decide (s ∈ A))) ∧ w' = w := by
  have HA : Hid (RdN w v A) := ha
  obtain ⟨a, ca, rfl, la, -⟩ := ha.at
  clear ha
  obtain ⟨n, HN⟩ : ∃ n, Hid (A.length = n) := ⟨_, rfl⟩
  rw [HN.out] at la HA ⊢
  go_enter Try.func44, Try.ntmps44
  go_wp2_with fail
  go_loopg [9] n (fun g x wr => ∃ i : Nat, g + i = n ∧ x = .int .i64 (i : Int) ∧ wr = w ∧ Hid (∀ j, j < i → ∀ x, A[j]? = some x → x ≠ s))
  case atStart => exact ⟨0, by omega, rfl, rfl, (show _ from fun j hj => by omega)⟩
  case round =>
    obtain ⟨i, hgi, rfl, rfl, HR⟩ := hrel
    by_cases hlt : i < n
    · have q2 : (i : Int) < (n : Int) := by omega
      have hi : i < A.length := by rw [HN.out]; exact hlt
      obtain ⟨_, _, e1, -, h1⟩ := HA.out.at
      simp only [Value.slice.injEq] at e1
      obtain ⟨rfl, -, rfl⟩ := e1
      obtain ⟨ba, oa, rfl, hca⟩ := h1 (by omega)
      have cc := hca i hi
      clear hca h1
      obtain ⟨x, HX⟩ : ∃ x, Hid (A[i] = x) := ⟨A[i], (show A[i] = A[i] from rfl)⟩
      rw [HX.out] at cc
      by_cases hx : x = s
      · have HM : Hid (decide (s ∈ A) = true) := (show _ = _ by rw [decide_eq_true]; rw [← hx, ← HX.out]; exact List.getElem_mem hi)
        subst hx
        go_wp2
        go_ret
        exact ⟨congrArg (fun b => Ending.returned (.bool b)) HM.out.symm, rfl⟩
      · have q3 : decide (x = s) = false := by simp [hx]
        go_wp2_with fail
        go_roundg (gk - 1)
        case measure => omega
        case rel =>
          refine ⟨i + 1, by omega, by go_num, rfl, (show _ from fun j hj y hy => ?_)⟩
          by_cases hji : j < i
          · exact HR.out j hji y hy
          · obtain rfl : j = i := by omega
            rw [List.getElem?_eq_getElem hi, HX.out] at hy
            cases hy
            exact hx
    · obtain rfl : i = n := by omega
      have HM : Hid (decide (s ∈ A) = false) := (show _ = _ by
        rw [decide_eq_false]
        intro hs
        obtain ⟨j, hj, e⟩ := List.getElem_of_mem hs
        exact HR.out j (by rw [← HN.out]; exact hj) _ (List.getElem?_eq_getElem hj) e)
      go_wp2
      go_ret
      exact ⟨congrArg (fun b => Ending.returned (.bool b)) HM.out.symm, rfl⟩
end Go.Proofs.Ytnkcjhfdmnpckaa
