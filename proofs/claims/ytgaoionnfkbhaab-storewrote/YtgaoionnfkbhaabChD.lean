/-
  chain's Trim and Put: what the calls do.
-/
import Derived.Test.YtgaoionnfkbhaabChC
namespace Go.Proofs.Ytgaoionnfkbhaab
open Go.RowKit

theorem trimP_none {L : List Ver} {n : Int} (h : gd 0 L = true) (hu : (upto n L).length = 0) : trimP L n = L.drop 0 := by
  have hr := (gd_rise h).1
  unfold trimP
  rw [if_pos h, List.eq_nil_of_length_eq_zero hu, ← drop_upto hr, hu]
  rfl
theorem trimP_dead {L : List Ver} {n : Int} {v : Ver} (h : gd 0 L = true) (hu : (upto n L).getLast? = some v) (hd : v.2.2 = true) : trimP L n = L.drop (upto n L).length := by
  have hr := (gd_rise h).1
  unfold trimP liveL
  rw [if_pos h, hu, drop_upto hr]
  simp [hd]
theorem trimP_live {L : List Ver} {n : Int} {v : Ver} (h : gd 0 L = true) (hu : (upto n L).getLast? = some v) (hd : v.2.2 = false) : trimP L n = L.drop ((upto n L).length - 1) := by
  have hr := (gd_rise h).1
  have hp : 0 < (upto n L).length := by
    rcases Nat.eq_zero_or_pos (upto n L).length with h0 | h0
    · rw [List.eq_nil_of_length_eq_zero h0] at hu; simp at hu
    · exact h0
  have hlt : (upto n L).length - 1 < L.length := by have := upto_le n L; omega
  rw [drop_cons hlt, show (upto n L).length - 1 + 1 = (upto n L).length by omega, drop_upto hr]
  have := upto_last hr hp
  rw [hu] at this
  rw [← Option.some.inj this]
  unfold trimP liveL
  rw [if_pos h, hu]
  simp [hd]

end Go.Proofs.Ytgaoionnfkbhaab
