/-
  slices.BinarySearch over keys in order: what the call does.
-/
import Derived.Test.YtgaoionnfkbhaaaStG
namespace Go.Proofs.Ytgaoionnfkbhaaa
open Go.RowKit
set_option maxRecDepth 100000 in
theorem snan_any (a : ByteArray) (w : World) : Calls Try.prog 63 #[.string a] w fun e w' => e = .returned (.bool false) ∧ w' = w := by
  go_enter Try.func63, Try.ntmps63
  go_wp2
  go_ret
  exact ⟨rfl, rfl⟩
set_option maxRecDepth 100000 in
theorem cnan_any (a : ByteArray) (w : World) : Calls Try.prog 66 #[.string a] w fun e w' => e = .returned (.bool false) ∧ w' = w := by
  go_enter Try.func66, Try.ntmps66
  go_wp2
  go_ret
  exact ⟨rfl, rfl⟩
set_option maxRecDepth 100000 in
theorem less_any (a b : ByteArray) (w : World) : Calls Try.prog 62 #[.string a, .string b] w fun e w' => e = .returned (.bool (lt a b)) ∧ w' = w := by
  have hl := slt
  go_enter Try.func62, Try.ntmps62
  go_wp2_with fail
  refine (cnan_any a w).mono ?_
  rintro e w1 ⟨rfl, hw⟩; subst hw
  go_wp2_with fail
  go_ret
  exact ⟨rfl, rfl⟩
set_option maxHeartbeats 2000000 in
set_option maxRecDepth 100000 in
theorem bsearch_any {w : World} {v : Value} {ks : List ByteArray} (h : RdG KE w v ks) (hs : Srt ks) (hn : ks.length ≤ 4398046511104) (t : ByteArray) :
    Calls Try.prog 52 #[v, .string t] w fun e w' => e = .returned (.tuple #[.int .i64 (lb ks t : Int), .bool (fnd ks t)]) ∧ w' = w := by
  have HL := hide h
  obtain ⟨a, cp, rfl⟩ := h.slice
  have hln := hide (show ks.length = ks.length from rfl)
  have HS := hide hs
  clear h hs
  obtain ⟨n, HN⟩ : ∃ n, Hid (ks.length = n) := ⟨_, rfl⟩
  rw [HN.out] at HL hn ⊢
  obtain ⟨u, HU⟩ : ∃ u, Hid (lb ks t = u) := ⟨_, rfl⟩
  have HUn : Hid (u ≤ n) := (show _ by rw [← HU.out, ← HN.out]; exact lb_le _ _)
  have HF : Hid (fnd ks t = (ks[u]?).any fun k => k.toList == t.toList) := (show _ = _ by unfold fnd; rw [HU.out])
  rw [HU.out]
  obtain ⟨fd, HFd⟩ : ∃ x, Hid (fnd ks t = x) := ⟨_, rfl⟩
  rw [HFd.out] at HF ⊢
  clear HFd hln
  go_enter Try.func52, Try.ntmps52
  go_wp2_with fail
  go_loopg [7, 8] n (fun g x y wr => ∃ lo hi : Nat, x = .int .i64 (lo : Int) ∧ y = .int .i64 (hi : Int) ∧ hi ≤ n ∧ hi - lo ≤ g ∧ Hid (lo ≤ u ∧ u ≤ hi) ∧ Hid (wr = w))
  case atStart => exact ⟨0, n, rfl, rfl, Nat.le_refl _, by omega, ⟨Nat.zero_le _, HUn.out⟩, rfl⟩
  case round =>
    obtain ⟨lo, hi, rfl, rfl, hin, hg, HI, HW⟩ := hrel
    obtain rfl : wr = w := HW.out
    by_cases hlt : lo < hi
    · have q1 : (lo : Int) < (hi : Int) := by omega
      obtain ⟨m, HM⟩ : ∃ m, Hid ((lo + hi) / 2 = m) := ⟨_, rfl⟩
      have hm1 : lo ≤ m ∧ m < hi := by have := HM.out; omega
      have em : ((lo : Int) + (hi : Int)) / 2 = (m : Int) := by have := HM.out; omega
      obtain ⟨b, off, rfl, hlb, hx⟩ := HL.out.nth (by omega)
      have hmk : m < ks.length := by rw [HN.out]; omega
      have c0 : wr.cell? ⟨b, off + m, none⟩ = some (.string ks[m]) := by
        have := hx m hmk 0 _ rfl
        simpa [KE] using this
      have hat := hide (lb_at HS.out (t := t) hmk)
      rw [HU.out] at hat
      generalize ks[m] = km at c0 hat
      have hmn : (m : Int) < (n : Int) := by omega
      clear hx
      go_wp2_with fail
      refine (less_any km t wr).mono ?_
      rintro e w5 ⟨rfl, hw⟩; subst hw
      rw [hat.out]
      by_cases hum : m < u
      · rw [decide_eq_true hum]
        have I2 : Hid (m + 1 ≤ u ∧ u ≤ hi) := ⟨by omega, HI.out.2⟩
        go_wp2_with fail
        go_roundg (hi - (m + 1))
        case measure => omega
        case rel => exact ⟨m + 1, hi, by go_num, rfl, by omega, Nat.le_refl _, I2, rfl⟩
      · rw [decide_eq_false hum]
        have I2 : Hid (lo ≤ u ∧ u ≤ m) := ⟨HI.out.1, by omega⟩
        go_wp2_with fail
        go_roundg (m - lo)
        case measure => omega
        case rel => exact ⟨lo, m, rfl, rfl, by omega, Nat.le_refl _, I2, rfl⟩
    · obtain rfl : hi = lo := by have := HI.out; omega
      have q1 : ¬ (hi : Int) < (hi : Int) := by omega
      obtain rfl : hi = u := by have := HI.out; omega
      clear HI
      by_cases hun : hi < n
      · have q3 : (hi : Int) < (n : Int) := by omega
        obtain ⟨b, off, rfl, hlb, hx⟩ := HL.out.nth (by omega)
        have hmk : hi < ks.length := by rw [HN.out]; exact hun
        have c0 : wr.cell? ⟨b, off + hi, none⟩ = some (.string ks[hi]) := by
          have := hx hi hmk 0 _ rfl
          simpa [KE] using this
        rw [List.getElem?_eq_getElem hmk, Option.any_some] at HF
        generalize ks[hi] = km at c0 HF
        clear hx
        obtain ⟨q, hq⟩ : ∃ q, (km.toList == t.toList) = q := ⟨_, rfl⟩
        rw [hq] at HF
        obtain rfl : fd = q := HF.out
        cases fd with
        | true =>
          go_wp2_with fail
          go_ret2
          exact ⟨rfl, rfl⟩
        | false =>
          go_wp2_with fail
          refine (snan_any km wr).mono ?_
          rintro e w6 ⟨rfl, hw⟩; subst hw
          go_wp2_with fail
          go_ret2
          exact ⟨rfl, rfl⟩
      · have q3 : ¬ (hi : Int) < (n : Int) := by omega
        rw [List.getElem?_eq_none (by rw [HN.out]; omega)] at HF
        obtain rfl : fd = false := HF.out
        go_wp2_with fail
        go_ret2
        exact ⟨rfl, rfl⟩
#print axioms bsearch_any
end Go.Proofs.Ytgaoionnfkbhaaa
