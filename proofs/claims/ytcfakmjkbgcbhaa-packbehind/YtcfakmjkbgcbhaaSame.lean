/-
  indentureref01.Same, indenturelaw01.light: what the calls do.
-/
import Derived.Test.YtcfakmjkbgcbhaaRefGetList
namespace Go.Proofs.Ytcfakmjkbgcbhaa
open Go.RowKit

theorem ba_ne {s t : ByteArray} (h : s ≠ t) : (s.toList == t.toList) = false := by
  rw [beq_eq_false_iff_ne, ByteArray.toList_eq, ByteArray.toList_eq]
  exact fun e => h (WideShapes.bytes_inj e)

set_option maxRecDepth 100000 in
set_option maxHeartbeats 1000000 in
theorem same_any (u v : Value) (ss tt : List ByteArray) (w : World) (hu : RdS w u ss) (hv : RdS w v tt) (hl : ss.length ≤ 140737488300000) (hl2 : tt.length ≤ 140737488300000) :
    Calls Try.prog 27 #[u, v] w fun e w' => e = .returned (.bool (decide (ss = tt))) ∧ ∃ n, w' = w.drewN n := by
  obtain ⟨a, cap, rfl, -, -, -, h4⟩ := hu
  obtain ⟨a2, cap2, rfl, -, -, -, h5⟩ := hv
  by_cases hlen : ss.length = tt.length
  · have hne : ((ss.length : Int) != (tt.length : Int)) = false := by simp [hlen]
    have HLEN : Hid (ss.length = tt.length) := hlen
    clear hlen
    go_enter Try.func27, Try.ntmps27
    go_wp2_with fail
    go_loopw [13] (fun z wr => ∃ i n : Nat, i ≤ ss.length ∧ z = .int .i64 i ∧ Hid (ss.take i = tt.take i) ∧ wr = w.drewN n)
      (fun z _ => ss.length - (intOf z).toNat)
    case atStart => exact ⟨0, 0, Nat.zero_le _, rfl, rfl, rfl⟩
    case round =>
      obtain ⟨i, n, hi, rfl, HT, rfl⟩ := hrel
      by_cases hlt : i < ss.length
      · have hlt2 : i < tt.length := by have := HLEN.out; omega
        obtain ⟨b, off, rfl, -, hc⟩ := h4 (by omega)
        obtain ⟨b2, off2, rfl, -, hc2⟩ := h5 (by omega)
        have hc' := hc i hlt
        have hc2' := hc2 i hlt2
        have hlt' : (i : Int) < ss.length := by omega
        have hlt2' : (i : Int) < tt.length := by omega
        by_cases he : ss[i] = tt[i]
        · have HT2 : Hid (ss.take (i + 1) = tt.take (i + 1)) := (show _ = _ by rw [List.take_succ_eq_append_getElem hlt, List.take_succ_eq_append_getElem hlt2, HT.out, he])
          rw [he] at hc'
          clear hc hc2 h4 h5 he
          generalize tt[i] = s at *
          go_wp2_with fail
          go_quiet (fail)
          go_wp2
          go_roundw
          case rel => exact ⟨i + 1, _, by omega, by go_num, HT2, rfl⟩
          case measure => simp [intOf]; omega
        · have HF : Hid (decide (ss = tt) = false) := (show _ = _ by
            rw [decide_eq_false_iff_not]
            intro e
            subst e
            exact he rfl)
          have he' : (ss[i].toList == tt[i].toList) = false := ba_ne he
          clear hc hc2 h4 h5 he
          generalize ss[i] = s at *
          generalize tt[i] = t at *
          go_wp2_with fail
          go_quiet (fail)
          go_wp2
          go_ret
          exact ⟨by rw [HF.out]; rfl, _, World.drewN_drewN _ _ _⟩
      · obtain rfl : i = ss.length := by omega
        have HF : Hid (decide (ss = tt) = true) := (show _ = _ by
          rw [decide_eq_true_eq]
          have := HT.out
          rwa [List.take_of_length_le (Nat.le_refl _), HLEN.out, List.take_of_length_le (Nat.le_refl _)] at this)
        have hlt' : ¬ (ss.length : Int) < ss.length := by omega
        go_wp2_with fail
        go_ret
        exact ⟨by rw [HF.out]; rfl, n, rfl⟩
  · have hne : ((ss.length : Int) != (tt.length : Int)) = true := by rw [bne_iff_ne]; omega
    have HF : Hid (decide (ss = tt) = false) := (show _ = _ by
      rw [decide_eq_false_iff_not]
      intro e
      exact hlen (by rw [e]))
    clear hlen
    go_enter Try.func27, Try.ntmps27
    go_wp2_with fail
    go_ret
    exact ⟨by rw [HF.out]; rfl, 0, rfl⟩

theorem foldl_add (l : List Nat) : ∀ a, l.foldl (· + ·) a = a + l.foldl (· + ·) 0 := by
  induction l with
  | nil => intro a; simp
  | cons x r ih => intro a; simp only [List.foldl_cons]; rw [ih (a + x), ih (0 + x)]; omega
def sumS (ss : List ByteArray) : Nat := (ss.map ByteArray.size).foldl (· + ·) 0
theorem sumS_nil : sumS [] = 0 := rfl
theorem sumS_append (a b : List ByteArray) : sumS (a ++ b) = sumS a + sumS b := by
  unfold sumS
  rw [List.map_append, List.foldl_append, foldl_add]
theorem sumS_take (ss : List ByteArray) (i : Nat) (h : i < ss.length) : sumS (ss.take (i + 1)) = sumS (ss.take i) + ss[i].size := by
  rw [List.take_succ_eq_append_getElem h, sumS_append]
  simp [sumS]
theorem sumS_take_le (ss : List ByteArray) (i : Nat) : sumS (ss.take i) ≤ sumS ss := by
  have h := congrArg sumS (List.take_append_drop i ss)
  rw [sumS_append] at h
  omega

/-- Are texts not more, nor longer, than are looked at? -/
def lightB (ss : List ByteArray) : Bool := decide (ss.length ≤ 300) && decide (ss.length + sumS ss ≤ 4000)

set_option maxRecDepth 100000 in
set_option maxHeartbeats 1000000 in
theorem light_any (u : Value) (ss : List ByteArray) (w : World) (hu : RdS w u ss) (hsz : ∀ s ∈ ss, s.size ≤ 140737488351232) :
    Calls Try.prog 22 #[u] w fun e w' => e = .returned (.bool (lightB ss)) ∧ w' = w := by
  obtain ⟨a, cap, rfl, -, -, -, h4⟩ := hu
  by_cases hlen : 300 < ss.length
  · have HF : Hid (lightB ss = false) := (show _ = _ by simp [lightB]; omega)
    have hlen' : (300 : Int) < ss.length := by omega
    go_enter Try.func22, Try.ntmps22
    go_wp2_with fail
    go_ret
    exact ⟨by rw [HF.out]; rfl, rfl⟩
  · have hlen' : ¬ (300 : Int) < ss.length := by omega
    go_enter Try.func22, Try.ntmps22
    go_wp2_with fail
    go_loop [3, 12] (fun y z => ∃ i : Nat, i ≤ ss.length ∧ z = .int .i64 i ∧ Hid (ss.length + sumS (ss.take i) ≤ 4000 ∨ i = 0) ∧ y = .int .i64 ((ss.length + sumS (ss.take i) : Nat) : Int))
      (fun _ z => ss.length - (intOf z).toNat)
    case atStart => exact ⟨0, Nat.zero_le _, rfl, .inr rfl, rfl⟩
    case round =>
      obtain ⟨i, hi, rfl, HB, rfl⟩ := hrel
      have hle := sumS_take_le ss i
      have hN : ss.length + sumS (ss.take i) ≤ 4000 := by
        rcases HB.out with h | h
        · exact h
        · subst h; simp [sumS]; omega
      by_cases hlt : i < ss.length
      · obtain ⟨b, off, rfl, -, hc⟩ := h4 (by omega)
        have hc' := hc i hlt
        have hlt' : (i : Int) < ss.length := by omega
        have hst := sumS_take ss i hlt
        have hle2 := sumS_take_le ss (i + 1)
        have hs := hsz ss[i] (List.getElem_mem hlt)
        have HST : Hid (ss.length + sumS (ss.take (i + 1)) = ss.length + sumS (ss.take i) + ss[i].size) := (show _ = _ by omega)
        have hs' : (ss[i].size : Int) ≤ 140737488351232 := by omega
        generalize ss.length + sumS (ss.take i) = N at *
        have hN' : (N : Int) ≤ 4000 := by omega
        by_cases hbig : 4000 < N + ss[i].size
        · have HF : Hid (lightB ss = false) := (show _ = _ by simp [lightB]; have := HST.out; omega)
          have hbig' : (4000 : Int) < (N : Int) + ss[i].size := by omega
          clear hst hle2 hc h4 hle HST hs
          generalize ss[i] = s at *
          go_wp2_with fail
          go_ret
          exact ⟨by rw [HF.out]; rfl, rfl⟩
        · have hbig' : ¬ (4000 : Int) < (N : Int) + ss[i].size := by omega
          have HN2 : Hid (N + ss[i].size ≤ 4000) := (show N + ss[i].size ≤ 4000 by omega)
          clear hst hle2 hc h4 hle hs
          generalize ss[i] = s at *
          go_wp2_with fail
          go_round
          case rel => exact ⟨i + 1, by omega, by go_num, .inl (by rw [HST.out]; exact HN2.out), by rw [HST.out]; go_num⟩
          case measure => simp [intOf]; omega
      · obtain rfl : i = ss.length := by omega
        have HF : Hid (lightB ss = true) := (show _ = _ by
          rw [List.take_of_length_le (Nat.le_refl _)] at hN
          simp [lightB]
          omega)
        have hlt' : ¬ (ss.length : Int) < ss.length := by omega
        clear hle
        go_wp2_with fail
        go_ret
        exact ⟨by rw [HF.out]; rfl, rfl⟩
theorem light_k (u : Value) (ss : List ByteArray) (w : World) (x : Bool) (hx : Hid (lightB ss = x)) (hu : RdS w u ss) (hsz : ∀ s ∈ ss, s.size ≤ 140737488351232) :
    Calls Try.prog 22 #[u] w fun e w' => e = .returned (.bool x) ∧ w' = w := by
  have := light_any u ss w hu hsz
  rw [hx.out] at this
  exact this
#print axioms light_any
#print axioms same_any
end Go.Proofs.Ytcfakmjkbgcbhaa
