/-
  chain's Trim and Put: what the calls do.
-/
import Derived.Test.YtgaoionnfkbhaaaChC
namespace Go.Proofs.Ytgaoionnfkbhaaa
open Go.RowKit

theorem trimP_none {L : List Ver} {n : Int} (h : gd 0 L = true) (hu : (upto n L).length = 0) : trimP L n = L.drop 0 := by
  have hr := (gd_rise h).1
  unfold trimP
  rw [if_pos h, List.eq_nil_of_length_eq_zero hu, ← drop_upto hr, hu]
  rfl
theorem trimP_dead {L : List Ver} {n : Int} {v : Ver} (h : gd 0 L = true) (hu : (upto n L).getLast? = some v) (hd : v.2.2 = true) : trimP L n = L.drop (upto n L).length := by
  have hr := (gd_rise h).1
  unfold trimP liveL
  rw [if_pos h, hu, drop_upto hr]
  simp [hd]
theorem trimP_live {L : List Ver} {n : Int} {v : Ver} (h : gd 0 L = true) (hu : (upto n L).getLast? = some v) (hd : v.2.2 = false) : trimP L n = L.drop ((upto n L).length - 1) := by
  have hr := (gd_rise h).1
  have hp : 0 < (upto n L).length := by
    rcases Nat.eq_zero_or_pos (upto n L).length with h0 | h0
    · rw [List.eq_nil_of_length_eq_zero h0] at hu; simp at hu
    · exact h0
  have hlt : (upto n L).length - 1 < L.length := by have := upto_le n L; omega
  rw [drop_cons hlt, show (upto n L).length - 1 + 1 = (upto n L).length by omega, drop_upto hr]
  have := upto_last hr hp
  rw [hu] at this
  rw [← Option.some.inj this]
  unfold trimP liveL
  rw [if_pos h, hu]
  simp [hd]

set_option maxHeartbeats 2000000 in
set_option maxRecDepth 100000 in
theorem trim_any {w : World} {v : Value} {L : List Ver} (h : RdV w v L) (hl : L.length ≤ 4398046511104) (snap : Int) :
    Calls Try.prog 42 #[v, .int .i64 snap] w fun e w' => ∃ v', e = .returned v' ∧ OwnV w' w.heap.size 76 v' (trimP L snap) ∧ Below w.heap.size w w' := by
  have HL := hide h
  obtain ⟨a, cp, rfl⟩ := h.slice
  have hcap := h.cap
  clear h
  obtain ⟨n, HN⟩ : ∃ n, Hid (L.length = n) := ⟨_, rfl⟩
  rw [HN.out] at HL hl hcap ⊢
  go_enter Try.func42, Try.ntmps42
  go_wp2_with fail
  refine (good_any HL.out).mono ?_
  rintro e w5 ⟨rfl, hb5⟩
  have L5 := hide hb5
  clear hb5
  obtain ⟨q, HQ⟩ : ∃ q, Hid (gd 0 L = q) := ⟨_, rfl⟩
  rw [HQ.out]
  cases q with
  | false =>
    have HF : Hid (trimP L snap = []) := (show _ = _ by unfold trimP; rw [HQ.out]; rfl)
    go_wp2_with fail
    go_ret
    exact ⟨_, rfl, by rw [HF.out]; exact ownV_nil _ _ _, L5.out⟩
  | true =>
    have hr := (gd_rise HQ.out).1
    have hu := upto_le snap L
    rw [HN.out] at hu
    have HUL := hide (fun hp => upto_last' (n := snap) hr hp)
    have HU0 := hide (fun hp => trimP_none (n := snap) HQ.out hp)
    have HUD := hide (fun v => trimP_dead (n := snap) (v := v) HQ.out)
    have HUV := hide (fun v => trimP_live (n := snap) (v := v) HQ.out)
    have HUA := hide (fun i hi => upto_at (n := snap) hr (i := i) hi)
    go_wp2_with fail
    refine (upTo_any (HL.out.kept L5.out) hr (by rw [HN.out]; exact hl) snap).mono ?_
    rintro e w6 ⟨rfl, hb6⟩
    have L6 : Hid (Below w.heap.size w w6) := L5.out.trans (hb6.mono L5.out.size)
    clear hb6 hr
    generalize (upto snap L).length = u at hu HUL HU0 HUD HUV HUA ⊢
    by_cases h0 : u = 0
    · subst h0
      have HF := hide (HU0.out rfl)
      have e0 : ((0 : Nat) : Int) = 0 := rfl
      rw [e0]
      by_cases hn0 : n = 0
      · subst hn0
        have R6 := hide (HL.out.kept L6.out)
        go_wp2_with fail
        refine (copied_any R6.out (by rw [HN.out]; omega)).mono ?_
        rintro e w7 ⟨v', rfl, ho, hb7⟩
        have L7 : Hid (Below w.heap.size w w7) := L6.out.trans (hb7.mono L6.out.size)
        have O7 : Hid (OwnV w7 w.heap.size 76 v' (trimP L snap)) := (show OwnV _ _ _ _ _ by rw [HF.out]; exact ho.mono L6.out.size)
        clear hb7 ho
        go_wp2_with fail
        go_ret
        exact ⟨v', rfl, O7.out, L7.out⟩
      · have q0 : (0 : Int) < (n : Int) := by omega
        obtain ⟨b, off, rfl, hlb, hx⟩ := (HL.out.kept L6.out).nth (by omega)
        have hlt' : 0 < L.length := by rw [HN.out]; omega
        have hrg := hx 0 hlt'
        have ha := HUA.out 0 hlt'
        generalize L[0] = p at hrg ha
        obtain ⟨x, s, d⟩ := p
        have c0 := hrg 0 _ rfl
        have c2 := hrg 2 _ rfl
        simp only [Nat.zero_mul, Nat.add_zero] at c0 c2
        have q1 : decide (x ≤ snap) = false := by
          simp at ha
          simp
          exact ha
        clear hx HUL HU0 HUD HUV HUA ha hrg
        cases d with
        | false =>
          obtain ⟨a', hsl, hrd⟩ := slice_vers Try.underlying66 Try.size76 (some ⟨b, off, none⟩) n cp (0) (by omega) hcap
          have R6 := hide (hrd _ _ (HL.out.kept L6.out))
          clear hrd
          rw [e0] at hsl
          simp only [Nat.sub_zero] at hsl R6
          go_wp2_with fail
          refine (copied_any R6.out (by rw [List.length_drop, HN.out]; omega)).mono ?_
          rintro e w7 ⟨v', rfl, ho, hb7⟩
          have L7 : Hid (Below w.heap.size w w7) := L6.out.trans (hb7.mono L6.out.size)
          have O7 : Hid (OwnV w7 w.heap.size 76 v' (trimP L snap)) := (show OwnV _ _ _ _ _ by rw [HF.out]; exact ho.mono L6.out.size)
          clear hb7 ho
          go_wp2_with fail
          go_ret
          exact ⟨v', rfl, O7.out, L7.out⟩
        | true =>
          obtain ⟨a', hsl, hrd⟩ := slice_vers Try.underlying66 Try.size76 (some ⟨b, off, none⟩) n cp (0) (by omega) hcap
          have R6 := hide (hrd _ _ (HL.out.kept L6.out))
          clear hrd
          rw [e0] at hsl
          simp only [Nat.sub_zero] at hsl R6
          go_wp2_with fail
          refine (copied_any R6.out (by rw [List.length_drop, HN.out]; omega)).mono ?_
          rintro e w7 ⟨v', rfl, ho, hb7⟩
          have L7 : Hid (Below w.heap.size w w7) := L6.out.trans (hb7.mono L6.out.size)
          have O7 : Hid (OwnV w7 w.heap.size 76 v' (trimP L snap)) := (show OwnV _ _ _ _ _ by rw [HF.out]; exact ho.mono L6.out.size)
          clear hb7 ho
          go_wp2_with fail
          go_ret
          exact ⟨v', rfl, O7.out, L7.out⟩
    · have hul := HUL.out (by omega)
      obtain ⟨b, off, rfl, hlb, hx⟩ := (HL.out.kept L6.out).nth (by omega)
      have hlt' : u - 1 < L.length := by rw [HN.out]; omega
      have hrg := hx (u - 1) hlt'
      rw [List.getElem?_eq_getElem hlt'] at hul
      have ha := HUA.out (u - 1) hlt'
      generalize L[u - 1] = p at hrg hul ha
      obtain ⟨x, s, d⟩ := p
      have c0 := hrg 0 _ rfl
      have c2 := hrg 2 _ rfl
      simp only [Nat.add_zero] at c0 c2
      have q1 : decide (x ≤ snap) = true := by
        simp only [decide_eq_decide] at ha
        simp
        omega
      have e1 : (u : Int) - 1 = ((u - 1 : Nat) : Int) := by omega
      have e2 : ((u - 1 : Nat) : Int) < (n : Int) := by omega
      have e3 : max ((u - 1 : Nat) : Int) 0 = ((u - 1 : Nat) : Int) := by omega
      have e4 : ((u - 1 : Nat) : Int) + 1 = (u : Int) := by omega
      cases d with
      | false =>
        have HF := hide (HUV.out _ hul rfl)
        clear hx hul HUL HU0 HUD HUV HUA ha hrg
        obtain ⟨a', hsl, hrd⟩ := slice_vers Try.underlying66 Try.size76 (some ⟨b, off, none⟩) n cp (u - 1) (by omega) hcap
        have R6 := hide (hrd _ _ (HL.out.kept L6.out))
        clear hrd
        go_wp2_with fail
        refine (copied_any R6.out (by rw [List.length_drop, HN.out]; omega)).mono ?_
        rintro e w7 ⟨v', rfl, ho, hb7⟩
        have L7 : Hid (Below w.heap.size w w7) := L6.out.trans (hb7.mono L6.out.size)
        have O7 : Hid (OwnV w7 w.heap.size 76 v' (trimP L snap)) := (show OwnV _ _ _ _ _ by rw [HF.out]; exact ho.mono L6.out.size)
        clear hb7 ho
        go_wp2_with fail
        go_ret
        exact ⟨v', rfl, O7.out, L7.out⟩
      | true =>
        have HF := hide (HUD.out _ hul rfl)
        clear hx hul HUL HU0 HUD HUV HUA ha hrg
        obtain ⟨a', hsl, hrd⟩ := slice_vers Try.underlying66 Try.size76 (some ⟨b, off, none⟩) n cp (u) (by omega) hcap
        have R6 := hide (hrd _ _ (HL.out.kept L6.out))
        clear hrd
        go_wp2_with fail
        refine (copied_any R6.out (by rw [List.length_drop, HN.out]; omega)).mono ?_
        rintro e w7 ⟨v', rfl, ho, hb7⟩
        have L7 : Hid (Below w.heap.size w w7) := L6.out.trans (hb7.mono L6.out.size)
        have O7 : Hid (OwnV w7 w.heap.size 76 v' (trimP L snap)) := (show OwnV _ _ _ _ _ by rw [HF.out]; exact ho.mono L6.out.size)
        clear hb7 ho
        go_wp2_with fail
        go_ret
        exact ⟨v', rfl, O7.out, L7.out⟩
#print axioms trim_any
end Go.Proofs.Ytgaoionnfkbhaaa
