/-
  Texts that ride together: RcV RcC RcM.
-/
import Derived.Test.YtmicmbjbclkbjaaRcG
import Derived.Test.YtmicmbjbclkbjaaRcK
/-
  The document's Good of pairs: what the call does.
-/
namespace Go.Proofs.Ytmicmbjbclkbjaa
open Go.RowKit
theorem size_list (a : ByteArray) : a.toList.length = a.size := by
  rw [ByteArray.toList_eq]
  simp
theorem sz0 {a : ByteArray} (h : a.size = 0) : a = em := by
  rw [← ba_inj, em_list]
  exact List.eq_nil_of_length_eq_zero (by rw [size_list]; exact h)
set_option maxHeartbeats 2000000 in
set_option maxRecDepth 100000 in
theorem vGood_any {w : World} {v : Value} {L : List Pr} (h : RdG PE w v L) : Calls Try.prog 64 #[v] w fun e w' => e = .returned (.bool (goodP em L)) ∧ Below w.heap.size w w' := by
  have HL := hide h
  obtain ⟨a, cp, rfl⟩ := h.slice
  have hn : L.length ≤ 9223372036854775807 := Nat.le_trans h.cap h.max
  clear h
  have hz := Zpair
  obtain ⟨n, HN⟩ : ∃ n, Hid (L.length = n) := ⟨_, rfl⟩
  rw [HN.out] at HL hn ⊢
  go_enter Try.func64, Try.ntmps64
  go_wp2_with fail
  go_loopg [7] n (fun g x wr => ∃ (i : Nat) (last : ByteArray), g + i = n ∧ x = .int .i64 (i : Int) ∧ Hid (goodP last (L.drop i) = goodP em L) ∧ Hid (0 < i → ∃ h : i - 1 < L.length, (L[i - 1]).1 = last) ∧ Hid (i = 0 → last = em) ∧ Hid (Below w.heap.size w wr))
  case atStart => exact ⟨0, em, by omega, rfl, rfl, (show _ → _ from fun h => absurd h (by omega)), (show _ → _ from fun _ => rfl), Below.refl _ _⟩
  case round =>
    obtain ⟨i, last, hgi, rfl, HG, HP1, HP0, LR⟩ := hrel
    by_cases hlt : i < n
    · have q2 : (i : Int) < (n : Int) := by omega
      have hrd := hide (HL.out.kept LR.out)
      obtain ⟨b, off, rfl, hlb4, hx⟩ := (hrd.out).nth (by omega)
      have hlt' : i < L.length := by rw [HN.out]; exact hlt
      have hr : wr.rangeAt b (off + i * 3) (PC L[i]) := hx i hlt'
      obtain ⟨p, HPp⟩ : ∃ p, Hid (L[i] = p) := ⟨L[i], (show L[i] = L[i] from rfl)⟩
      rw [HPp.out] at hr
      clear hx hlb4
      go_upto_region 4 with (first
        | (refine wpList_load_mid rfl 41 _ rfl b (off + i * 3) rfl (PC p) _ hr Try.underlying41 rfl Try.size41 ?_)
        | (refine wpList_store_new rfl 41 _ _ rfl wr _ (PC p).toArray _ rfl rfl rfl Try.size41 rfl (all_one (PC_one p)) ?_)
        | fail)
      obtain ⟨E, HE⟩ : ∃ E, Hid (wr.heap.size = E) := ⟨_, rfl⟩
      rw [HE.out]
      obtain ⟨w4, hw4⟩ : ∃ x, x = wr.alloc (.cells (PC p).toArray 41 (0, 0)) := ⟨_, rfl⟩
      rw [← hw4]
      have G4 : Hid (Below wr.heap.size wr w4) := (show Below _ _ _ by rw [hw4]; exact (Below.refl _ _).alloc (Nat.le_refl _) _)
      have B4 : Hid (Blk w4 E 41 (PC p)) := (show Blk _ _ _ _ by rw [hw4, ← HE.out]; exact Blk.new wr 41 (PC p))
      clear hw4 hr
      have L4 : Hid (Below w.heap.size w w4) := LR.out.trans (G4.out.mono LR.out.size)
      have HG2 : Hid ((pOk p last && goodP p.1 (L.drop (i + 1))) = goodP em L) := (show _ = _ by rw [← HG.out, List.drop_eq_getElem_cons hlt', HPp.out, goodP])
      obtain ⟨ky, va, dd⟩ := p
      have HK1 : Hid ((L[i]'hlt').1 = ky) := (show (L[i]'hlt').1 = ky by rw [HPp.out])
      simp only at HG2
      have k0 := cell_regrown (B4.out.cell (j := 0) rfl)
      have k1 := cell_regrown (B4.out.cell (j := 1) rfl)
      have k2 := cell_regrown (B4.out.cell (j := 2) rfl)
      simp only at k0 k1 k2
      simp only [Act.put]
      have hpk : pOk (ky, va, dd) last = (lt last ky && decide (ky.size ≤ 64) && decide (va.size ≤ 256) && (!dd || va.toList.isEmpty)) := rfl
      by_cases h1 : ky.size < 1
      · have hbad : pOk (ky, va, dd) last = false := by rw [hpk, sz0 (a := ky) (by omega), not_lt_em]; rfl
        have f1 : decide ((ky.size : Int) < 1) = true := by simp; omega
        refine wp_region_quiet_below Try.mixed (by kernel_rfl) ?_
        repeat (go_big_quiet_step (fail))
        refine wpQuiet_nil ?_
        intro w5 hw5
        have D5 : Hid (Below w4.heap.size w4 w5) := (show Below _ _ _ by obtain ⟨⟨dq, osq⟩, rfl⟩ := hw5; exact below_regrown w4 dq osq)
        have L5 : Hid (Below w.heap.size w w5) := L4.out.trans (D5.out.mono L4.out.size)
        clear hw5 k0 k1 k2
        go_wp2_with fail
        go_ret
        exact ⟨by rw [← HG2.out, hbad]; rfl, L5.out⟩
      · have f1 : decide ((ky.size : Int) < 1) = false := by simp; omega
        by_cases h2 : 64 < ky.size
        · have hbad : pOk (ky, va, dd) last = false := by rw [hpk, show decide (ky.size ≤ 64) = false by simp; omega]; simp
          have f2 : decide ((64 : Int) < (ky.size : Int)) = true := by simp; omega
          refine wp_region_quiet_below Try.mixed (by kernel_rfl) ?_
          repeat (go_big_quiet_step (fail))
          refine wpQuiet_nil ?_
          intro w5 hw5
          have D5 : Hid (Below w4.heap.size w4 w5) := (show Below _ _ _ by obtain ⟨⟨dq, osq⟩, rfl⟩ := hw5; exact below_regrown w4 dq osq)
          have L5 : Hid (Below w.heap.size w w5) := L4.out.trans (D5.out.mono L4.out.size)
          clear hw5 k0 k1 k2
          go_wp2_with fail
          go_ret
          exact ⟨by rw [← HG2.out, hbad]; rfl, L5.out⟩
        · have f2 : decide ((64 : Int) < (ky.size : Int)) = false := by simp; omega
          by_cases h3 : 256 < va.size
          · have hbad : pOk (ky, va, dd) last = false := by rw [hpk, show decide (va.size ≤ 256) = false by simp; omega]; simp
            have f3 : decide ((256 : Int) < (va.size : Int)) = true := by simp; omega
            refine wp_region_quiet_below Try.mixed (by kernel_rfl) ?_
            repeat (go_big_quiet_step (fail))
            refine wpQuiet_nil ?_
            intro w5 hw5
            have D5 : Hid (Below w4.heap.size w4 w5) := (show Below _ _ _ by obtain ⟨⟨dq, osq⟩, rfl⟩ := hw5; exact below_regrown w4 dq osq)
            have L5 : Hid (Below w.heap.size w w5) := L4.out.trans (D5.out.mono L4.out.size)
            clear hw5 k0 k1 k2
            go_wp2_with fail
            go_ret
            exact ⟨by rw [← HG2.out, hbad]; rfl, L5.out⟩
          · have f3 : decide ((256 : Int) < (va.size : Int)) = false := by simp; omega
            have g2 : decide (ky.size ≤ 64) = true := by simp; omega
            have g3 : decide (va.size ≤ 256) = true := by simp; omega
            rw [g2, g3] at hpk
            simp only [Bool.and_true] at hpk
            cases dd with
            | true =>
              cases h4 : va.toList == ([] : List UInt8) with
              | false =>
                have hbad : pOk (ky, va, true) last = false := by
                  rw [hpk]
                  have : va.toList.isEmpty = false := by
                    cases hq : va.toList with
                    | nil => rw [hq] at h4; cases h4
                    | cons x y => rfl
                  rw [this]
                  simp
                refine wp_region_quiet_below Try.mixed (by kernel_rfl) ?_
                repeat (go_big_quiet_step (fail))
                refine wpQuiet_nil ?_
                intro w5 hw5
                have D5 : Hid (Below w4.heap.size w4 w5) := (show Below _ _ _ by obtain ⟨⟨dq, osq⟩, rfl⟩ := hw5; exact below_regrown w4 dq osq)
                have L5 : Hid (Below w.heap.size w w5) := L4.out.trans (D5.out.mono L4.out.size)
                clear hw5 k0 k1 k2
                go_wp2_with fail
                go_ret
                exact ⟨by rw [← HG2.out, hbad]; rfl, L5.out⟩
              | true =>
                have g4 : va.toList.isEmpty = true := by rw [beq_iff_eq] at h4; rw [h4]; rfl
                rw [g4] at hpk
                simp only [Bool.or_true, Bool.and_true] at hpk
                by_cases hi0 : i = 0
                · subst hi0
                  have e0 := HP0.out rfl
                  subst e0
                  have hgood : pOk (ky, va, true) em = true := by
                    rw [hpk, lt_em]
                    cases hq : ky.toList with
                    | nil =>
                      have : ky.size = 0 := by rw [← size_list, hq]; rfl
                      omega
                    | cons x y => rfl
                  have f5 : decide ((0 : Int) < ((0 : Nat) : Int)) = false := by simp
                  refine wp_region_quiet_below Try.mixed (by kernel_rfl) ?_
                  repeat (go_big_quiet_step (fail))
                  refine wpQuiet_nil ?_
                  intro w5 hw5
                  have D5 : Hid (Below w4.heap.size w4 w5) := (show Below _ _ _ by obtain ⟨⟨dq, osq⟩, rfl⟩ := hw5; exact below_regrown w4 dq osq)
                  have L5 : Hid (Below w.heap.size w w5) := L4.out.trans (D5.out.mono L4.out.size)
                  clear hw5 k0 k1 k2
                  go_wp2_with fail
                  go_roundg (gk - 1)
                  case measure => omega
                  case rel => exact ⟨0 + 1, ky, by omega, by go_num, (show _ = _ by rw [← HG2.out, hgood]; rfl), (show _ → _ from fun _ => ⟨by omega, by simp only [Nat.add_sub_cancel]; exact HK1.out⟩), (show _ → _ from fun h => absurd h (by omega)), L5⟩
                · obtain ⟨hi1, hlast⟩ := HP1.out (by omega)
                  obtain ⟨b3, off3, e3, hlb3, hx⟩ := (HL.out.kept L4.out).nth (by omega)
                  have hc : w4.cell? ⟨b3, off3 + (i - 1) * 3, none⟩ = some (.string (L[i - 1]).1) := hx (i - 1) hi1 0 (.string (L[i - 1]).1) rfl
                  cases e3
                  rw [hlast] at hc
                  have hcr := cell_regrown hc
                  have f5 : decide (0 < i) = true := by simp; omega
                  have f9 : IntKind.i64.wrap ((i : Int) - 1) = ((i - 1 : Nat) : Int) := by rw [wr64 (by omega) (by omega)]; omega
                  have f10 : ((i - 1 : Nat) : Int) < (n : Int) := by omega
                  clear hx hc hlb3
                  cases hup : lt last ky with
                  | true =>
                    have f8 : ∀ W, (binOp .leq 9 (.string ky) (.string last)).run Try.prog W = .ok (.bool false) W := fun W => by rw [sle, hup]; rfl
                    have hgood : pOk (ky, va, true) last = true := by rw [hpk, hup]
                    refine wp_region_quiet_below Try.mixed (by kernel_rfl) ?_
                    repeat (go_big_quiet_step (fail))
                    refine wpQuiet_nil ?_
                    intro w5 hw5
                    have D5 : Hid (Below w4.heap.size w4 w5) := (show Below _ _ _ by obtain ⟨⟨dq, osq⟩, rfl⟩ := hw5; exact below_regrown w4 dq osq)
                    have L5 : Hid (Below w.heap.size w w5) := L4.out.trans (D5.out.mono L4.out.size)
                    clear hw5 k0 k1 k2
                    go_wp2_with fail
                    go_roundg (gk - 1)
                    case measure => omega
                    case rel => exact ⟨i + 1, ky, by omega, by go_num, (show _ = _ by rw [← HG2.out, hgood]; rfl), (show _ → _ from fun _ => ⟨by omega, by simp only [Nat.add_sub_cancel]; exact HK1.out⟩), (show _ → _ from fun h => absurd h (by omega)), L5⟩
                  | false =>
                    have f8 : ∀ W, (binOp .leq 9 (.string ky) (.string last)).run Try.prog W = .ok (.bool true) W := fun W => by rw [sle, hup]; rfl
                    have hbad : pOk (ky, va, true) last = false := by rw [hpk, hup]
                    refine wp_region_quiet_below Try.mixed (by kernel_rfl) ?_
                    repeat (go_big_quiet_step (fail))
                    refine wpQuiet_nil ?_
                    intro w5 hw5
                    have D5 : Hid (Below w4.heap.size w4 w5) := (show Below _ _ _ by obtain ⟨⟨dq, osq⟩, rfl⟩ := hw5; exact below_regrown w4 dq osq)
                    have L5 : Hid (Below w.heap.size w w5) := L4.out.trans (D5.out.mono L4.out.size)
                    clear hw5 k0 k1 k2
                    go_wp2_with fail
                    go_ret
                    exact ⟨by rw [← HG2.out, hbad]; rfl, L5.out⟩
            | false =>
              simp only [Bool.not_false, Bool.true_or, Bool.and_true] at hpk
              by_cases hi0 : i = 0
              · subst hi0
                have e0 := HP0.out rfl
                subst e0
                have hgood : pOk (ky, va, false) em = true := by
                  rw [hpk, lt_em]
                  cases hq : ky.toList with
                  | nil =>
                    have : ky.size = 0 := by rw [← size_list, hq]; rfl
                    omega
                  | cons x y => rfl
                have f5 : decide ((0 : Int) < ((0 : Nat) : Int)) = false := by simp
                refine wp_region_quiet_below Try.mixed (by kernel_rfl) ?_
                repeat (go_big_quiet_step (fail))
                refine wpQuiet_nil ?_
                intro w5 hw5
                have D5 : Hid (Below w4.heap.size w4 w5) := (show Below _ _ _ by obtain ⟨⟨dq, osq⟩, rfl⟩ := hw5; exact below_regrown w4 dq osq)
                have L5 : Hid (Below w.heap.size w w5) := L4.out.trans (D5.out.mono L4.out.size)
                clear hw5 k0 k1 k2
                go_wp2_with fail
                go_roundg (gk - 1)
                case measure => omega
                case rel => exact ⟨0 + 1, ky, by omega, by go_num, (show _ = _ by rw [← HG2.out, hgood]; rfl), (show _ → _ from fun _ => ⟨by omega, by simp only [Nat.add_sub_cancel]; exact HK1.out⟩), (show _ → _ from fun h => absurd h (by omega)), L5⟩
              · obtain ⟨hi1, hlast⟩ := HP1.out (by omega)
                obtain ⟨b3, off3, e3, hlb3, hx⟩ := (HL.out.kept L4.out).nth (by omega)
                have hc : w4.cell? ⟨b3, off3 + (i - 1) * 3, none⟩ = some (.string (L[i - 1]).1) := hx (i - 1) hi1 0 (.string (L[i - 1]).1) rfl
                cases e3
                rw [hlast] at hc
                have hcr := cell_regrown hc
                have f5 : decide (0 < i) = true := by simp; omega
                have f9 : IntKind.i64.wrap ((i : Int) - 1) = ((i - 1 : Nat) : Int) := by rw [wr64 (by omega) (by omega)]; omega
                have f10 : ((i - 1 : Nat) : Int) < (n : Int) := by omega
                clear hx hc hlb3
                cases hup : lt last ky with
                | true =>
                  have f8 : ∀ W, (binOp .leq 9 (.string ky) (.string last)).run Try.prog W = .ok (.bool false) W := fun W => by rw [sle, hup]; rfl
                  have hgood : pOk (ky, va, false) last = true := by rw [hpk, hup]
                  refine wp_region_quiet_below Try.mixed (by kernel_rfl) ?_
                  repeat (go_big_quiet_step (fail))
                  refine wpQuiet_nil ?_
                  intro w5 hw5
                  have D5 : Hid (Below w4.heap.size w4 w5) := (show Below _ _ _ by obtain ⟨⟨dq, osq⟩, rfl⟩ := hw5; exact below_regrown w4 dq osq)
                  have L5 : Hid (Below w.heap.size w w5) := L4.out.trans (D5.out.mono L4.out.size)
                  clear hw5 k0 k1 k2
                  go_wp2_with fail
                  go_roundg (gk - 1)
                  case measure => omega
                  case rel => exact ⟨i + 1, ky, by omega, by go_num, (show _ = _ by rw [← HG2.out, hgood]; rfl), (show _ → _ from fun _ => ⟨by omega, by simp only [Nat.add_sub_cancel]; exact HK1.out⟩), (show _ → _ from fun h => absurd h (by omega)), L5⟩
                | false =>
                  have f8 : ∀ W, (binOp .leq 9 (.string ky) (.string last)).run Try.prog W = .ok (.bool true) W := fun W => by rw [sle, hup]; rfl
                  have hbad : pOk (ky, va, false) last = false := by rw [hpk, hup]
                  refine wp_region_quiet_below Try.mixed (by kernel_rfl) ?_
                  repeat (go_big_quiet_step (fail))
                  refine wpQuiet_nil ?_
                  intro w5 hw5
                  have D5 : Hid (Below w4.heap.size w4 w5) := (show Below _ _ _ by obtain ⟨⟨dq, osq⟩, rfl⟩ := hw5; exact below_regrown w4 dq osq)
                  have L5 : Hid (Below w.heap.size w w5) := L4.out.trans (D5.out.mono L4.out.size)
                  clear hw5 k0 k1 k2
                  go_wp2_with fail
                  go_ret
                  exact ⟨by rw [← HG2.out, hbad]; rfl, L5.out⟩
    · obtain rfl : i = n := by omega
      have q2 : ¬ (i : Int) < (i : Int) := by omega
      have HF : Hid (goodP em L = true) := (show _ = _ by rw [← HG.out, List.drop_of_length_le (by rw [HN.out]; exact Nat.le_refl _)]; rfl)
      go_wp2_with fail
      go_ret
      exact ⟨by rw [HF.out]; rfl, LR.out⟩
end Go.Proofs.Ytmicmbjbclkbjaa

/-
  The document's goodRead: what the call does.
-/
namespace Go.Proofs.Ytmicmbjbclkbjaa
open Go.RowKit
def goodQ (x : Rp) : Bool := decide (x.2.1.size ≤ 64) && (decide (x.2.2.1.size ≤ 64) && (decide (x.2.2.2.length ≤ 200) && (goodP em x.2.2.2 && (!(x.2.2.2.any (wrongP x)) && (x.1 || (decide (0 < x.2.1.size) && (x.2.2.1.toList.isEmpty && decide (x.2.2.2.length ≤ 1))))))))
theorem goodQ_eq (x : Rp) : goodQ x = !noRd x := by
  obtain ⟨s, k, t, ps⟩ := x
  have hz : t.toList.isEmpty = true → t.size = 0 := fun h => by
    rw [List.isEmpty_iff] at h
    have := size_list t
    rw [h] at this
    simpa using this.symm
  rw [Bool.eq_iff_iff]
  unfold goodQ noRd thereP
  cases s with
  | true =>
    simp only [if_true, Bool.true_or, Bool.and_true, Bool.not_or, Bool.not_not, Bool.and_eq_true, decide_eq_true_eq, Bool.not_eq_true', decide_eq_false_iff_not]
    constructor
    · rintro ⟨h1, h2, h3, h4, h5⟩
      exact ⟨by omega, by omega, h3, h4, h5⟩
    · rintro ⟨h1, h2, h3, h4, h5⟩
      exact ⟨by omega, by omega, h3, h4, h5⟩
  | false =>
    simp only [Bool.false_eq_true, if_false, Bool.false_or, Bool.not_or, Bool.not_not, Bool.and_eq_true, decide_eq_true_eq, Bool.not_eq_true', decide_eq_false_iff_not]
    constructor
    · rintro ⟨h1, h2, h3, h4, h5, h6, h7, h8⟩
      exact ⟨by omega, by omega, h7, h8, h4, h5⟩
    · rintro ⟨h1, h2, h7, h8, h4, h5⟩
      have := hz h7
      exact ⟨by omega, by omega, by omega, h4, h5, by omega, h7, h8⟩
theorem any_no {x : Rp} {L : List Pr} (h : ∀ j (hj : j < L.length), wrongP x L[j] = false) : L.any (wrongP x) = false := by
  rw [List.any_eq_false]
  intro p hp
  obtain ⟨j, hj, e⟩ := List.getElem_of_mem hp
  rw [← e, h j hj]
  simp
theorem any_yes {x : Rp} {L : List Pr} {j : Nat} (hj : j < L.length) (h : wrongP x L[j] = true) : L.any (wrongP x) = true := List.any_eq_true.2 ⟨_, List.getElem_mem hj, h⟩
set_option maxHeartbeats 4000000 in
set_option maxRecDepth 100000 in
theorem kgoodRead_any {w : World} {x : Rz} (hx : XOk w x) : Calls Try.prog 65 #[.agg (XC x).toArray] w fun e w' => e = .returned (.bool (!noRd (plR x))) ∧ Below w.heap.size w w' := by
  obtain ⟨N, HN⟩ : ∃ N, Hid (w.heap.size = N) := ⟨_, rfl⟩
  obtain ⟨w1, hw1⟩ : ∃ y, y = w.alloc (.cells (XC x).toArray 39 (0, 0)) := ⟨_, rfl⟩
  obtain ⟨b1, l1⟩ := newB HN hw1
  have HW := hide hw1
  have HXO : Hid (RdG PE w1 (xv x) x.ps) := (show RdG _ _ _ _ from RdG.kept hx l1.out)
  obtain ⟨R, HRq⟩ : ∃ z, Hid ((!noRd (plR x)) = z) := ⟨_, rfl⟩
  rw [HRq.out]
  have HQ : Hid (goodQ (plR x) = R) := (show _ = _ by rw [goodQ_eq, HRq.out])
  obtain ⟨PX, HPX⟩ : ∃ z, Hid (plR x = z) := ⟨_, rfl⟩
  obtain ⟨s, k, t, ps, ha, hc⟩ := x
  have HE : Hid (PX = (s, k, t, ps)) := (show _ = _ from HPX.out.symm)
  rw [HPX.out] at HQ
  obtain ⟨n, Hn⟩ : ∃ z, Hid (ps.length = z) := ⟨_, rfl⟩
  have HQ2 : Hid ((decide (k.size ≤ 64) && (decide (t.size ≤ 64) && (decide (n ≤ 200) && (goodP em ps && (!(ps.any (wrongP PX)) && (s || (decide (0 < k.size) && (t.toList.isEmpty && decide (n ≤ 1))))))))) = R) := (show _ = _ by rw [← HQ.out, ← Hn.out, HE.out]; rfl)
  clear HRq HQ HPX hx
  have b1' := b1.out
  have HXV : Hid (XC ⟨s, k, t, ps, ha, hc⟩ = [.bool s, .string k, .string t, .slice ha n hc]) := (show _ = _ by unfold XC; simp only [Hn.out])
  have HXO' : RdG PE w1 (.slice ha n hc) ps := by have h := HXO.out; unfold xv at h; rwa [Hn.out] at h
  rw [HXV.out] at b1' HW hw1 ⊢
  clear b1 HXO
  have HXO := hide HXO'
  have b1 := hide b1'
  clear HXO' b1'
  have d0 := b1.out.cell (j := 0) rfl
  have d1 := b1.out.cell (j := 1) rfl
  have d2 := b1.out.cell (j := 2) rfl
  have d3 := b1.out.cell (j := 3) rfl
  have CG := hide (vGood_any HXO.out)
  obtain ⟨g, Hg⟩ : ∃ z, Hid (goodP em ps = z) := ⟨_, rfl⟩
  rw [Hg.out] at CG HQ2
  have hsl := slt
  have hsg := sge
  clear hw1
  go_enter Try.func65, Try.ntmps65
  go_upto_region 1 with fail
  change Code.wp _ _ _ _ (w.alloc (.cells #[.bool s, .string k, .string t, .slice ha n hc] 39 (0, 0)))
  rw [show w.alloc (.cells #[.bool s, .string k, .string t, .slice ha n hc] 39 (0, 0)) = w1 from HW.out.symm, HN.out]
  by_cases h1 : 64 < k.size
  · have q1 : decide ((64 : Int) < (k.size : Int)) = true := by simp; omega
    go_wp2_with fail
    go_ret
    exact ⟨by rw [← HQ2.out]; simp [show ¬ k.size ≤ 64 by omega], l1.out⟩
  have q1 : decide ((64 : Int) < (k.size : Int)) = false := by simp; omega
  by_cases h2 : 64 < t.size
  · have q2 : decide ((64 : Int) < (t.size : Int)) = true := by simp; omega
    go_wp2_with fail
    go_ret
    exact ⟨by rw [← HQ2.out]; simp [show ¬ t.size ≤ 64 by omega], l1.out⟩
  have q2 : decide ((64 : Int) < (t.size : Int)) = false := by simp; omega
  by_cases h3 : 200 < n
  · have q3 : decide ((200 : Int) < (n : Int)) = true := by simp; omega
    go_wp2_with fail
    go_ret
    exact ⟨by rw [← HQ2.out]; simp [show ¬ n ≤ 200 by omega], l1.out⟩
  have q3 : decide ((200 : Int) < (n : Int)) = false := by simp; omega
  go_wp2_with fail
  refine CG.out.mono ?_
  rintro e w2 ⟨rfl, hb2⟩
  have L2 : Hid (Below w1.heap.size w1 w2) := (show Below _ _ _ from hb2)
  clear hb2 CG d0 d1 d2 d3
  cases g with
  | false =>
    go_wp2_with fail
    go_ret
    exact ⟨by rw [← HQ2.out]; simp, l1.out.trans (L2.out.mono l1.out.size)⟩
  | true =>
    have HQ3 : Hid ((!(ps.any (wrongP PX)) && (s || (decide (0 < k.size) && (t.toList.isEmpty && decide (n ≤ 1))))) = R) := (show _ = _ by rw [← HQ2.out]; simp [show k.size ≤ 64 by omega, show t.size ≤ 64 by omega, show n ≤ 200 by omega])
    clear HQ2
    have B2 := hide (b1.out.kept L2.out)
    have d3 := B2.out.cell (j := 3) rfl
    go_wp2_with fail
    clear d3
    have L0 := L2
    go_loopg [30] (n + 1) (fun g z wr => ∃ i : Nat, i ≤ n ∧ g + i = n + 1 ∧ z = .int .i64 (i : Int) ∧ Hid (∀ j (hj : j < ps.length), j < i → wrongP PX ps[j] = false) ∧ Hid (Below w1.heap.size w1 wr))
    case atStart => exact ⟨0, Nat.zero_le _, by omega, rfl, (show ∀ j (hj : j < ps.length), _ from fun j hj h => by omega), L0⟩
    case round =>
      clear L0 L2 B2
      obtain ⟨i, hi, hg, rfl, HT, LR⟩ := hrel
      by_cases hlt : i < n
      · have hlt2 : i < ps.length := by rw [Hn.out]; exact hlt
        obtain ⟨bb, off, rfl, hb1, hx⟩ := (HXO.out.kept LR.out).nth (by omega)
        have hrow : wr.rangeAt bb (off + i * 3) (PC ps[i]) := hx i hlt2
        have hlt' : (i : Int) < (n : Int) := by omega
        obtain ⟨p, HP⟩ : ∃ p, Hid (ps[i] = p) := ⟨ps[i], (show ps[i] = ps[i] from rfl)⟩
        rw [HP.out] at hrow
        obtain ⟨E, HEq⟩ : ∃ E, Hid (wr.heap.size = E) := ⟨_, rfl⟩
        obtain ⟨w6, hw6⟩ : ∃ y, y = wr.alloc (.cells (PC p).toArray 41 (0, 0)) := ⟨_, rfl⟩
        obtain ⟨b6, l6⟩ := newB HEq hw6
        have HW6 := hide hw6
        have L6 : Hid (Below w1.heap.size w1 w6) := (show Below _ _ _ from LR.out.trans (l6.out.mono LR.out.size))
        have B6 := hide (b1.out.kept L6.out)
        have HWP : Hid (wrongP PX p = (p.2.2 || (if s = true then (lt p.1 k || !lt p.1 t) else !(p.1.toList == k.toList)))) := (show _ = _ by rw [HE.out]; rfl)
        obtain ⟨q, Hq⟩ : ∃ z, Hid (wrongP PX p = z) := ⟨_, rfl⟩
        rw [Hq.out] at HWP
        obtain ⟨pk, pv, pd⟩ := p
        simp only at HWP
        have hb6 := b6.out
        have k0 := hb6.cell (j := 0) rfl
        have k2 := hb6.cell (j := 2) rfl
        simp only at k0 k2
        have d0 := B6.out.cell (j := 0) rfl
        have d1 := B6.out.cell (j := 1) rfl
        have d2 := B6.out.cell (j := 2) rfl
        obtain ⟨c1, HC1⟩ : ∃ c, lt pk k = c := ⟨_, rfl⟩
        obtain ⟨c2, HC2⟩ : ∃ c, lt pk t = c := ⟨_, rfl⟩
        obtain ⟨c3, HC3⟩ : ∃ c, (pk.toList == k.toList) = c := ⟨_, rfl⟩
        rw [HC1, HC2, HC3] at HWP
        clear hx hw6 hb6 hb1
        go_upto_region 6 with (first
          | (refine wpList_load_mid rfl 41 _ rfl bb (off + i * 3) rfl (PC (pk, pv, pd)) _ hrow Try.underlying41 rfl Try.size41 ?_)
          | (refine wpList_store_new rfl 41 _ _ rfl wr _ (PC (pk, pv, pd)).toArray _ rfl rfl rfl Try.size41 rfl (all_one (PC_one (pk, pv, pd))) ?_; rw [← HW6.out, HEq.out])
          | fail)
        try simp only [Act.put]
        clear hrow
        skip
        cases pd with
        | true =>
          have hq : q = true := by have h := HWP.out; simpa using h
          subst hq
          go_wp2_with fail
          go_ret
          exact ⟨by rw [← HQ3.out, any_yes hlt2 (by rw [HP.out, Hq.out])]; rfl, l1.out.trans (L6.out.mono l1.out.size)⟩
        | false =>
          cases s with
          | true =>
            cases c1 with
            | true =>
              have hq : q = true := by have h := HWP.out; simpa using h
              subst hq
              go_wp2_with fail
              go_ret
              exact ⟨by rw [← HQ3.out, any_yes hlt2 (by rw [HP.out, Hq.out])]; rfl, l1.out.trans (L6.out.mono l1.out.size)⟩
            | false =>
              cases c2 with
              | true =>
                have hq : q = false := by have h := HWP.out; simpa using h
                subst hq
                go_wp2_with fail
                go_roundg (n - i)
                case measure => omega
                case rel => exact ⟨i + 1, by omega, by omega, by go_num, (show ∀ j (hj : j < ps.length), _ from fun j hj hji => by
                  by_cases e : j = i
                  · subst e
                    rw [HP.out]
                    exact Hq.out
                  · exact HT.out j hj (by omega)), L6⟩
              | false =>
                have hq : q = true := by have h := HWP.out; simpa using h
                subst hq
                go_wp2_with fail
                go_ret
                exact ⟨by rw [← HQ3.out, any_yes hlt2 (by rw [HP.out, Hq.out])]; rfl, l1.out.trans (L6.out.mono l1.out.size)⟩
          | false =>
            cases c3 with
            | true =>
              have hq : q = false := by have h := HWP.out; simpa using h
              subst hq
              go_wp2_with fail
              go_roundg (n - i)
              case measure => omega
              case rel => exact ⟨i + 1, by omega, by omega, by go_num, (show ∀ j (hj : j < ps.length), _ from fun j hj hji => by
                by_cases e : j = i
                · subst e
                  rw [HP.out]
                  exact Hq.out
                · exact HT.out j hj (by omega)), L6⟩
            | false =>
              have hq : q = true := by have h := HWP.out; simpa using h
              subst hq
              go_wp2_with fail
              go_ret
              exact ⟨by rw [← HQ3.out, any_yes hlt2 (by rw [HP.out, Hq.out])]; rfl, l1.out.trans (L6.out.mono l1.out.size)⟩
      · obtain rfl : i = n := by omega
        have hlt' : ¬ (i : Int) < i := by omega
        have HAN : Hid (ps.any (wrongP PX) = false) := (show _ = _ from any_no fun j hj => HT.out j hj (by rw [← Hn.out]; exact hj))
        have HQ4 := HQ3.out
        rw [HAN.out] at HQ4
        simp only [Bool.not_false, Bool.true_and] at HQ4
        have HQ5 := hide HQ4
        clear HQ4
        have B6 := hide (b1.out.kept LR.out)
        have d0 := B6.out.cell (j := 0) rfl
        have d1 := B6.out.cell (j := 1) rfl
        have d2 := B6.out.cell (j := 2) rfl
        have d3 := B6.out.cell (j := 3) rfl
        cases s with
        | true =>
          go_wp2_with fail
          go_ret
          exact ⟨by rw [← HQ5.out]; simp, l1.out.trans (LR.out.mono l1.out.size)⟩
        | false =>
          by_cases h4 : 0 < k.size
          · have q4 : decide ((0 : Int) < (k.size : Int)) = true := by simp; omega
            have HIE : Hid (t.toList.isEmpty = (t.toList == [])) := (show _ = _ by cases t.toList <;> rfl)
            obtain ⟨c, Hc⟩ : ∃ z, (t.toList == []) = z := ⟨_, rfl⟩
            rw [HIE.out, Hc] at HQ5
            have q5 : (t.toList == (⟨#[]⟩ : ByteArray).toList) = c := by rw [show (⟨#[]⟩ : ByteArray).toList = [] from em_list]; exact Hc
            cases c with
            | false =>
              go_wp2_with fail
              go_ret
              exact ⟨by rw [← HQ5.out]; simp, l1.out.trans (LR.out.mono l1.out.size)⟩
            | true =>
              by_cases h5 : i ≤ 1
              · have q6 : decide ((i : Int) ≤ 1) = true := by simp; omega
                go_wp2_with fail
                go_ret
                exact ⟨by rw [← HQ5.out]; simp [h4, h5], l1.out.trans (LR.out.mono l1.out.size)⟩
              · have q6 : decide ((i : Int) ≤ 1) = false := by simp; omega
                go_wp2_with fail
                go_ret
                exact ⟨by rw [← HQ5.out]; simp [h5], l1.out.trans (LR.out.mono l1.out.size)⟩
          · have q4 : decide ((0 : Int) < (k.size : Int)) = false := decide_eq_false (by omega)
            go_wp2_with fail
            go_ret
            exact ⟨by rw [← HQ5.out]; simp [h4], l1.out.trans (LR.out.mono l1.out.size)⟩
#print axioms kgoodRead_any
end Go.Proofs.Ytmicmbjbclkbjaa

/-
  The document's right: what the call does.
-/
namespace Go.Proofs.Ytmicmbjbclkbjaa
open Go.RowKit
/-- Do two reads ask for the same key alone? -/
def conf (x y : Rp) : Bool := !x.1 && (!y.1 && (x.2.1.toList == y.2.1.toList))
theorem apK_iff : ∀ {l R : List Rp}, apK R l = true ↔ ∀ i (h : i < l.length), (l[i].1 || !seenK (R ++ l.take i) l[i].2.1) = true
  | [], R => by simp [apK]
  | x :: l, R => by
    rw [apK, Bool.and_eq_true, apK_iff (l := l)]
    constructor
    · rintro ⟨h1, h2⟩ i hi
      cases i with
      | zero => simpa using h1
      | succ i =>
        have := h2 i (by simpa using hi)
        simpa [List.append_assoc] using this
    · intro h
      refine ⟨by have h0 := h 0 (by simp); simp only [List.getElem_cons_zero, List.take_zero, List.append_nil] at h0; exact h0, fun i hi => ?_⟩
      have := h (i + 1) (by simpa using hi)
      simpa [List.append_assoc] using this
theorem conf_seen {L : List Rp} {x : Rp} {i : Nat} (hi : i ≤ L.length) (h : ∀ j (hj : j < L.length), j < i → conf x L[j] = false) : (x.1 || !seenK (L.take i) x.2.1) = true := by
  cases hx : x.1 with
  | true => rfl
  | false =>
    rw [Bool.false_or, Bool.not_eq_true']
    unfold seenK
    rw [List.any_eq_false]
    intro y hy
    obtain ⟨j, hj, e⟩ := List.getElem_of_mem hy
    have hj' : j < i := by rw [List.length_take] at hj; omega
    have h2 := h j (by omega) hj'
    rw [List.getElem_take] at e
    rw [e] at h2
    unfold conf at h2
    rw [hx, Bool.not_false, Bool.true_and] at h2
    have hc : (x.2.1.toList == y.2.1.toList) = (y.2.1.toList == x.2.1.toList) := by rw [Bool.eq_iff_iff, beq_iff_eq, beq_iff_eq]; exact ⟨Eq.symm, Eq.symm⟩
    rw [hc] at h2
    rw [h2]
    simp
theorem rs_all {L : List Rp} (h : ∀ i (hi : i < L.length), noRd L[i] = false ∧ (L[i].1 || !seenK (L.take i) L[i].2.1) = true) : (!(L.any noRd) && apK [] L) = true := by
  rw [Bool.and_eq_true, Bool.not_eq_true', List.any_eq_false, apK_iff]
  refine ⟨fun x hx => ?_, fun i hi => by simpa using (h i hi).2⟩
  obtain ⟨j, hj, e⟩ := List.getElem_of_mem hx
  rw [← e, (h j hj).1]
  simp
theorem rs_no1 {L : List Rp} {i : Nat} (hi : i < L.length) (h : noRd L[i] = true) : (!(L.any noRd) && apK [] L) = false := by
  rw [List.any_eq_true.2 ⟨_, List.getElem_mem hi, h⟩]
  rfl
theorem rs_no2 {L : List Rp} {i j : Nat} (hi : i < L.length) (hj : j < i) (h : conf L[i] (L[j]'(by omega)) = true) : (!(L.any noRd) && apK [] L) = false := by
  cases ha : apK [] L with
  | false => rw [Bool.and_false]
  | true =>
    exfalso
    have h2 := apK_iff.1 ha i hi
    unfold conf at h
    simp only [Bool.and_eq_true, Bool.not_eq_true', beq_iff_eq] at h
    obtain ⟨h3, h4, h5⟩ := h
    rw [h3, Bool.false_or, List.nil_append, Bool.not_eq_true'] at h2
    unfold seenK at h2
    rw [List.any_eq_false] at h2
    have hm : L[j]'(by omega) ∈ L.take i := by
      have hl : j < (L.take i).length := by rw [List.length_take]; omega
      have := List.getElem_mem hl
      rwa [List.getElem_take] at this
    have := h2 _ hm
    rw [h4, h5] at this
    simp at this
set_option maxHeartbeats 8000000 in
set_option maxRecDepth 100000 in
theorem kright_any {w : World} {r : Rc} (hr : ROk w r) : Calls Try.prog 50 #[.agg (RC r).toArray] w fun e w' => e = .returned (.bool (soundP r)) ∧ Below w.heap.size w w' := by
  obtain ⟨N, HN⟩ : ∃ N, Hid (w.heap.size = N) := ⟨_, rfl⟩
  obtain ⟨w1, hw1⟩ : ∃ y, y = w.alloc (.cells (RC r).toArray 27 (0, 0)) := ⟨_, rfl⟩
  obtain ⟨b1, l1⟩ := newB HN hw1
  have HW := hide hw1
  obtain ⟨R, HRq⟩ : ∃ z, Hid (soundP r = z) := ⟨_, rfl⟩
  rw [HRq.out]
  obtain ⟨ses, snap, st, Rs, Ws, ra, rc, wa, wc⟩ := r
  obtain ⟨n, Hn⟩ : ∃ z, Hid (Rs.length = z) := ⟨_, rfl⟩
  obtain ⟨m, Hm⟩ : ∃ z, Hid (Ws.length = z) := ⟨_, rfl⟩
  obtain ⟨Z, HZ⟩ : ∃ z, Hid ((!((Rs.map plR).any noRd) && apK [] (Rs.map plR)) = z) := ⟨_, rfl⟩
  obtain ⟨g, Hg⟩ : ∃ z, Hid (goodP em Ws = z) := ⟨_, rfl⟩
  have HQ : Hid ((decide (1 ≤ ses) && (decide (ses ≤ 8) && (decide (0 ≤ snap) && (decide (snap ≤ 1099511627776) && ((decide (n ≤ 64) && Z) && (decide (m ≤ 64) && g)))))) = R) := (show _ = _ by
    rw [← HRq.out, ← HZ.out, ← Hg.out, ← Hn.out, ← Hm.out]
    unfold soundP rsP wsP
    simp only [List.length_map])
  have HRV : Hid (RC ⟨ses, snap, st, Rs, Ws, ra, rc, wa, wc⟩ = [.int .i64 ses, .int .i64 snap, .bool st, .slice ra n rc, .slice wa m wc]) := (show _ = _ by unfold RC; simp only [Hn.out, Hm.out])
  have HXR : Hid (RdX w1 (.slice ra n rc) Rs) := (show RdX _ _ _ by have h := (hr.kept l1.out).rs; unfold rv at h; rwa [Hn.out] at h)
  have HXW : Hid (RdG PE w1 (.slice wa m wc) Ws) := (show RdG _ _ _ _ by have h := (hr.kept l1.out).ws; unfold wv at h; rwa [Hm.out] at h)
  have b1' := b1.out
  rw [HRV.out] at b1' HW hw1 ⊢
  clear b1 hr HRq
  have b1 := hide b1'
  clear b1' hw1
  have d0 := b1.out.cell (j := 0) rfl
  have d1 := b1.out.cell (j := 1) rfl
  have d3 := b1.out.cell (j := 3) rfl
  have d4 := b1.out.cell (j := 4) rfl
  have CG := hide (vGood_any HXW.out)
  rw [Hg.out] at CG
  go_enter Try.func50, Try.ntmps50
  go_upto_region 1 with fail
  change Code.wp _ _ _ _ (w.alloc (.cells #[.int .i64 ses, .int .i64 snap, .bool st, .slice ra n rc, .slice wa m wc] 27 (0, 0)))
  rw [show w.alloc (.cells #[.int .i64 ses, .int .i64 snap, .bool st, .slice ra n rc, .slice wa m wc] 27 (0, 0)) = w1 from HW.out.symm, HN.out]
  by_cases h1 : ses < 1
  · have qh1 : decide (ses < 1) = true := decide_eq_true (by omega)
    go_wp2_with fail
    go_ret
    exact ⟨by rw [← HQ.out]; simp [show ¬ (1 ≤ ses) by omega], l1.out⟩
  have qh1 : decide (ses < 1) = false := decide_eq_false (by omega)
  by_cases h2 : 8 < ses
  · have qh2 : decide (8 < ses) = true := decide_eq_true (by omega)
    go_wp2_with fail
    go_ret
    exact ⟨by rw [← HQ.out]; simp [show ¬ (ses ≤ 8) by omega], l1.out⟩
  have qh2 : decide (8 < ses) = false := decide_eq_false (by omega)
  by_cases h3 : snap < 0
  · have qh3 : decide (snap < 0) = true := decide_eq_true (by omega)
    go_wp2_with fail
    go_ret
    exact ⟨by rw [← HQ.out]; simp [show ¬ (0 ≤ snap) by omega], l1.out⟩
  have qh3 : decide (snap < 0) = false := decide_eq_false (by omega)
  by_cases h4 : 1099511627776 < snap
  · have qh4 : decide (1099511627776 < snap) = true := decide_eq_true (by omega)
    go_wp2_with fail
    go_ret
    exact ⟨by rw [← HQ.out]; simp [show ¬ (snap ≤ 1099511627776) by omega], l1.out⟩
  have qh4 : decide (1099511627776 < snap) = false := decide_eq_false (by omega)
  by_cases h5 : 64 < n
  · have qh5 : decide ((64 : Int) < (n : Int)) = true := decide_eq_true (by omega)
    go_wp2_with fail
    go_ret
    exact ⟨by rw [← HQ.out]; simp [show ¬ (n ≤ 64) by omega], l1.out⟩
  have qh5 : decide ((64 : Int) < (n : Int)) = false := decide_eq_false (by omega)
  by_cases h6 : 64 < m
  · have qh6 : decide ((64 : Int) < (m : Int)) = true := decide_eq_true (by omega)
    go_wp2_with fail
    go_ret
    exact ⟨by rw [← HQ.out]; simp [show ¬ (m ≤ 64) by omega], l1.out⟩
  have qh6 : decide ((64 : Int) < (m : Int)) = false := decide_eq_false (by omega)
  go_wp2_with fail
  refine CG.out.mono ?_
  rintro e w2 ⟨rfl, hb2⟩
  have L2 : Hid (Below w1.heap.size w1 w2) := (show Below _ _ _ from hb2)
  clear hb2 CG d0 d1 d3 d4
  have HQ2 : Hid ((Z && g) = R) := (show _ = _ by rw [← HQ.out]; simp [show 1 ≤ ses by omega, show ses ≤ 8 by omega, show 0 ≤ snap by omega, show snap ≤ 1099511627776 by omega, show n ≤ 64 by omega, show m ≤ 64 by omega])
  clear HQ
  cases g with
  | false =>
    go_wp2_with fail
    go_ret
    exact ⟨by rw [← HQ2.out]; simp, l1.out.trans (L2.out.mono l1.out.size)⟩
  | true =>
    have HQ3 : Hid (Z = R) := (show _ = _ by rw [← HQ2.out, Bool.and_true])
    clear HQ2
    have B2 := hide (b1.out.kept L2.out)
    have d3 := B2.out.cell (j := 3) rfl
    go_wp2_with fail
    clear d3
    have L0 := L2
    go_loopg [46] (n + 1) (fun g z wr => ∃ i : Nat, i ≤ n ∧ g + i = n + 1 ∧ z = .int .i64 (i : Int) ∧ Hid (∀ j (hj : j < (Rs.map plR).length), j < i → noRd (Rs.map plR)[j] = false ∧ ((Rs.map plR)[j].1 || !seenK ((Rs.map plR).take j) (Rs.map plR)[j].2.1) = true) ∧ Hid (Below w1.heap.size w1 wr))
    case atStart => exact ⟨0, Nat.zero_le _, by omega, rfl, (show ∀ j (hj : j < (Rs.map plR).length), _ from fun j hj h => by omega), L0⟩
    case round =>
      clear L0 L2 B2
      obtain ⟨i, hi, hg, rfl, HT, LR⟩ := hrel
      by_cases hlt : i < n
      · have hlt2 : i < Rs.length := by rw [Hn.out]; exact hlt
        have hltM : i < (Rs.map plR).length := by rw [List.length_map]; exact hlt2
        have RX := HXR.out.kept LR.out
        have hcapi : (i : Int) ≤ (rc : Int) := by have := RX.rd.cap; omega
        obtain ⟨bb, off, rfl, hb1, hx⟩ := RX.rd.nth (by omega)
        have hrow : wr.rangeAt bb (off + i * 4) (XC Rs[i]) := hx i hlt2
        have hxo := RX.ps Rs[i] (List.getElem_mem hlt2)
        have hlt' : (i : Int) < (n : Int) := by omega
        obtain ⟨x, HX⟩ : ∃ p, Hid (Rs[i] = p) := ⟨Rs[i], (show Rs[i] = Rs[i] from rfl)⟩
        rw [HX.out] at hrow hxo
        have HXM : Hid ((Rs.map plR)[i] = plR x) := (show _ = _ by rw [List.getElem_map, HX.out])
        obtain ⟨E, HEq⟩ : ∃ E, Hid (wr.heap.size = E) := ⟨_, rfl⟩
        obtain ⟨w6, hw6⟩ : ∃ y, y = wr.alloc (.cells (XC x).toArray 39 (0, 0)) := ⟨_, rfl⟩
        obtain ⟨b6, l6⟩ := newB HEq hw6
        have HW6 := hide hw6
        have L6 : Hid (Below w1.heap.size w1 w6) := (show Below _ _ _ from LR.out.trans (l6.out.mono LR.out.size))
        have CR := hide (kgoodRead_any (XOk.kept hxo l6.out))
        have rk := b6.out.range0
        obtain ⟨q, Hq⟩ : ∃ z, Hid (noRd (plR x) = z) := ⟨_, rfl⟩
        rw [Hq.out] at CR
        clear hx hw6 hb1 RX hxo
        go_upto_region 6 with (first
          | (refine wpList_load_mid rfl 39 _ rfl bb (off + i * 4) rfl (XC x) _ hrow Try.underlying39 rfl Try.size39 ?_)
          | (refine wpList_store_new rfl 39 _ _ rfl wr _ (XC x).toArray _ rfl rfl rfl Try.size39 rfl (all_one (XC_one x)) ?_; rw [← HW6.out, HEq.out])
          | fail)
        try simp only [Act.put]
        clear hrow
        go_wp2_with (first
          | (refine wpList_load_mid rfl 39 _ rfl E 0 rfl (XC x) _ rk Try.underlying39 rfl Try.size39 ?_)
          | fail)
        refine CR.out.mono ?_
        rintro e w7 ⟨rfl, hb7⟩
        have L7 : Hid (Below w1.heap.size w1 w7) := (show Below _ _ _ from L6.out.trans (hb7.mono L6.out.size))
        have B67 := hide (b6.out.kept hb7)
        clear hb7 CR rk
        cases q with
        | true =>
          go_wp2_with fail
          go_ret
          exact ⟨by rw [← HQ3.out, ← HZ.out, rs_no1 hltM (by rw [HXM.out, Hq.out])]; rfl, l1.out.trans (L7.out.mono l1.out.size)⟩
        | false =>
          have B7 := hide (b1.out.kept L7.out)
          have d3 := B7.out.cell (j := 3) rfl
          have hi0 : (0 : Int) ≤ (i : Int) := by omega
          go_wp2_with fail
          clear d3
          have L0 := L7
          go_loopg [59] (i + 1) (fun g z wr => ∃ j : Nat, j ≤ i ∧ g + j = i + 1 ∧ z = .int .i64 (j : Int) ∧ Hid (∀ k (hk : k < (Rs.map plR).length), k < j → conf (plR x) (Rs.map plR)[k] = false) ∧ Hid (Blk wr E 39 (XC x)) ∧ Hid (Below w1.heap.size w1 wr))
          case atStart => exact ⟨0, Nat.zero_le _, by omega, rfl, (show ∀ k (hk : k < (Rs.map plR).length), _ from fun j hj h => by omega), B67, L0⟩
          case round =>
            clear L0 L6 L7 b6 l6 B67 B7 LR
            obtain ⟨j, hj, hgj, rfl, HC, BE, LS⟩ := hrel
            by_cases hltj : j < i
            · have hlj2 : j < Rs.length := by rw [Hn.out]; omega
              have RX := HXR.out.kept LS.out
              obtain ⟨bb2, off2, he2, hb1, hx⟩ := RX.rd.nth (by omega)
              cases he2
              have hrow : wr.rangeAt bb (off + j * 4) (XC Rs[j]) := hx j hlj2
              have hlt'j : (j : Int) < (i : Int) := by omega
              obtain ⟨y, HY⟩ : ∃ p, Hid (Rs[j] = p) := ⟨Rs[j], (show Rs[j] = Rs[j] from rfl)⟩
              rw [HY.out] at hrow
              have HYM : Hid ((Rs.map plR)[j]'(by rw [List.length_map]; exact hlj2) = plR y) := (show _ = _ by rw [List.getElem_map, HY.out])
              obtain ⟨G, HGq⟩ : ∃ E, Hid (wr.heap.size = E) := ⟨_, rfl⟩
              obtain ⟨w6, hw6⟩ : ∃ z, z = wr.alloc (.cells (XC y).toArray 39 (0, 0)) := ⟨_, rfl⟩
              obtain ⟨b6, l6⟩ := newB HGq hw6
              have HW6 := hide hw6
              have L6 : Hid (Below w1.heap.size w1 w6) := (show Below _ _ _ from LS.out.trans (l6.out.mono LS.out.size))
              have BE6 := hide (BE.out.kept l6.out)
              have e0 := BE6.out.xsc
              have e1 := BE6.out.xk
              have f0 := b6.out.xsc
              have f1 := b6.out.xk
              have HCF : Hid (conf (plR x) (plR y) = (!x.sc && (!y.sc && (x.k.toList == y.k.toList)))) := (show _ = _ from rfl)
              obtain ⟨xs, Hxs⟩ : ∃ z, Hid (x.sc = z) := ⟨_, rfl⟩
              obtain ⟨ys, Hys⟩ : ∃ z, Hid (y.sc = z) := ⟨_, rfl⟩
              obtain ⟨xk, Hxk⟩ : ∃ z, Hid (x.k = z) := ⟨_, rfl⟩
              obtain ⟨yk, Hyk⟩ : ∃ z, Hid (y.k = z) := ⟨_, rfl⟩
              rw [Hxs.out, Hys.out, Hxk.out, Hyk.out] at HCF
              rw [Hxs.out] at e0
              rw [Hys.out] at f0
              rw [Hxk.out] at e1
              rw [Hyk.out] at f1
              obtain ⟨c, HCc⟩ : ∃ z, (xk.toList == yk.toList) = z := ⟨_, rfl⟩
              rw [HCc] at HCF
              clear hx hw6 hb1 RX
              go_upto_region 11 with (first
                | (refine wpList_load_mid rfl 39 _ rfl bb (off + j * 4) rfl (XC y) _ hrow Try.underlying39 rfl Try.size39 ?_)
                | (refine wpList_store_new rfl 39 _ _ rfl wr _ (XC y).toArray _ rfl rfl rfl Try.size39 rfl (all_one (XC_one y)) ?_; rw [← HW6.out, HGq.out])
                | fail)
              try simp only [Act.put]
              clear hrow
              cases xs with
              | true =>
                have HCN : Hid (conf (plR x) (plR y) = false) := (show _ = _ by rw [HCF.out]; rfl)
                go_wp2_with fail
                go_roundg (i - j)
                case measure => omega
                case rel => exact ⟨j + 1, by omega, by omega, by go_num, (show ∀ k (hk : k < (Rs.map plR).length), _ from fun k hk hkj => by
                  by_cases e : k = j
                  · subst e
                    rw [HYM.out]
                    exact HCN.out
                  · exact HC.out k hk (by omega)), BE6, L6⟩
              | false =>
                cases ys with
                | true =>
                  have HCN : Hid (conf (plR x) (plR y) = false) := (show _ = _ by rw [HCF.out]; rfl)
                  go_wp2_with fail
                  go_roundg (i - j)
                  case measure => omega
                  case rel => exact ⟨j + 1, by omega, by omega, by go_num, (show ∀ k (hk : k < (Rs.map plR).length), _ from fun k hk hkj => by
                    by_cases e : k = j
                    · subst e
                      rw [HYM.out]
                      exact HCN.out
                    · exact HC.out k hk (by omega)), BE6, L6⟩
                | false =>
                  cases c with
                  | false =>
                    have HCN : Hid (conf (plR x) (plR y) = false) := (show _ = _ by rw [HCF.out]; rfl)
                    go_wp2_with fail
                    go_roundg (i - j)
                    case measure => omega
                    case rel => exact ⟨j + 1, by omega, by omega, by go_num, (show ∀ k (hk : k < (Rs.map plR).length), _ from fun k hk hkj => by
                      by_cases e : k = j
                      · subst e
                        rw [HYM.out]
                        exact HCN.out
                      · exact HC.out k hk (by omega)), BE6, L6⟩
                  | true =>
                    have HCN : Hid (conf (plR x) (plR y) = true) := (show _ = _ by rw [HCF.out]; rfl)
                    go_wp2_with fail
                    go_ret
                    exact ⟨by rw [← HQ3.out, ← HZ.out, rs_no2 hltM hltj (by rw [HXM.out, HYM.out]; exact HCN.out)]; rfl, l1.out.trans (L6.out.mono l1.out.size)⟩
            · obtain rfl : j = i := by omega
              have hlt'j : ¬ (j : Int) < j := by omega
              have HSN := hide (conf_seen (x := plR x) (i := j) (by omega) HC.out)
              go_wp2_with fail
              go_roundg (n - j)
              case measure => omega
              case rel => exact ⟨j + 1, by omega, by omega, by go_num, (show ∀ k (hk : k < (Rs.map plR).length), _ from fun k hk hkj => by
                by_cases e : k = j
                · subst e
                  rw [HXM.out]
                  exact ⟨Hq.out, HSN.out⟩
                · exact HT.out k hk (by omega)), LS⟩
      · obtain rfl : i = n := by omega
        have hlt' : ¬ (i : Int) < i := by omega
        have HAN : Hid (Z = true) := (show _ = _ by rw [← HZ.out]; exact rs_all fun k hk => HT.out k hk (by rw [List.length_map, Hn.out] at hk; exact hk))
        have HR1 : Hid (R = true) := (show _ = _ by rw [← HQ3.out, HAN.out])
        go_wp2_with fail
        go_ret
        exact ⟨by rw [HR1.out]; rfl, l1.out.trans (LR.out.mono l1.out.size)⟩
#print axioms kright_any
end Go.Proofs.Ytmicmbjbclkbjaa
