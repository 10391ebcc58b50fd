/-
  The document's Good of pairs: what the call does.
-/
import Derived.Test.YtmicmbjbclkbjaaDoorRcG
namespace Go.Proofs.YtmicmbjbclkbjaaDoor
open Go.RowKit
theorem size_list (a : ByteArray) : a.toList.length = a.size := by
  rw [ByteArray.toList_eq]
  simp
theorem sz0 {a : ByteArray} (h : a.size = 0) : a = em := by
  rw [← ba_inj, em_list]
  exact List.eq_nil_of_length_eq_zero (by rw [size_list]; exact h)
set_option maxHeartbeats 2000000 in
set_option maxRecDepth 100000 in
theorem vGood_any {w : World} {v : Value} {L : List Pr} (h : RdG PE w v L) : Calls Tryd.prog 40 #[v] w fun e w' => e = .returned (.bool (goodP em L)) ∧ Below w.heap.size w w' := by
  have HL := hide h
  obtain ⟨a, cp, rfl⟩ := h.slice
  have hn : L.length ≤ 9223372036854775807 := Nat.le_trans h.cap h.max
  clear h
  have hz := Zpair
  obtain ⟨n, HN⟩ : ∃ n, Hid (L.length = n) := ⟨_, rfl⟩
  rw [HN.out] at HL hn ⊢
  go_enter Tryd.func40, Tryd.ntmps40
  go_wp2_with fail
  go_loopg [7] n (fun g x wr => ∃ (i : Nat) (last : ByteArray), g + i = n ∧ x = .int .i64 (i : Int) ∧ Hid (goodP last (L.drop i) = goodP em L) ∧ Hid (0 < i → ∃ h : i - 1 < L.length, (L[i - 1]).1 = last) ∧ Hid (i = 0 → last = em) ∧ Hid (Below w.heap.size w wr))
  case atStart => exact ⟨0, em, by omega, rfl, rfl, (show _ → _ from fun h => absurd h (by omega)), (show _ → _ from fun _ => rfl), Below.refl _ _⟩
  case round =>
    obtain ⟨i, last, hgi, rfl, HG, HP1, HP0, LR⟩ := hrel
    by_cases hlt : i < n
    · have q2 : (i : Int) < (n : Int) := by omega
      have hrd := hide (HL.out.kept LR.out)
      obtain ⟨b, off, rfl, hlb4, hx⟩ := (hrd.out).nth (by omega)
      have hlt' : i < L.length := by rw [HN.out]; exact hlt
      have hr : wr.rangeAt b (off + i * 3) (PC L[i]) := hx i hlt'
      obtain ⟨p, HPp⟩ : ∃ p, Hid (L[i] = p) := ⟨L[i], (show L[i] = L[i] from rfl)⟩
      rw [HPp.out] at hr
      clear hx hlb4
      go_upto_region 4 with (first
        | (refine wpList_load_mid rfl 43 _ rfl b (off + i * 3) rfl (PC p) _ hr Tryd.underlying43 rfl Tryd.size43 ?_)
        | (refine wpList_store_new rfl 43 _ _ rfl wr _ (PC p).toArray _ rfl rfl rfl Tryd.size43 rfl (all_one (PC_one p)) ?_)
        | fail)
      obtain ⟨E, HE⟩ : ∃ E, Hid (wr.heap.size = E) := ⟨_, rfl⟩
      rw [HE.out]
      obtain ⟨w4, hw4⟩ : ∃ x, x = wr.alloc (.cells (PC p).toArray 43 (0, 0)) := ⟨_, rfl⟩
      rw [← hw4]
      have G4 : Hid (Below wr.heap.size wr w4) := (show Below _ _ _ by rw [hw4]; exact (Below.refl _ _).alloc (Nat.le_refl _) _)
      have B4 : Hid (Blk w4 E 43 (PC p)) := (show Blk _ _ _ _ by rw [hw4, ← HE.out]; exact Blk.new wr 43 (PC p))
      clear hw4 hr
      have L4 : Hid (Below w.heap.size w w4) := LR.out.trans (G4.out.mono LR.out.size)
      have HG2 : Hid ((pOk p last && goodP p.1 (L.drop (i + 1))) = goodP em L) := (show _ = _ by rw [← HG.out, List.drop_eq_getElem_cons hlt', HPp.out, goodP])
      obtain ⟨ky, va, dd⟩ := p
      have HK1 : Hid ((L[i]'hlt').1 = ky) := (show (L[i]'hlt').1 = ky by rw [HPp.out])
      simp only at HG2
      have k0 := cell_regrown (B4.out.cell (j := 0) rfl)
      have k1 := cell_regrown (B4.out.cell (j := 1) rfl)
      have k2 := cell_regrown (B4.out.cell (j := 2) rfl)
      simp only at k0 k1 k2
      simp only [Act.put]
      have hpk : pOk (ky, va, dd) last = (lt last ky && decide (ky.size ≤ 64) && decide (va.size ≤ 256) && (!dd || va.toList.isEmpty)) := rfl
      by_cases h1 : ky.size < 1
      · have hbad : pOk (ky, va, dd) last = false := by rw [hpk, sz0 (a := ky) (by omega), not_lt_em]; rfl
        have f1 : decide ((ky.size : Int) < 1) = true := by simp; omega
        refine wp_region_quiet_below Tryd.mixed (by kernel_rfl) ?_
        repeat (go_big_quiet_step (fail))
        refine wpQuiet_nil ?_
        intro w5 hw5
        have D5 : Hid (Below w4.heap.size w4 w5) := (show Below _ _ _ by obtain ⟨⟨dq, osq⟩, rfl⟩ := hw5; exact below_regrown w4 dq osq)
        have L5 : Hid (Below w.heap.size w w5) := L4.out.trans (D5.out.mono L4.out.size)
        clear hw5 k0 k1 k2
        go_wp2_with fail
        go_ret
        exact ⟨by rw [← HG2.out, hbad]; rfl, L5.out⟩
      · have f1 : decide ((ky.size : Int) < 1) = false := by simp; omega
        by_cases h2 : 64 < ky.size
        · have hbad : pOk (ky, va, dd) last = false := by rw [hpk, show decide (ky.size ≤ 64) = false by simp; omega]; simp
          have f2 : decide ((64 : Int) < (ky.size : Int)) = true := by simp; omega
          refine wp_region_quiet_below Tryd.mixed (by kernel_rfl) ?_
          repeat (go_big_quiet_step (fail))
          refine wpQuiet_nil ?_
          intro w5 hw5
          have D5 : Hid (Below w4.heap.size w4 w5) := (show Below _ _ _ by obtain ⟨⟨dq, osq⟩, rfl⟩ := hw5; exact below_regrown w4 dq osq)
          have L5 : Hid (Below w.heap.size w w5) := L4.out.trans (D5.out.mono L4.out.size)
          clear hw5 k0 k1 k2
          go_wp2_with fail
          go_ret
          exact ⟨by rw [← HG2.out, hbad]; rfl, L5.out⟩
        · have f2 : decide ((64 : Int) < (ky.size : Int)) = false := by simp; omega
          by_cases h3 : 256 < va.size
          · have hbad : pOk (ky, va, dd) last = false := by rw [hpk, show decide (va.size ≤ 256) = false by simp; omega]; simp
            have f3 : decide ((256 : Int) < (va.size : Int)) = true := by simp; omega
            refine wp_region_quiet_below Tryd.mixed (by kernel_rfl) ?_
            repeat (go_big_quiet_step (fail))
            refine wpQuiet_nil ?_
            intro w5 hw5
            have D5 : Hid (Below w4.heap.size w4 w5) := (show Below _ _ _ by obtain ⟨⟨dq, osq⟩, rfl⟩ := hw5; exact below_regrown w4 dq osq)
            have L5 : Hid (Below w.heap.size w w5) := L4.out.trans (D5.out.mono L4.out.size)
            clear hw5 k0 k1 k2
            go_wp2_with fail
            go_ret
            exact ⟨by rw [← HG2.out, hbad]; rfl, L5.out⟩
          · have f3 : decide ((256 : Int) < (va.size : Int)) = false := by simp; omega
            have g2 : decide (ky.size ≤ 64) = true := by simp; omega
            have g3 : decide (va.size ≤ 256) = true := by simp; omega
            rw [g2, g3] at hpk
            simp only [Bool.and_true] at hpk
            cases dd with
            | true =>
              cases h4 : va.toList == ([] : List UInt8) with
              | false =>
                have hbad : pOk (ky, va, true) last = false := by
                  rw [hpk]
                  have : va.toList.isEmpty = false := by
                    cases hq : va.toList with
                    | nil => rw [hq] at h4; cases h4
                    | cons x y => rfl
                  rw [this]
                  simp
                refine wp_region_quiet_below Tryd.mixed (by kernel_rfl) ?_
                repeat (go_big_quiet_step (fail))
                refine wpQuiet_nil ?_
                intro w5 hw5
                have D5 : Hid (Below w4.heap.size w4 w5) := (show Below _ _ _ by obtain ⟨⟨dq, osq⟩, rfl⟩ := hw5; exact below_regrown w4 dq osq)
                have L5 : Hid (Below w.heap.size w w5) := L4.out.trans (D5.out.mono L4.out.size)
                clear hw5 k0 k1 k2
                go_wp2_with fail
                go_ret
                exact ⟨by rw [← HG2.out, hbad]; rfl, L5.out⟩
              | true =>
                have g4 : va.toList.isEmpty = true := by rw [beq_iff_eq] at h4; rw [h4]; rfl
                rw [g4] at hpk
                simp only [Bool.or_true, Bool.and_true] at hpk
                by_cases hi0 : i = 0
                · subst hi0
                  have e0 := HP0.out rfl
                  subst e0
                  have hgood : pOk (ky, va, true) em = true := by
                    rw [hpk, lt_em]
                    cases hq : ky.toList with
                    | nil =>
                      have : ky.size = 0 := by rw [← size_list, hq]; rfl
                      omega
                    | cons x y => rfl
                  have f5 : decide ((0 : Int) < ((0 : Nat) : Int)) = false := by simp
                  refine wp_region_quiet_below Tryd.mixed (by kernel_rfl) ?_
                  repeat (go_big_quiet_step (fail))
                  refine wpQuiet_nil ?_
                  intro w5 hw5
                  have D5 : Hid (Below w4.heap.size w4 w5) := (show Below _ _ _ by obtain ⟨⟨dq, osq⟩, rfl⟩ := hw5; exact below_regrown w4 dq osq)
                  have L5 : Hid (Below w.heap.size w w5) := L4.out.trans (D5.out.mono L4.out.size)
                  clear hw5 k0 k1 k2
                  go_wp2_with fail
                  go_roundg (gk - 1)
                  case measure => omega
                  case rel => exact ⟨0 + 1, ky, by omega, by go_num, (show _ = _ by rw [← HG2.out, hgood]; rfl), (show _ → _ from fun _ => ⟨by omega, by simp only [Nat.add_sub_cancel]; exact HK1.out⟩), (show _ → _ from fun h => absurd h (by omega)), L5⟩
                · obtain ⟨hi1, hlast⟩ := HP1.out (by omega)
                  obtain ⟨b3, off3, e3, hlb3, hx⟩ := (HL.out.kept L4.out).nth (by omega)
                  have hc : w4.cell? ⟨b3, off3 + (i - 1) * 3, none⟩ = some (.string (L[i - 1]).1) := hx (i - 1) hi1 0 (.string (L[i - 1]).1) rfl
                  cases e3
                  rw [hlast] at hc
                  have hcr := cell_regrown hc
                  have f5 : decide (0 < i) = true := by simp; omega
                  have f9 : IntKind.i64.wrap ((i : Int) - 1) = ((i - 1 : Nat) : Int) := by rw [wr64 (by omega) (by omega)]; omega
                  have f10 : ((i - 1 : Nat) : Int) < (n : Int) := by omega
                  clear hx hc hlb3
                  cases hup : lt last ky with
                  | true =>
                    have f8 : ∀ W, (binOp .leq 9 (.string ky) (.string last)).run Tryd.prog W = .ok (.bool false) W := fun W => by rw [sle, hup]; rfl
                    have hgood : pOk (ky, va, true) last = true := by rw [hpk, hup]
                    refine wp_region_quiet_below Tryd.mixed (by kernel_rfl) ?_
                    repeat (go_big_quiet_step (fail))
                    refine wpQuiet_nil ?_
                    intro w5 hw5
                    have D5 : Hid (Below w4.heap.size w4 w5) := (show Below _ _ _ by obtain ⟨⟨dq, osq⟩, rfl⟩ := hw5; exact below_regrown w4 dq osq)
                    have L5 : Hid (Below w.heap.size w w5) := L4.out.trans (D5.out.mono L4.out.size)
                    clear hw5 k0 k1 k2
                    go_wp2_with fail
                    go_roundg (gk - 1)
                    case measure => omega
                    case rel => exact ⟨i + 1, ky, by omega, by go_num, (show _ = _ by rw [← HG2.out, hgood]; rfl), (show _ → _ from fun _ => ⟨by omega, by simp only [Nat.add_sub_cancel]; exact HK1.out⟩), (show _ → _ from fun h => absurd h (by omega)), L5⟩
                  | false =>
                    have f8 : ∀ W, (binOp .leq 9 (.string ky) (.string last)).run Tryd.prog W = .ok (.bool true) W := fun W => by rw [sle, hup]; rfl
                    have hbad : pOk (ky, va, true) last = false := by rw [hpk, hup]
                    refine wp_region_quiet_below Tryd.mixed (by kernel_rfl) ?_
                    repeat (go_big_quiet_step (fail))
                    refine wpQuiet_nil ?_
                    intro w5 hw5
                    have D5 : Hid (Below w4.heap.size w4 w5) := (show Below _ _ _ by obtain ⟨⟨dq, osq⟩, rfl⟩ := hw5; exact below_regrown w4 dq osq)
                    have L5 : Hid (Below w.heap.size w w5) := L4.out.trans (D5.out.mono L4.out.size)
                    clear hw5 k0 k1 k2
                    go_wp2_with fail
                    go_ret
                    exact ⟨by rw [← HG2.out, hbad]; rfl, L5.out⟩
            | false =>
              simp only [Bool.not_false, Bool.true_or, Bool.and_true] at hpk
              by_cases hi0 : i = 0
              · subst hi0
                have e0 := HP0.out rfl
                subst e0
                have hgood : pOk (ky, va, false) em = true := by
                  rw [hpk, lt_em]
                  cases hq : ky.toList with
                  | nil =>
                    have : ky.size = 0 := by rw [← size_list, hq]; rfl
                    omega
                  | cons x y => rfl
                have f5 : decide ((0 : Int) < ((0 : Nat) : Int)) = false := by simp
                refine wp_region_quiet_below Tryd.mixed (by kernel_rfl) ?_
                repeat (go_big_quiet_step (fail))
                refine wpQuiet_nil ?_
                intro w5 hw5
                have D5 : Hid (Below w4.heap.size w4 w5) := (show Below _ _ _ by obtain ⟨⟨dq, osq⟩, rfl⟩ := hw5; exact below_regrown w4 dq osq)
                have L5 : Hid (Below w.heap.size w w5) := L4.out.trans (D5.out.mono L4.out.size)
                clear hw5 k0 k1 k2
                go_wp2_with fail
                go_roundg (gk - 1)
                case measure => omega
                case rel => exact ⟨0 + 1, ky, by omega, by go_num, (show _ = _ by rw [← HG2.out, hgood]; rfl), (show _ → _ from fun _ => ⟨by omega, by simp only [Nat.add_sub_cancel]; exact HK1.out⟩), (show _ → _ from fun h => absurd h (by omega)), L5⟩
              · obtain ⟨hi1, hlast⟩ := HP1.out (by omega)
                obtain ⟨b3, off3, e3, hlb3, hx⟩ := (HL.out.kept L4.out).nth (by omega)
                have hc : w4.cell? ⟨b3, off3 + (i - 1) * 3, none⟩ = some (.string (L[i - 1]).1) := hx (i - 1) hi1 0 (.string (L[i - 1]).1) rfl
                cases e3
                rw [hlast] at hc
                have hcr := cell_regrown hc
                have f5 : decide (0 < i) = true := by simp; omega
                have f9 : IntKind.i64.wrap ((i : Int) - 1) = ((i - 1 : Nat) : Int) := by rw [wr64 (by omega) (by omega)]; omega
                have f10 : ((i - 1 : Nat) : Int) < (n : Int) := by omega
                clear hx hc hlb3
                cases hup : lt last ky with
                | true =>
                  have f8 : ∀ W, (binOp .leq 9 (.string ky) (.string last)).run Tryd.prog W = .ok (.bool false) W := fun W => by rw [sle, hup]; rfl
                  have hgood : pOk (ky, va, false) last = true := by rw [hpk, hup]
                  refine wp_region_quiet_below Tryd.mixed (by kernel_rfl) ?_
                  repeat (go_big_quiet_step (fail))
                  refine wpQuiet_nil ?_
                  intro w5 hw5
                  have D5 : Hid (Below w4.heap.size w4 w5) := (show Below _ _ _ by obtain ⟨⟨dq, osq⟩, rfl⟩ := hw5; exact below_regrown w4 dq osq)
                  have L5 : Hid (Below w.heap.size w w5) := L4.out.trans (D5.out.mono L4.out.size)
                  clear hw5 k0 k1 k2
                  go_wp2_with fail
                  go_roundg (gk - 1)
                  case measure => omega
                  case rel => exact ⟨i + 1, ky, by omega, by go_num, (show _ = _ by rw [← HG2.out, hgood]; rfl), (show _ → _ from fun _ => ⟨by omega, by simp only [Nat.add_sub_cancel]; exact HK1.out⟩), (show _ → _ from fun h => absurd h (by omega)), L5⟩
                | false =>
                  have f8 : ∀ W, (binOp .leq 9 (.string ky) (.string last)).run Tryd.prog W = .ok (.bool true) W := fun W => by rw [sle, hup]; rfl
                  have hbad : pOk (ky, va, false) last = false := by rw [hpk, hup]
                  refine wp_region_quiet_below Tryd.mixed (by kernel_rfl) ?_
                  repeat (go_big_quiet_step (fail))
                  refine wpQuiet_nil ?_
                  intro w5 hw5
                  have D5 : Hid (Below w4.heap.size w4 w5) := (show Below _ _ _ by obtain ⟨⟨dq, osq⟩, rfl⟩ := hw5; exact below_regrown w4 dq osq)
                  have L5 : Hid (Below w.heap.size w w5) := L4.out.trans (D5.out.mono L4.out.size)
                  clear hw5 k0 k1 k2
                  go_wp2_with fail
                  go_ret
                  exact ⟨by rw [← HG2.out, hbad]; rfl, L5.out⟩
    · obtain rfl : i = n := by omega
      have q2 : ¬ (i : Int) < (i : Int) := by omega
      have HF : Hid (goodP em L = true) := (show _ = _ by rw [← HG.out, List.drop_of_length_le (by rw [HN.out]; exact Nat.le_refl _)]; rfl)
      go_wp2_with fail
      go_ret
      exact ⟨by rw [HF.out]; rfl, LR.out⟩
end Go.Proofs.YtmicmbjbclkbjaaDoor
