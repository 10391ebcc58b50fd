/-
  What is got: num, flag, str, isOver, isDone, sourceOf: what the calls do.
-/
import Derived.Test.YtmicmbjbclkbjaaDoorRcX
namespace Go.Proofs.YtmicmbjbclkbjaaDoor
open Go.RowKit
/-- What is got of what is left; what is left then. -/
def got {α : Type} (p : Pa α) (d : α) (s : Option (List UInt8)) : α := ((s.bind p).map Prod.fst).getD d
def aft {α : Type} (p : Pa α) (s : Option (List UInt8)) : Option (List UInt8) := (s.bind p).map Prod.snd
theorem aft_none {α : Type} (p : Pa α) : aft p none = none := rfl
theorem got_none {α : Type} (p : Pa α) (d : α) : got p d none = d := rfl
theorem aft_some {α : Type} {p : Pa α} {l z : List UInt8} {x : α} (h : p l = some (x, z)) : aft p (some l) = some z := by
  unfold aft; simp [h]
theorem got_some {α : Type} {p : Pa α} {d : α} {l z : List UInt8} {x : α} (h : p l = some (x, z)) : got p d (some l) = x := by
  unfold got; simp [h]
theorem aft_no {α : Type} {p : Pa α} {l : List UInt8} (h : p l = none) : aft p (some l) = none := by
  unfold aft; simp [h]
theorem got_no {α : Type} {p : Pa α} {d : α} {l : List UInt8} (h : p l = none) : got p d (some l) = d := by
  unfold got; simp [h]
theorem tk_none (ok : Bool) (k : Nat) : tk none ok k = none := rfl
theorem tk_no (s : Option (List UInt8)) (k : Nat) : tk s false k = none := by cases s <;> rfl
theorem tk_yes (l : List UInt8) (k : Nat) : tk (some l) true k = some (l.drop k) := rfl
set_option maxHeartbeats 1000000 in
set_option maxRecDepth 100000 in
theorem snum_any {w0 w : World} {Bb Br Bt : Nat} {s : Option (List UInt8)} (h : SrcAt w0 w Bb Br Bt s) (m : Nat) (hm : m ≤ 1099511627776) :
    Calls Tryd.prog 47 #[.int .u64 (m : Int), PT Bb, PT Bt] w fun e w' => e = .returned (.int .i64 ((got (pN m) 0 s : Nat) : Int)) ∧ SrcAt w0 w' Bb Br Bt (aft (pN m) s) ∧ Chg (GF Bb Br) w w' := by
  obtain ⟨v, l, hb, hrd, hl, hs⟩ := h.b
  have H := hide h
  have HRd := hide hrd
  have d1 := hb.cell (j := 0) rfl
  obtain ⟨a, cap, rfl⟩ := hrd.slice
  obtain ⟨n0, Hn0⟩ : ∃ z, Hid (l.length = z) := ⟨_, rfl⟩
  have HRW := hide (hrd.kept h.base)
  have CG := hide (getNum_any _ l w HRW.out (by omega))
  rw [Hn0.out] at CG d1
  rcases gn_cases l with hg | ⟨n, k, hg⟩
  · have HA : Hid (aft (pN m) s = none ∧ got (pN m) 0 s = 0) := (show _ ∧ _ from by
      cases s with
      | none => exact ⟨rfl, rfl⟩
      | some z =>
        obtain rfl := hs z rfl
        have : pN m l = none := by unfold pN; rw [hg]; simp
        exact ⟨aft_no this, got_no this⟩)
    rw [hg] at CG
    clear h hb hrd hs
    go_enter Tryd.func47, Tryd.ntmps47
    go_wp2_with fail
    refine CG.out.mono ?_
    rintro e w1 ⟨rfl, hb1⟩
    have H1 := hide (H.out.kept hb1)
    have HB1 := hide hb1
    have CT := hide (took_any H1.out false 0 (fun _ _ h => by cases h))
    rw [tk_no] at CT
    have d2 := H1.out.t.cell (j := 0) rfl
    unfold tookV at d2
    clear hb1 CG d1
    go_wp2_with fail
    refine CT.out.mono ?_
    rintro e w2 ⟨rfl, s2, c2⟩
    have S2 := hide s2
    have C2 : Hid (Chg (GF Bb Br) w w2) := (show Chg _ _ _ from (Chg.of_below HB1.out).trans c2)
    clear s2 c2 CT d2
    go_wp2_with fail
    go_ret
    rw [HA.out.1, HA.out.2]
    exact ⟨rfl, S2.out, C2.out⟩
  · obtain ⟨hk1, hk9, hkl, hn8, -⟩ := gn_ok hg
    rw [hg] at CG
    by_cases hnm : n ≤ m
    · have q1 : decide ((n : Int) ≤ (m : Int)) = true := by simp; omega
      have HA : Hid (aft (pN m) s = tk s true k ∧ got (pN m) 0 s = if s.isSome = true then n else 0) := (show _ ∧ _ from by
        cases s with
        | none => exact ⟨rfl, rfl⟩
        | some z =>
          obtain rfl := hs z rfl
          have : pN m l = some (n, l.drop k) := by unfold pN; rw [hg]; simp [hnm]
          exact ⟨aft_some this, got_some this⟩)
      have HKL : Hid (∀ z, s = some z → true = true → k ≤ z.length) := (show ∀ z, _ from fun z e _ => by rw [← hs z e]; exact hkl)
      have HIS : Hid ((tk s true k).isSome = s.isSome) := (show _ = _ by cases s <;> rfl)
      have hwn : IntKind.i64.wrap (n : Int) = (n : Int) := wr64 (by omega) (by omega)
      obtain ⟨b, Hb⟩ : ∃ z, Hid (s.isSome = z) := ⟨_, rfl⟩
      rw [Hb.out] at HA HIS
      clear h hb hrd hs hn8 hk1 hk9 hkl
      go_enter Tryd.func47, Tryd.ntmps47
      go_wp2_with fail
      refine CG.out.mono ?_
      rintro e w1 ⟨rfl, hb1⟩
      have H1 := hide (H.out.kept hb1)
      have HB1 := hide hb1
      have CT := hide (took_any H1.out true k (fun z e _ => HKL.out z e trivial))
      rw [HIS.out] at CT
      have d2 := H1.out.t.cell (j := 0) rfl
      unfold tookV at d2
      clear hb1 CG d1
      go_wp2_with fail
      refine CT.out.mono ?_
      rintro e w2 ⟨rfl, s2, c2⟩
      have S2 := hide s2
      have C2 : Hid (Chg (GF Bb Br) w w2) := (show Chg _ _ _ from (Chg.of_below HB1.out).trans c2)
      clear s2 c2 CT d2
      cases b with
      | false =>
        go_wp2_with fail
        go_ret
        rw [HA.out.1, HA.out.2]
        exact ⟨rfl, S2.out, C2.out⟩
      | true =>
        go_wp2_with fail
        go_ret
        rw [HA.out.1, HA.out.2]
        exact ⟨rfl, S2.out, C2.out⟩
    · have q1 : decide ((n : Int) ≤ (m : Int)) = false := by simp; omega
      have HA : Hid (aft (pN m) s = none ∧ got (pN m) 0 s = 0) := (show _ ∧ _ from by
        cases s with
        | none => exact ⟨rfl, rfl⟩
        | some z =>
          obtain rfl := hs z rfl
          have : pN m l = none := by unfold pN; rw [hg]; simp [hnm]
          exact ⟨aft_no this, got_no this⟩)
      clear h hb hrd hs hn8 hk1 hk9 hkl
      go_enter Tryd.func47, Tryd.ntmps47
      go_wp2_with fail
      refine CG.out.mono ?_
      rintro e w1 ⟨rfl, hb1⟩
      have H1 := hide (H.out.kept hb1)
      have HB1 := hide hb1
      have CT := hide (took_any H1.out false k (fun _ _ h => by cases h))
      rw [tk_no] at CT
      have d2 := H1.out.t.cell (j := 0) rfl
      unfold tookV at d2
      clear hb1 CG d1
      go_wp2_with fail
      refine CT.out.mono ?_
      rintro e w2 ⟨rfl, s2, c2⟩
      have S2 := hide s2
      have C2 : Hid (Chg (GF Bb Br) w w2) := (show Chg _ _ _ from (Chg.of_below HB1.out).trans c2)
      clear s2 c2 CT d2
      go_wp2_with fail
      go_ret
      rw [HA.out.1, HA.out.2]
      exact ⟨rfl, S2.out, C2.out⟩
#print axioms snum_any
theorem gf_cases (l : List UInt8) : gf l = (false, 0, false) ∨ ∃ b, gf l = (b, 1, true) ∧ 1 ≤ l.length := by
  cases l with
  | nil => exact .inl rfl
  | cons x r =>
    by_cases h : 1 < x.toNat
    · exact .inl (by simp [gf, h])
    · exact .inr ⟨decide (x.toNat = 1), by simp only [gf, if_neg h], by simp⟩
set_option maxHeartbeats 1000000 in
set_option maxRecDepth 100000 in
theorem sflag_any {w0 w : World} {Bb Br Bt : Nat} {s : Option (List UInt8)} (h : SrcAt w0 w Bb Br Bt s) :
    Calls Tryd.prog 49 #[PT Bb, PT Bt] w fun e w' => e = .returned (.bool (got pF false s)) ∧ SrcAt w0 w' Bb Br Bt (aft pF s) ∧ Chg (GF Bb Br) w w' := by
  obtain ⟨v, l, hb, hrd, hl, hs⟩ := h.b
  have H := hide h
  have HRd := hide hrd
  have d1 := hb.cell (j := 0) rfl
  obtain ⟨a, cap, rfl⟩ := hrd.slice
  obtain ⟨n0, Hn0⟩ : ∃ z, Hid (l.length = z) := ⟨_, rfl⟩
  have HRW := hide (hrd.kept h.base)
  have CG := hide (getFlag_any _ l w HRW.out)
  rw [Hn0.out] at CG d1
  rcases gf_cases l with hg | ⟨f, hg, hl1⟩
  · have HA : Hid (aft pF s = none ∧ got pF false s = false) := (show _ ∧ _ from by
      cases s with
      | none => exact ⟨rfl, rfl⟩
      | some z =>
        obtain rfl := hs z rfl
        have : pF l = none := by unfold pF; rw [hg]; simp
        exact ⟨aft_no this, got_no this⟩)
    rw [hg] at CG
    have CT := hide (took_any H.out false 0 (fun _ _ h => by cases h))
    rw [tk_no] at CT
    have d2 := h.t.cell (j := 0) rfl
    unfold tookV at d2
    clear h hb hrd hs
    go_enter Tryd.func49, Tryd.ntmps49
    go_wp2_with fail
    refine CG.out.mono ?_
    rintro e w_ ⟨rfl, hw⟩
    subst w_
    clear CG d1
    go_wp2_with fail
    refine CT.out.mono ?_
    rintro e w2 ⟨rfl, s2, c2⟩
    have S2 := hide s2
    have C2 := hide c2
    clear s2 c2 CT d2
    go_wp2_with fail
    go_ret
    rw [HA.out.1, HA.out.2]
    exact ⟨rfl, S2.out, C2.out⟩
  · have HA : Hid (aft pF s = tk s true 1 ∧ got pF false s = (s.isSome && f)) := (show _ ∧ _ from by
      cases s with
      | none => exact ⟨rfl, rfl⟩
      | some z =>
        obtain rfl := hs z rfl
        have : pF l = some (f, l.drop 1) := by unfold pF; rw [hg]; simp
        exact ⟨aft_some this, (got_some this).trans (by simp)⟩)
    have HIS : Hid ((tk s true 1).isSome = s.isSome) := (show _ = _ by cases s <;> rfl)
    rw [hg] at CG
    have CT := hide (took_any H.out true 1 (fun z e _ => by rw [← hs z e]; exact hl1))
    rw [HIS.out] at CT
    obtain ⟨b, Hb⟩ : ∃ z, Hid (s.isSome = z) := ⟨_, rfl⟩
    rw [Hb.out] at HA CT
    have d2 := h.t.cell (j := 0) rfl
    unfold tookV at d2
    clear h hb hrd hs
    go_enter Tryd.func49, Tryd.ntmps49
    go_wp2_with fail
    refine CG.out.mono ?_
    rintro e w_ ⟨rfl, hw⟩
    subst w_
    clear CG d1
    go_wp2_with fail
    refine CT.out.mono ?_
    rintro e w2 ⟨rfl, s2, c2⟩
    have S2 := hide s2
    have C2 := hide c2
    clear s2 c2 CT d2
    cases b with
    | false =>
      go_wp2_with fail
      go_ret
      rw [HA.out.1, HA.out.2]
      exact ⟨rfl, S2.out, C2.out⟩
    | true =>
      go_wp2_with fail
      go_ret
      rw [HA.out.1, HA.out.2]
      exact ⟨rfl, S2.out, C2.out⟩
#print axioms sflag_any
set_option maxHeartbeats 1000000 in
set_option maxRecDepth 100000 in
theorem sstr_any {w0 w : World} {Bb Br Bt : Nat} {s : Option (List UInt8)} (h : SrcAt w0 w Bb Br Bt s) (m : Nat) (hm : (Lit.int .i64 (m : Int)).wf = true) :
    Calls Tryd.prog 51 #[.int .i64 (m : Int), PT Bb, PT Bt] w fun e w' => e = .returned (.string (got (pS m) em s)) ∧ SrcAt w0 w' Bb Br Bt (aft (pS m) s) ∧ Chg (GF Bb Br) w w' := by
  obtain ⟨v, l, hb, hrd, hl, hs⟩ := h.b
  have H := hide h
  have HRd := hide hrd
  have d1 := hb.cell (j := 0) rfl
  obtain ⟨a, cap, rfl⟩ := hrd.slice
  obtain ⟨n0, Hn0⟩ : ∃ z, Hid (l.length = z) := ⟨_, rfl⟩
  have HRW := hide (hrd.kept h.base)
  have CG := hide (getStr_any _ l (m : Int) w HRW.out (by omega) hm)
  rw [Int.toNat_natCast, Hn0.out] at CG
  rw [Hn0.out] at d1
  rcases gs_cases l m with hg | ⟨t, k, hg, hkl, hk1, ht, htm⟩
  · have HA : Hid (aft (pS m) s = none ∧ got (pS m) em s = em) := (show _ ∧ _ from by
      cases s with
      | none => exact ⟨rfl, rfl⟩
      | some z =>
        obtain rfl := hs z rfl
        have : pS m l = none := by unfold pS; rw [hg]; simp
        exact ⟨aft_no this, got_no this⟩)
    rw [hg] at CG
    clear h hb hrd hs
    go_enter Tryd.func51, Tryd.ntmps51
    go_wp2_with fail
    refine CG.out.mono ?_
    rintro e w1 ⟨rfl, hb1⟩
    have H1 := hide (H.out.kept hb1)
    have HB1 := hide hb1
    have CT := hide (took_any H1.out false 0 (fun _ _ h => by cases h))
    rw [tk_no] at CT
    have d2 := H1.out.t.cell (j := 0) rfl
    unfold tookV at d2
    clear hb1 CG d1
    go_wp2_with fail
    refine CT.out.mono ?_
    rintro e w2 ⟨rfl, s2, c2⟩
    have S2 := hide s2
    have C2 : Hid (Chg (GF Bb Br) w w2) := (show Chg _ _ _ from (Chg.of_below HB1.out).trans c2)
    clear s2 c2 CT d2
    go_wp2_with fail
    go_ret
    rw [HA.out.1, HA.out.2]
    exact ⟨rfl, S2.out, C2.out⟩
  · have HA : Hid (aft (pS m) s = tk s true k ∧ got (pS m) em s = if s.isSome = true then ⟨t.toArray⟩ else em) := (show _ ∧ _ from by
      cases s with
      | none => exact ⟨rfl, rfl⟩
      | some z =>
        obtain rfl := hs z rfl
        have : pS m l = some (⟨t.toArray⟩, l.drop k) := by unfold pS; rw [hg]; simp
        exact ⟨aft_some this, got_some this⟩)
    have HIS : Hid ((tk s true k).isSome = s.isSome) := (show _ = _ by cases s <;> rfl)
    have HKL : Hid (∀ z, s = some z → true = true → k ≤ z.length) := (show ∀ z, _ from fun z e _ => by rw [← hs z e]; exact hkl)
    rw [hg] at CG
    obtain ⟨b, Hb⟩ : ∃ z, Hid (s.isSome = z) := ⟨_, rfl⟩
    rw [Hb.out] at HA HIS
    obtain ⟨ts, Hts⟩ : ∃ z : ByteArray, Hid ((⟨t.toArray⟩ : ByteArray) = z) := ⟨_, rfl⟩
    rw [Hts.out] at HA CG
    clear h hb hrd hs ht
    go_enter Tryd.func51, Tryd.ntmps51
    go_wp2_with fail
    refine CG.out.mono ?_
    rintro e w1 ⟨rfl, hb1⟩
    have H1 := hide (H.out.kept hb1)
    have HB1 := hide hb1
    have CT := hide (took_any H1.out true k (fun z e _ => HKL.out z e trivial))
    rw [HIS.out] at CT
    have d2 := H1.out.t.cell (j := 0) rfl
    unfold tookV at d2
    clear hb1 CG d1
    go_wp2_with fail
    refine CT.out.mono ?_
    rintro e w2 ⟨rfl, s2, c2⟩
    have S2 := hide s2
    have C2 : Hid (Chg (GF Bb Br) w w2) := (show Chg _ _ _ from (Chg.of_below HB1.out).trans c2)
    clear s2 c2 CT d2
    cases b with
    | false =>
      go_wp2_with fail
      go_ret
      rw [HA.out.1, HA.out.2]
      exact ⟨rfl, S2.out, C2.out⟩
    | true =>
      go_wp2_with fail
      go_ret
      rw [HA.out.1, HA.out.2]
      exact ⟨rfl, S2.out, C2.out⟩
#print axioms sstr_any
set_option maxRecDepth 100000 in
theorem sover_any {w0 w : World} {Bb Br Bt : Nat} {s : Option (List UInt8)} (h : SrcAt w0 w Bb Br Bt s) :
    Calls Tryd.prog 53 #[PT Br] w fun e w' => e = .returned (.bool (!s.isSome)) ∧ w' = w := by
  have d1 := h.r.cell (j := 0) rfl
  obtain ⟨b, Hb⟩ : ∃ z, Hid (s.isSome = z) := ⟨_, rfl⟩
  rw [Hb.out] at d1 ⊢
  clear h
  go_enter Tryd.func53, Tryd.ntmps53
  go_wp2_with fail
  go_ret
  exact ⟨rfl, rfl⟩
set_option maxRecDepth 100000 in
theorem sdone_any {w0 w : World} {Bb Br Bt : Nat} {s : Option (List UInt8)} (h : SrcAt w0 w Bb Br Bt s) :
    Calls Tryd.prog 54 #[PT Br, PT Bb] w fun e w' => e = .returned (.bool (decide (s = some []))) ∧ w' = w := by
  obtain ⟨v, l, hb, hrd, hl, hs⟩ := h.b
  have d1 := h.r.cell (j := 0) rfl
  have d2 := hb.cell (j := 0) rfl
  obtain ⟨a, cap, rfl⟩ := hrd.slice
  cases s with
  | none =>
    have d1 : w.cell? ⟨Br, 0, none⟩ = some (.bool false) := d1
    clear h hb hrd hs
    go_enter Tryd.func54, Tryd.ntmps54
    go_wp2_with fail
    go_ret
    exact ⟨rfl, rfl⟩
  | some z =>
    obtain rfl := hs z rfl
    have d1 : w.cell? ⟨Br, 0, none⟩ = some (.bool true) := d1
    have HD : Hid (decide (some l = some []) = decide (l.length = 0)) := (show _ = _ by cases l <;> simp)
    rw [HD.out]
    obtain ⟨n, Hn⟩ : ∃ z, Hid (l.length = z) := ⟨_, rfl⟩
    rw [Hn.out] at d2 ⊢
    clear h hb hrd hs HD
    by_cases h0 : n = 0
    · subst h0
      go_enter Tryd.func54, Tryd.ntmps54
      go_wp2_with fail
      go_ret
      exact ⟨by simp, rfl⟩
    · have q : ((n : Int) == 0) = false := by simp; omega
      go_enter Tryd.func54, Tryd.ntmps54
      go_wp2_with fail
      go_ret
      exact ⟨by simp [h0], rfl⟩
#print axioms sdone_any
end Go.Proofs.YtmicmbjbclkbjaaDoor
