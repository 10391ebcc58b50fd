/-
  What a record may be: areReads, areWrites, isSound, Good, Bytes; the law's lives: what the calls do.
-/
import Derived.Test.YtmicmbjbclkbjaaRcJ
import Derived.Test.YtmicmbjbclkbjaaRcU
namespace Go.Proofs.Ytmicmbjbclkbjaa
open Go.RowKit
def rsP (l : List Rp) : Bool := decide (l.length ≤ 64) && (!(l.any noRd) && apK [] l)
def wsP (l : List Pr) : Bool := decide (l.length ≤ 64) && goodP em l
def soundP (r : Rc) : Bool := decide (1 ≤ r.ses) && (decide (r.ses ≤ 8) && (decide (0 ≤ r.snap) && (decide (r.snap ≤ 1099511627776) && (rsP (r.rs.map plR) && wsP r.ws))))
theorem goodP_mem : ∀ {L : List Pr} {last : ByteArray}, goodP last L = true → ∀ p ∈ L, okW p
  | [], _, _, p, hp => by cases hp
  | q :: L, last, h, p, hp => by
    unfold goodP at h
    rw [Bool.and_eq_true] at h
    rcases List.mem_cons.1 hp with rfl | hp
    · have h1 := h.1
      unfold pOk at h1
      simp only [Bool.and_eq_true, decide_eq_true_eq, Bool.or_eq_true, Bool.not_eq_true'] at h1
      refine ⟨h1.1.1.2, h1.1.2, fun hd => ?_⟩
      rcases h1.2 with h2 | h2
      · rw [hd] at h2; cases h2
      · rw [List.isEmpty_iff] at h2
        exact ba_inj.1 (by rw [h2, em_list])
    · exact goodP_mem h.2 p hp
theorem noRd_ok {x : Rp} (h : noRd x = false) : okX x := by
  obtain ⟨s, k, t, ps⟩ := x
  unfold noRd at h
  cases s with
  | true =>
    simp only [if_true, Bool.or_eq_false_iff, decide_eq_false_iff_not, Bool.not_eq_false', thereP, Bool.and_eq_true, decide_eq_true_eq, Bool.not_eq_true'] at h
    obtain ⟨h1, h2, h3, h4, h5⟩ := h
    refine ⟨by simp only; omega, by simp only; omega, (fun h => by cases h), by simp only; omega, fun p hp => ?_⟩
    have h6 := goodP_mem h4 p hp
    rw [List.any_eq_false] at h5
    have h7 := h5 p hp
    unfold wrongP at h7
    simp only [Bool.or_eq_true, not_or, Bool.not_eq_true] at h7
    exact ⟨h6.1, h6.2.1, h7.1⟩
  | false =>
    simp only [Bool.false_eq_true, if_false, Bool.or_eq_false_iff, decide_eq_false_iff_not, Bool.not_eq_false', thereP, Bool.and_eq_true, decide_eq_true_eq, Bool.not_eq_true'] at h
    obtain ⟨h0, h1, h2, h3, h4, h5⟩ := h
    have ht : t = em := by
      rw [List.isEmpty_iff] at h2
      exact ba_inj.1 (by rw [h2, em_list])
    subst ht
    refine ⟨by simp only; omega, Nat.zero_le _, (fun _ => rfl), by simp only; omega, fun p hp => ?_⟩
    have h6 := goodP_mem h4 p hp
    rw [List.any_eq_false] at h5
    have h7 := h5 p hp
    unfold wrongP at h7
    simp only [Bool.or_eq_true, not_or, Bool.not_eq_true] at h7
    exact ⟨h6.1, h6.2.1, h7.1⟩
theorem sound_ok {r : Rc} (h : soundP r = true) : okD (pdR r) ∧ 0 ≤ r.ses ∧ 0 ≤ r.snap := by
  unfold soundP rsP wsP at h
  simp only [Bool.and_eq_true, decide_eq_true_eq, Bool.not_eq_true'] at h
  obtain ⟨h1, h2, h3, h4, ⟨h5, h6, h7⟩, h8, h9⟩ := h
  refine ⟨⟨?_, ?_, h5, fun x hx => ?_, h8, fun p hp => goodP_mem h9 p hp⟩, by omega, h3⟩
  · show r.ses.toNat ≤ 8
    omega
  · show r.snap.toNat ≤ _
    omega
  · rw [List.any_eq_false] at h6
    exact noRd_ok (Bool.not_eq_true _ ▸ h6 x hx)
set_option maxHeartbeats 1000000 in
set_option maxRecDepth 100000 in
theorem areReads_any {w : World} {v : Value} {L : List Rz} (h : RdX w v L) : Calls Try.prog 45 #[v] w fun e w' => e = .returned (.bool (rsP (L.map plR))) ∧ Below w.heap.size w w' := by
  have HX := hide h
  obtain ⟨a, cp, rfl⟩ := h.rd.slice
  have hm := Nat.le_trans h.rd.cap h.rd.max
  have CC := hide (containsN_any h)
  have HCK : Hid (L.length ≤ 64 → (∀ x ∈ L, noRd (plR x) = false) → ∀ w2, Below w.heap.size w w2 → Calls Try.prog 62 #[.slice a L.length cp] w2 fun e w' => e = .returned (.bool (apK [] (L.map plR))) ∧ Below w2.heap.size w2 w') := (show _ from fun hl hx w2 hb => keysApart_any (HX.out.kept hb) (by omega) fun x hx2 => by have := (noRd_ok (hx x hx2)).k; exact Nat.le_trans this (by decide))
  have HP : Hid (rsP (L.map plR) = (decide (L.length ≤ 64) && (!(L.any fun y => noRd (plR y)) && apK [] (L.map plR)))) := (show _ = _ by
    unfold rsP
    rw [List.length_map, List.any_map]
    rfl)
  rw [HP.out]
  obtain ⟨n, HN⟩ : ∃ z, Hid (L.length = z) := ⟨_, rfl⟩
  rw [HN.out] at CC HCK hm ⊢
  obtain ⟨c, HC⟩ : ∃ z, Hid ((L.any fun y => noRd (plR y)) = z) := ⟨_, rfl⟩
  rw [HC.out] at CC ⊢
  obtain ⟨q, HQ⟩ : ∃ z, Hid (apK [] (L.map plR) = z) := ⟨_, rfl⟩
  rw [HQ.out] at HCK ⊢
  clear h
  by_cases h1 : n ≤ 64
  · have q1 : decide ((n : Int) ≤ 64) = true := by simp; omega
    go_enter Try.func45, Try.ntmps45
    go_wp2_with fail
    refine CC.out.mono ?_
    rintro e w2 ⟨rfl, hb2⟩
    have L2 := hide hb2
    clear hb2 CC
    cases c with
    | true =>
      go_wp2_with fail
      go_ret
      exact ⟨by simp, L2.out⟩
    | false =>
      have CK := hide (HCK.out h1 (fun x hx => by have := HC.out; rw [List.any_eq_false] at this; simpa using this x hx) w2 L2.out)
      go_wp2_with fail
      refine CK.out.mono ?_
      rintro e w3 ⟨rfl, hb3⟩
      have L3 : Hid (Below w.heap.size w w3) := (show Below _ _ _ from L2.out.trans (hb3.mono L2.out.size))
      clear hb3 CK
      go_wp2_with fail
      go_ret
      exact ⟨by simp [h1], L3.out⟩
  · have q1 : decide ((n : Int) ≤ 64) = false := by simp; omega
    clear CC HCK
    go_enter Try.func45, Try.ntmps45
    go_wp2_with fail
    go_ret
    exact ⟨by simp [h1], Below.refl _ _⟩
set_option maxRecDepth 100000 in
theorem areWrites_any {w : World} {v : Value} {L : List Pr} (h : RdG PE w v L) : Calls Try.prog 46 #[v] w fun e w' => e = .returned (.bool (wsP L)) ∧ Below w.heap.size w w' := by
  obtain ⟨a, cp, rfl⟩ := h.slice
  have CC := hide (sGood_any h)
  have hm := Nat.le_trans h.cap h.max
  have HP : Hid (wsP L = (decide (L.length ≤ 64) && goodP em L)) := (show _ = _ from rfl)
  rw [HP.out]
  obtain ⟨n, HN⟩ : ∃ z, Hid (L.length = z) := ⟨_, rfl⟩
  obtain ⟨c, HC⟩ : ∃ z, Hid (goodP em L = z) := ⟨_, rfl⟩
  rw [HN.out, HC.out] at CC
  rw [HN.out, HC.out]
  clear h
  by_cases h1 : n ≤ 64
  · have q1 : decide ((n : Int) ≤ 64) = true := by simp; omega
    go_enter Try.func46, Try.ntmps46
    go_wp2_with fail
    refine CC.out.mono ?_
    rintro e w2 ⟨rfl, hb2⟩
    have L2 := hide hb2
    clear hb2 CC
    go_wp2_with fail
    go_ret
    exact ⟨by simp [h1], L2.out⟩
  · have q1 : decide ((n : Int) ≤ 64) = false := by simp; omega
    clear CC
    go_enter Try.func46, Try.ntmps46
    go_wp2_with fail
    go_ret
    exact ⟨by simp [h1], Below.refl _ _⟩
set_option linter.unusedSimpArgs false in
set_option maxHeartbeats 1000000 in
set_option maxRecDepth 100000 in
theorem isSound_any {w : World} {r : Rc} (hr : ROk w r) : Calls Try.prog 18 #[.agg (RC r).toArray] w fun e w' => e = .returned (.bool (soundP r)) ∧ Below w.heap.size w w' := by
  obtain ⟨N, HN⟩ : ∃ N, Hid (w.heap.size = N) := ⟨_, rfl⟩
  obtain ⟨w1, hw1⟩ : ∃ y, y = w.alloc (.cells (RC r).toArray 27 (0, 0)) := ⟨_, rfl⟩
  obtain ⟨b1, l1⟩ := newB HN hw1
  have HW := hide hw1
  have RO := hide (hr.kept l1.out)
  have CR := hide (areReads_any RO.out.rs)
  have HCW : Hid (∀ w2, Below w1.heap.size w1 w2 → Calls Try.prog 46 #[wv r] w2 fun e w' => e = .returned (.bool (wsP r.ws)) ∧ Below w2.heap.size w2 w') := (show ∀ w2, _ from fun w2 hb => areWrites_any (RdG.kept RO.out.ws hb))
  have HP : Hid (soundP r = (decide (1 ≤ r.ses) && (decide (r.ses ≤ 8) && (decide (0 ≤ r.snap) && (decide (r.snap ≤ 1099511627776) && (rsP (r.rs.map plR) && wsP r.ws)))))) := (show _ = _ from rfl)
  rw [HP.out]
  have d0 := b1.out.rses
  have d1 := b1.out.rsnap
  have d3 := b1.out.rrs
  have d4 := b1.out.rws
  obtain ⟨a, Ha⟩ : ∃ z, Hid (r.ses = z) := ⟨_, rfl⟩
  obtain ⟨b, Hb⟩ : ∃ z, Hid (r.snap = z) := ⟨_, rfl⟩
  obtain ⟨c1, H1⟩ : ∃ z, Hid (rsP (r.rs.map plR) = z) := ⟨_, rfl⟩
  obtain ⟨c2, H2⟩ : ∃ z, Hid (wsP r.ws = z) := ⟨_, rfl⟩
  rw [Ha.out] at d0
  rw [Hb.out] at d1
  rw [H1.out] at CR
  rw [H2.out] at HCW
  rw [Ha.out, Hb.out, H1.out, H2.out]
  have B1 := b1
  clear hr hw1 b1
  by_cases h1 : 1 ≤ a
  · have q0 : decide ((1 : Int) ≤ a) = true := by simpa using h1
    by_cases h2 : a ≤ 8
    · have q1 : decide (a ≤ (8 : Int)) = true := by simpa using h2
      by_cases h3 : 0 ≤ b
      · have q2 : decide ((0 : Int) ≤ b) = true := by simpa using h3
        by_cases h4 : b ≤ 1099511627776
        · have q3 : decide (b ≤ (1099511627776 : Int)) = true := by simpa using h4
          go_enter Try.func18, Try.ntmps18
          go_upto_region 1 with fail
          change Code.wp _ _ _ _ (w.alloc (.cells (RC r).toArray 27 (0, 0)))
          rw [← HW.out, HN.out]
          go_wp2_with fail
          refine CR.out.mono ?_
          rintro e w2 ⟨rfl, hb2⟩
          have L2 : Hid (Below w.heap.size w w2) := (show Below _ _ _ from l1.out.trans (hb2.mono l1.out.size))
          have CW := hide (HCW.out w2 hb2)
          have d5 := (B1.out.kept hb2).rws
          unfold wv at d5 CW
          clear hb2 CR HCW d0 d1 d3 d4
          cases c1 with
          | false =>
            go_wp2_with fail
            go_ret
            exact ⟨by simp, L2.out⟩
          | true =>
            go_wp2_with fail
            refine CW.out.mono ?_
            rintro e w3 ⟨rfl, hb3⟩
            have L3 : Hid (Below w.heap.size w w3) := (show Below _ _ _ from L2.out.trans (hb3.mono L2.out.size))
            clear hb3 CW
            go_wp2_with fail
            go_ret
            exact ⟨by simp [h1, h2, h3, h4], L3.out⟩
        · have q3 : decide (b ≤ (1099511627776 : Int)) = false := by simpa using h4
          go_enter Try.func18, Try.ntmps18
          go_upto_region 1 with fail
          change Code.wp _ _ _ _ (w.alloc (.cells (RC r).toArray 27 (0, 0)))
          rw [← HW.out, HN.out]
          go_wp2_with fail
          go_ret
          exact ⟨by simp [h1, h2, h3, h4], l1.out⟩
      · have q2 : decide ((0 : Int) ≤ b) = false := by simpa using h3
        go_enter Try.func18, Try.ntmps18
        go_upto_region 1 with fail
        change Code.wp _ _ _ _ (w.alloc (.cells (RC r).toArray 27 (0, 0)))
        rw [← HW.out, HN.out]
        go_wp2_with fail
        go_ret
        exact ⟨by simp [h1, h2, h3], l1.out⟩
    · have q1 : decide (a ≤ (8 : Int)) = false := by simpa using h2
      go_enter Try.func18, Try.ntmps18
      go_upto_region 1 with fail
      change Code.wp _ _ _ _ (w.alloc (.cells (RC r).toArray 27 (0, 0)))
      rw [← HW.out, HN.out]
      go_wp2_with fail
      go_ret
      exact ⟨by simp [h1, h2], l1.out⟩
  · have q0 : decide ((1 : Int) ≤ a) = false := by simpa using h1
    go_enter Try.func18, Try.ntmps18
    go_upto_region 1 with fail
    change Code.wp _ _ _ _ (w.alloc (.cells (RC r).toArray 27 (0, 0)))
    rw [← HW.out, HN.out]
    go_wp2_with fail
    go_ret
    exact ⟨by simp [h1], l1.out⟩
#print axioms isSound_any
/-- What Bytes tells, whether a record is Good. -/
def bytesP (r : Rc) : List UInt8 := if soundP r = true then eD (pdR r) else []
def goodR (r : Rc) : Bool := soundP r && decide ((eD (pdR r)).length ≤ 8192)
set_option maxRecDepth 100000 in
theorem jbytes_any {w : World} {r : Rc} (hr : ROk w r) : Calls Try.prog 13 #[.agg (RC r).toArray] w fun e w' => ∃ v, e = .returned v ∧ Own w' w.heap.size v (bytesP r) ∧ Below w.heap.size w w' := by
  obtain ⟨N, HN⟩ : ∃ N, Hid (w.heap.size = N) := ⟨_, rfl⟩
  obtain ⟨w1, hw1⟩ : ∃ y, y = w.alloc (.cells (RC r).toArray 27 (0, 0)) := ⟨_, rfl⟩
  obtain ⟨b1, l1⟩ := newB HN hw1
  have HW := hide hw1
  have RO := hide (hr.kept l1.out)
  have CS := hide (isSound_any RO.out)
  have rk := b1.out.range0
  obtain ⟨s, HS⟩ : ∃ z, Hid (soundP r = z) := ⟨_, rfl⟩
  rw [HS.out] at CS
  have HB : Hid (bytesP r = if s = true then eD (pdR r) else []) := (show _ = _ by unfold bytesP; rw [HS.out])
  rw [HB.out]
  clear hr hw1
  go_enter Try.func13, Try.ntmps13
  go_upto_region 1 with fail
  change Code.wp _ _ _ _ (w.alloc (.cells (RC r).toArray 27 (0, 0)))
  rw [← HW.out, HN.out]
  go_wp2_with (first
    | (refine wpList_load_mid rfl 27 _ rfl N 0 rfl (RC r) _ rk Try.underlying27 rfl Try.size27 ?_)
    | fail)
  refine CS.out.mono ?_
  rintro e w2 ⟨rfl, hb2⟩
  have L2 : Hid (Below w.heap.size w w2) := (show Below _ _ _ from l1.out.trans (hb2.mono l1.out.size))
  have RO2 := hide (RO.out.kept hb2)
  have rk2 := (b1.out.kept hb2).range0
  clear hb2 CS rk
  cases s with
  | false =>
    clear rk2
    go_wp2_with fail
    go_ret
    exact ⟨_, rfl, World.ownsRow_nil _ _ _ _, L2.out⟩
  | true =>
    obtain ⟨h1, h2, h3⟩ := sound_ok HS.out
    have CP := hide (jput_any RO2.out h1 h2 h3)
    clear h1 h2 h3
    go_wp2_with (first
      | (refine wpList_load_mid rfl 27 _ rfl N 0 rfl (RC r) _ rk2 Try.underlying27 rfl Try.size27 ?_)
      | fail)
    refine CP.out.mono ?_
    rintro e w3 ⟨v, rfl, o3, hb3⟩
    have L3 : Hid (Below w.heap.size w w3) := (show Below _ _ _ from L2.out.trans (hb3.mono L2.out.size))
    have O3 := hide (o3.mono L2.out.size)
    clear hb3 CP o3
    go_wp2_with fail
    go_ret
    exact ⟨_, rfl, O3.out, L3.out⟩
set_option maxRecDepth 100000 in
theorem jgood_any {w : World} {r : Rc} (hr : ROk w r) : Calls Try.prog 12 #[.agg (RC r).toArray] w fun e w' => e = .returned (.bool (goodR r)) ∧ Below w.heap.size w w' := by
  obtain ⟨N, HN⟩ : ∃ N, Hid (w.heap.size = N) := ⟨_, rfl⟩
  obtain ⟨w1, hw1⟩ : ∃ y, y = w.alloc (.cells (RC r).toArray 27 (0, 0)) := ⟨_, rfl⟩
  obtain ⟨b1, l1⟩ := newB HN hw1
  have HW := hide hw1
  have RO := hide (hr.kept l1.out)
  have CS := hide (isSound_any RO.out)
  have rk := b1.out.range0
  obtain ⟨s, HS⟩ : ∃ z, Hid (soundP r = z) := ⟨_, rfl⟩
  rw [HS.out] at CS
  have HB : Hid (goodR r = (s && decide ((eD (pdR r)).length ≤ 8192))) := (show _ = _ by unfold goodR; rw [HS.out])
  rw [HB.out]
  clear hr hw1
  go_enter Try.func12, Try.ntmps12
  go_upto_region 1 with fail
  change Code.wp _ _ _ _ (w.alloc (.cells (RC r).toArray 27 (0, 0)))
  rw [← HW.out, HN.out]
  go_wp2_with (first
    | (refine wpList_load_mid rfl 27 _ rfl N 0 rfl (RC r) _ rk Try.underlying27 rfl Try.size27 ?_)
    | fail)
  refine CS.out.mono ?_
  rintro e w2 ⟨rfl, hb2⟩
  have L2 : Hid (Below w.heap.size w w2) := (show Below _ _ _ from l1.out.trans (hb2.mono l1.out.size))
  have RO2 := hide (RO.out.kept hb2)
  have rk2 := (b1.out.kept hb2).range0
  clear hb2 CS rk
  cases s with
  | false =>
    clear rk2
    go_wp2_with fail
    go_ret
    exact ⟨by simp, L2.out⟩
  | true =>
    obtain ⟨h1, h2, h3⟩ := sound_ok HS.out
    have CP := hide (jput_any RO2.out h1 h2 h3)
    clear h1 h2 h3
    go_wp2_with (first
      | (refine wpList_load_w9 rfl 27 _ rfl N 0 rfl (RC r) _ rk2 Try.underlying27 rfl Try.size27 ?_)
      | fail)
    refine CP.out.mono ?_
    rintro e w3 ⟨v, rfl, o3, hb3⟩
    have L3 : Hid (Below w.heap.size w w3) := (show Below _ _ _ from L2.out.trans (hb3.mono L2.out.size))
    obtain ⟨p9, c9, rfl⟩ := own_form8 o3
    obtain ⟨n9, HN9⟩ : ∃ z, Hid ((eD (pdR r)).length = z) := ⟨_, rfl⟩
    rw [HN9.out]
    have hz9 : decide ((n9 : Int) ≤ 8192) = decide (n9 ≤ 8192) := by
      rw [decide_eq_decide]
      omega
    clear hb3 CP o3
    go_wp2_with fail
    go_ret
    exact ⟨by rw [HN9.out, ← hz9]; simp, L3.out⟩
/-- The document's example. -/
def exR (N : Nat) : Rc := ⟨1, 0, false, [], [(⟨#[97]⟩, ⟨#[49]⟩, false)], none, 0, some ⟨N, 0, none⟩, 1⟩
theorem build_exp : ∀ W : World, (Instr.build 41 #[(0, .string ⟨#[97]⟩), (1, .string ⟨#[49]⟩)]).run Try.prog W = .ok (.agg (PC (⟨#[97]⟩, ⟨#[49]⟩, false)).toArray) W := fun W => by kernel_rfl
theorem build_pairs1 (p : Pr) (w : World) : (Instr.buildSlice 25 1 #[(0, .agg (PC p).toArray)]).run Try.prog w = .ok (.slice (some ⟨w.heap.size, 0, none⟩) 1 1) (w.alloc (.cells (PC p).toArray 41 (0, 0))) := by kernel_rfl
theorem build_exr (N : Nat) : ∀ W : World, (Instr.build 27 #[(0, .int .i64 1), (4, .slice (some ⟨N, 0, none⟩) 1 1)]).run Try.prog W = .ok (.agg (RC (exR N)).toArray) W := fun W => by kernel_rfl
theorem bytes_ex (N : Nat) : bytesP (exR N) = [1, 0, 0, 0, 1, 1, 97, 0, 1, 49] := by
  have e : bytesP (exR N) = bytesP (exR 0) := rfl
  rw [e]
  decide +kernel
set_option maxRecDepth 100000 in
theorem lives_any (w : World) : Calls Try.prog 7 #[] w fun e w' => e = .returned (.bool true) ∧ Below w.heap.size w w' := by
  obtain ⟨N, HN⟩ : ∃ N, Hid (w.heap.size = N) := ⟨_, rfl⟩
  obtain ⟨w1, hw1⟩ : ∃ y, y = w.alloc (.cells (PC (⟨#[97]⟩, ⟨#[49]⟩, false)).toArray 41 (0, 0)) := ⟨_, rfl⟩
  obtain ⟨b1, l1⟩ := newB HN hw1
  have R1 : Hid (ROk w1 (exR N)) := (show ROk _ _ from ⟨RdX.nil w1, (show RdG PE w1 (.slice (some ⟨N, 0, none⟩) 1 1) [(⟨#[97]⟩, ⟨#[49]⟩, false)] by rw [hw1, ← HN.out]; exact rdG_one (E := PE) w 41 _)⟩)
  have CB := hide (jbytes_any R1.out)
  have hb1 := build_exp
  have hb2 := build_exr N
  have HW := hide hw1
  clear hw1
  go_enter Try.func7, Try.ntmps7
  go_wp2_with (first
    | (refine wpList_build1E (E := PE) build_pairs1 rfl _ rfl (⟨#[97]⟩, ⟨#[49]⟩, false) rfl ?_; change wpList _ _ _ _ _ (w.alloc (.cells (PC (⟨#[97]⟩, ⟨#[49]⟩, false)).toArray 41 (0, 0))); rw [← HW.out, HN.out])
    | fail)
  refine CB.out.mono ?_
  rintro e w2 ⟨v, rfl, o2, hb2⟩
  have L2 : Hid (Below w.heap.size w w2) := (show Below _ _ _ from l1.out.trans (hb2.mono l1.out.size))
  rw [bytes_ex] at o2
  have hcv := o2.rd.conv (P := Try.prog) 22 9 Try.underlying22 Try.underlying5 Try.underlying9
  obtain ⟨p9, c9, rfl⟩ := own_form8 o2
  have hcv2 : (convert 22 9 (.slice p9 10 c9)).run Try.prog w2 = .ok (.string ⟨#[1, 0, 0, 0, 1, 1, 97, 0, 1, 49]⟩) w2 := hcv
  clear hb2 CB o2 R1 hcv
  go_wp2_with fail
  go_ret
  exact ⟨by first | rfl | simp, L2.out⟩
#print axioms lives_any
theorem lightP_any {w : World} {r : Rc} (hr : ROk w r) (hb : RB 140737488351232 r) : Calls Try.prog 25 #[.agg (RC r).toArray, .int .i64 500] w fun e w' => LPost r e ∧ Below w.heap.size w w' := light9_any hr hb 500 (by decide)
end Go.Proofs.Ytmicmbjbclkbjaa
