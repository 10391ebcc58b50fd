/-
  indenturelaw06.WalKeeps: the walk: the call returns true and makes new memory alone.
-/
import Derived.Test.YtgdhjgfoalianaaDoorWLog2
namespace Go.Proofs.YtgdhjgfoalianaaDoor
open Go.RowKit
open Pd (DM)

/-- An act of a list. -/
theorem RdL.nth {w w' : World} {a : Option Addr} {n cp : Nat} {L : List ActP} (h : RdL w (.slice a n cp) L) (hn : L.length = n) (hb : Below w.heap.size w w') {i : Nat} (hi : i < n) :
    ∃ b off p ab cb ak ck, a = some ⟨b, off, none⟩ ∧ L[i]? = some p ∧ w'.rangeAt b (off + i * 5) (AC p (.slice ab p.B.length cb) (.slice ak p.keep.length ck)) ∧ IsA w p (.slice ab p.B.length cb) (.slice ak p.keep.length ck) := by
  obtain ⟨a', cp', e', _, _, h3⟩ := h
  simp only [Value.slice.injEq] at e'
  obtain ⟨rfl, -, rfl⟩ := e'
  have hlt' : i < L.length := by rw [hn]; exact hi
  obtain ⟨b, off, rfl, hlb, hx⟩ := h3 (by omega)
  obtain ⟨vb, vk, hr0, hA⟩ := hx i hlt'
  obtain ⟨ab, cb, hvb, -⟩ := hA.b
  obtain ⟨ak, ck, hvk, -⟩ := hA.k
  subst hvb hvk
  exact ⟨b, off, L[i], ab, cb, ak, ck, rfl, List.getElem?_eq_getElem hlt', fun j u hj => (hb.cell (p := ⟨b, off + i * 5 + j, none⟩) hlb).trans (hr0 j u hj), hA⟩

set_option maxHeartbeats 4000000 in
set_option maxRecDepth 100000 in
theorem walKeeps_any {v u1 u2 : Value} (LL : List ActP) (p1 p2 : ActP) (w : World) (hT : Tab w) (h : RdL w v LL) (h1 : ∃ vb vk, u1 = .agg (AC p1 vb vk).toArray ∧ IsA w p1 vb vk) (h2 : ∃ vb vk, u2 = .agg (AC p2 vb vk).toArray ∧ IsA w p2 vb vk) :
    Calls Tryd.prog 5 #[v, u1, u2] w fun e w' => e = .returned (.bool true) ∧ Below w.heap.size w w' := by
  have HL := hide h
  have HT := hide hT
  obtain ⟨a, cp, hv, hl1, hl2, -⟩ := h
  obtain ⟨vb1, vk1, hu1, hA1⟩ := h1
  obtain ⟨vb2, vk2, hu2, hA2⟩ := h2
  obtain ⟨ab1, cb1, hvb1, -⟩ := hA1.b
  obtain ⟨ak1, ck1, hvk1, -⟩ := hA1.k
  obtain ⟨ab2, cb2, hvb2, -⟩ := hA2.b
  obtain ⟨ak2, ck2, hvk2, -⟩ := hA2.k
  subst hv hu1 hu2 hvb1 hvk1 hvb2 hvk2
  have HA1 := hide hA1
  have HA2 := hide hA2
  have hz := Zact
  have hn : LL.length ≤ 9223372036854775807 := by unfold maxLen at hl2; omega
  clear hA1 hA2 hT
  go_enter Tryd.func5, Tryd.ntmps5
  go_wp2_with fail
  obtain ⟨w0, hw0⟩ : ∃ x, x = (w.alloc (.cells (AC p1 (.slice ab1 p1.B.length cb1) (.slice ak1 p1.keep.length ck1)).toArray 36)).alloc (.cells (AC p2 (.slice ab2 p2.B.length cb2) (.slice ak2 p2.keep.length ck2)).toArray 36) := ⟨_, rfl⟩
  rw [← hw0]
  have B0 : Hid (Below w.heap.size w w0) := (show Below _ _ _ by rw [hw0]; exact ((Below.refl _ _).alloc (Nat.le_refl _) _).alloc (by simp) _)
  have E1 : Hid (Blk w0 w.heap.size 36 (AC p1 (.slice ab1 p1.B.length cb1) (.slice ak1 p1.keep.length ck1))) := (show Blk _ _ _ _ by rw [hw0]; exact (Blk.new w 36 _).alloc _)
  have E2 : Hid (Blk w0 (w.heap.size + 1) 36 (AC p2 (.slice ab2 p2.B.length cb2) (.slice ak2 p2.keep.length ck2))) := (show Blk _ _ _ _ by
    rw [hw0]
    have := Blk.new (w.alloc (.cells (AC p1 (.slice ab1 p1.B.length cb1) (.slice ak1 p1.keep.length ck1)).toArray 36)) 36 (AC p2 (.slice ab2 p2.B.length cb2) (.slice ak2 p2.keep.length ck2))
    rwa [World.size_alloc] at this)
  clear hw0
  obtain ⟨Q1, HQ1⟩ : ∃ Q, Hid (w.heap.size = Q) := ⟨_, rfl⟩
  obtain ⟨Q2, HQ2⟩ : ∃ Q, Hid (w.heap.size + 1 = Q) := ⟨_, rfl⟩
  rw [HQ1.out] at E1
  rw [HQ2.out] at E2
  rw [HQ2.out, HQ1.out]
  have T0 : Hid (Tab w0) := HT.out.kept B0.out
  have HL0 := hide (HL.out.kept B0.out)
  have A01 := hide (HA1.out.kept B0.out)
  have A02 := hide (HA2.out.kept B0.out)
  have FIN : Hid (∀ w3, Below w0.heap.size w0 w3 → Calls Tryd.prog 10 #[] w3 fun e w' => e = .returned (.bool true) ∧ Below w.heap.size w w') := (show _ from fun w3 h3 => (lives_any w3 (T0.out.kept h3)).mono fun e w4 ⟨q1, q2⟩ => ⟨q1, B0.out.trans ((h3.trans (q2.mono h3.size)).mono B0.out.size)⟩)
  clear HL HA1 HA2
  go_wp2_with fail
  refine (OneC.new w0 60 (by decide) (by decide)).mono ?_
  rintro e w1 ⟨D, rfl, c1, o1⟩
  have HO := hide (log2_new T0.out o1)
  clear o1
  go_wp2_with fail
  refine HO.out.mono ?_
  rintro e w2 ⟨L, v2, c2, rfl, l2⟩
  have L2 := hide l2
  have HLI := hide (light_any (HL0.out.kept l2.below))
  clear l2 HO
  go_wp2_with fail
  refine HLI.out.mono ?_
  rintro e w3 ⟨x, rfl, hx, hb3⟩
  have L3 := hide (L2.out.kept hb3)
  clear L2 hb3 HLI
  cases x with
  | false =>
    clear hx
    go_wp2_with fail
    refine (FIN.out w3 L3.out.below).mono ?_
    rintro e w4 ⟨rfl, hb4⟩
    have HB := hide hb4
    clear hb4
    go_wp2_with fail
    go_ret
    exact ⟨rfl, HB.out⟩
  | true =>
    have HX := hide (hx rfl)
    clear hx
    have R1 := E1.out.kept L3.out.below
    have R2 := E2.out.kept L3.out.below
    have c10 := R1.cell (j := 0) rfl
    have c11 := R1.cell (j := 1) rfl
    have c12 := R1.cell (j := 2) rfl
    have c13 := R1.cell (j := 3) rfl
    have c14 := R1.cell (j := 4) rfl
    have c20 := R2.cell (j := 0) rfl
    have c21 := R2.cell (j := 1) rfl
    have c22 := R2.cell (j := 2) rfl
    have c23 := R2.cell (j := 3) rfl
    have c24 := R2.cell (j := 4) rfl
    have HLI := hide (light_any (rdL_two (A01.out.kept L3.out.below) (A02.out.kept L3.out.below)))
    clear R1 R2
    go_wp2_with fail
    refine HLI.out.mono ?_
    rintro e w4 ⟨x, rfl, hx, hb4⟩
    have hb4' : Below w3.heap.size w3 w4 := ((Below.refl _ _).alloc (Nat.le_refl _) _).trans (hb4.mono (by simp))
    have L4 := hide (L3.out.kept hb4')
    clear L3 hb4 hb4' HLI c10 c11 c12 c13 c14 c20 c21 c22 c23 c24
    cases x with
    | false =>
      clear hx
      go_wp2_with fail
      refine (FIN.out w4 L4.out.below).mono ?_
      rintro e w5 ⟨rfl, hb5⟩
      have HB := hide hb5
      clear hb5
      go_wp2_with fail
      go_ret
      exact ⟨rfl, HB.out⟩
    | true =>
      have HY := hide (hx rfl)
      clear hx
      obtain ⟨n, HN⟩ : ∃ n, Hid (LL.length = n) := ⟨_, rfl⟩
      have hn50 : n ≤ 50 := by rw [← HN.out]; exact HX.out.1
      rw [HN.out] at HL0
      clear hn hl1
      rw [HN.out]
      go_wp2_with fail
      go_loopg [11, 59] n (fun g y x wr => ∃ i Y : Nat, ∃ ts c, g + i = n ∧ x = .int .i64 (i : Int) ∧ ts.length ≤ i ∧ Hid (Log2 w0 wr D 60 L ts Y c) ∧ Hid (MineT wr c y ts))
      case atStart => exact ⟨0, 0, [], c2, by omega, rfl, Nat.le_refl _, L4, mineT_nil _ _⟩
      case round =>
        clear L4
        obtain ⟨i, Y, ts, c, hgi, rfl, hti, LR, MR⟩ := hrel
        by_cases hlt : i < n
        · have q1 : (i : Int) < (n : Int) := by omega
          obtain ⟨b, off, p, ab, cb, ak, ck, haa, HLp, hr, hA⟩ := HL0.out.nth HN.out LR.out.below hlt
          have C1 := hide (AC_one hA)
          have HAp := hide hA
          subst haa
          obtain ⟨CA, HCA⟩ : ∃ CA, Hid (AC p (.slice ab p.B.length cb) (.slice ak p.keep.length ck) = CA) := ⟨_, rfl⟩
          rw [HCA.out] at hr C1
          have hcl : CA.length = 5 := by rw [← HCA.out]; rfl
          clear hA HLp
          go_upto_region 9 with (first
            | (refine wpList_load_mid rfl 36 _ rfl b (off + i * 5) rfl CA _ hr Tryd.underlying36 rfl (by rw [hcl]; exact Tryd.size36) ?_)
            | (refine wpList_store_new rfl 36 _ _ rfl wr _ _ _ rfl rfl rfl (by simpa [hcl] using Tryd.size36) (by simp [hcl]) (all_one C1.out) ?_)
            | fail)
          obtain ⟨E, HE⟩ : ∃ E, Hid (wr.heap.size = E) := ⟨_, rfl⟩
          rw [HE.out]
          obtain ⟨w5, hw5⟩ : ∃ x, x = wr.alloc (.cells CA.toArray 36 (0, 0)) := ⟨_, rfl⟩
          rw [← hw5]
          have hb5 : Below wr.heap.size wr w5 := by rw [hw5]; exact (Below.refl _ _).alloc (Nat.le_refl _) _
          have BE : Hid (Blk w5 E 36 (AC p (.slice ab p.B.length cb) (.slice ak p.keep.length ck))) := (show Blk _ _ _ _ by rw [hw5, ← HE.out, HCA.out]; exact Blk.new wr 36 CA)
          have CE : Hid (c E = 0) := (show c E = 0 from LR.out.norm E (by rw [HE.out]; exact Nat.le_refl _))
          have L5 := hide (LR.out.kept hb5)
          have M5 := hide (MR.out.kept hb5)
          have c0 := BE.out.cell (j := 0) rfl
          have c3 := BE.out.cell (j := 3) rfl
          clear hw5 hb5 LR MR hr C1 HCA hcl
          have RB : Hid (Rd w0 (.slice ab p.B.length cb) p.B) := HAp.out.b
          have hkw := bounds_i64 HAp.out.wk
          obtain ⟨va, vc, hvv⟩ := M5.out.form
          subst hvv
          by_cases hbl : 20 < p.B.length
          · have q2 : (20 : Int) < (p.B.length : Int) := by omega
            go_wp2_with fail
            go_roundg (gk - 1)
            case measure => omega
            case rel => exact ⟨i + 1, Y, ts, c, by omega, by go_num, by omega, L5, M5⟩
          · have q2 : ¬ (20 : Int) < (p.B.length : Int) := by omega
            obtain ⟨kd, HKD⟩ : ∃ kd, Hid (p.kind = kd) := ⟨_, rfl⟩
            replace hkw : -9223372036854775808 ≤ kd ∧ kd ≤ 9223372036854775807 := by rw [← HKD.out]; exact hkw
            rw [HKD.out] at c0
            by_cases hk2 : 1 < kd
            · go_wp2_with fail
              go_roundg (gk - 1)
              case measure => omega
              case rel => exact ⟨i + 1, Y, ts, c, by omega, by go_num, by omega, L5, M5⟩
            · by_cases hk0 : kd = 0
              · subst hk0
                have HAP := hide (L5.out.append T0.out _ p.B (RB.out.kept L5.out.below) (by omega) (by omega))
                clear hk2 hkw
                go_wp2_with fail
                refine HAP.out.mono ?_
                rintro e w6 ⟨rfl, c6, l6, s6⟩
                have L6 := hide l6
                have M6 := hide (M5.out.stepL L5.out.logB s6)
                have B6 : Hid (Blk w6 E 36 (AC p (.slice ab p.B.length cb) (.slice ak p.keep.length ck))) := BE.out.chg s6.chg (fun e => by
                  rcases e with e | e
                  · have := CE.out; omega
                  · have := L5.out.nine; rw [← e] at this; have := CE.out; omega)
                have d0 : w6.cell? ⟨E, 0, none⟩ = some (.int .i64 0) := by have := B6.out.cell (j := 0) rfl; rwa [HKD.out] at this
                have d3 := B6.out.cell (j := 3) rfl
                have kc := (RB.out.kept L6.out.below).conv (P := Tryd.prog) 33 9 Tryd.underlying33 Tryd.underlying5 Tryd.underlying9
                have HOW := hide M6.out.own
                clear l6 s6 L5 M5 BE c0 c3 HAP
                obtain ⟨i0, hi0, hz0, hz1, hz2⟩ := info_parts Tryd.info9
                go_wp2_with (first
                  | (at_builtin; refine wpList_append_own_at _ rfl _ _ 56 rfl 0 9 i0 (.string ByteArray.empty) 1 16 Tryd.underlying56 hi0 hz0 hz1 hz2 rfl (by decide) (.slice va ts.length vc) ts.length (Tx ts) rfl (HOW.out.alloc _) ⟨w6.heap.size, 0, none⟩ 1 1 [.string ⟨p.B.toArray⟩] rfl rfl (cell_one_new _ _ _) (by simp [Value.oneCell']) (by simp only [maxLen]; omega) (by omega) (by simp) ?_; intro v5 wa ho5 hg5 hn5 hl5; clear hn5; have HO5 := hide ho5; have HG5 := hide hg5; have HL5 := hide hl5; clear ho5 hg5 hl5; obtain ⟨g5, cap5, hv5⟩ := ownsRow_succ HO5.out; subst hv5; have HCH : Hid (Chg (fun b => (Value.slice va ts.length vc).ownBlock = some b) w6 wa) := (Chg.alloc (fun b => (Value.slice va ts.length vc).ownBlock = some b) w6 _).trans (Chg.of_grown HG5.out (fun k e _ => e)); have B7 := hide (B6.out.chg HCH.out (fun e => by obtain ⟨cur, hcur⟩ := M6.out.block e; have := hcur.symm.trans B6.out; simp at this)); have f0 : wa.cell? ⟨E, 0, none⟩ = some (.int .i64 0) := (by have := B7.out.cell (j := 0) rfl; rwa [HKD.out] at this)))
                have L7 := hide (L6.out.grow HCH.out (fun b hb _ => M6.out.col b hb) (fun e => M6.out.apart L6.out.logB e rfl))
                have M7 := hide (M6.out.grown (t := p.B) HO5.out (HL5.out.imp id (fun e => ⟨_, e, by simp⟩)))
                clear HO5 HG5 HL5 HOW L6 M6 B6 d0 d3 kc
                go_roundg (gk - 1)
                case measure => omega
                case rel => exact ⟨i + 1, Y, ts ++ [p.B], _, by omega, by go_num, by simp; omega, L7, M7⟩
              · by_cases hk1 : kd = 1
                · subst hk1
                  have HSY := hide L5.out.sync
                  clear hk2 hkw hk0
                  go_wp2_with fail
                  refine HSY.out.mono ?_
                  rintro e w6 ⟨rfl, c6, l6, s6⟩
                  have L6 := hide l6
                  have M6 := hide (M5.out.stepL L5.out.logB s6)
                  clear l6 s6 L5 M5 BE c0 c3 HSY
                  go_wp2_with fail
                  go_roundg (gk - 1)
                  case measure => omega
                  case rel => exact ⟨i + 1, ts.length, ts, c6, by omega, by go_num, by omega, L6, M6⟩
                · go_wp2_with fail
                  go_roundg (gk - 1)
                  case measure => omega
                  case rel => exact ⟨i + 1, Y, ts, c, by omega, by go_num, by omega, L5, M5⟩
        · obtain rfl : i = n := by omega
          have q1 : ¬ (i : Int) < (i : Int) := by omega
          obtain ⟨va, vc, hvv⟩ := MR.out.form
          subst hvv
          have R1 := E1.out.kept LR.out.below
          have c14 := R1.cell (j := 4) rfl
          have K1 : Hid (RdN w0 (.slice ak1 p1.keep.length ck1) p1.keep) := A01.out.k
          have K2 : Hid (RdN w0 (.slice ak2 p2.keep.length ck2) p2.keep) := A02.out.k
          have hk2l : p2.keep.length ≤ 100 := (HY.out.2 p2 (by simp)).2.2
          clear R1
          go_wp2_with fail
          refine LR.out.synced.mono ?_
          rintro e w5 ⟨rfl, hw⟩; subst w5
          go_wp2_with fail
          refine (LR.out.crash _ p1.keep K1.out A01.out.ws).mono ?_
          rintro e w5 ⟨rfl, k, c5, hYk, h5, s5⟩
          have H5 := hide h5
          have M5 := hide (MR.out.step s5)
          clear h5 s5 LR MR c14
          go_wp2_with fail
          refine H5.out.start.mono ?_
          rintro e w6 ⟨rfl, c6, h6, s6⟩
          have H6 := hide h6
          have M6 := hide (M5.out.step s6)
          have R2 := E2.out.kept h6.below
          have c21 := R2.cell (j := 1) rfl
          have c24 := R2.cell (j := 4) rfl
          clear h6 s6 H5 M5 R2
          go_wp2_with fail
          refine (H6.out.arm p2.a A02.out.wa _ p2.keep K2.out A02.out.ws (by omega)).mono ?_
          rintro e w7 ⟨rfl, c7, h7, s7⟩
          have H7 := hide h7
          have M7 := hide (M6.out.step s7)
          clear h7 s7 H6 M6 c21 c24
          go_wp2_with fail
          refine (H7.out.openAny T0.out).mono ?_
          rintro e w8 ⟨⟨r8, rfl⟩, c8, h8, s8⟩
          have H8 := hide h8
          have M8 := hide (M7.out.step s8)
          have R2 := E2.out.kept h8.below
          have c24 := R2.cell (j := 4) rfl
          clear h8 s8 H7 M7 R2
          obtain ⟨x, hon, hoff, hcr⟩ := H8.out.on
          have HON := hide hon
          have HOFF := hide hoff
          have HCR := hide hcr
          clear hon hoff hcr
          go_wp2_with fail
          refine HON.out.mono ?_
          rintro e w9 ⟨rfl, hw⟩; subst w9
          have HKT := hide (show HeldP Dim w0 w8 D 60 ts k c8 from H8.out)
          cases x with
          | false =>
            have H9 := hide (HOFF.out rfl)
            have M9 := M8
            clear HON HOFF HCR H8 M8
            go_wp2_with fail
            refine H9.out.start.mono ?_
            rintro e w10 ⟨rfl, c10, h10, s10⟩
            have H10 := hide h10
            have M10 := hide (M9.out.step s10)
            clear h10 s10 H9 M9
            go_wp2_with fail
            refine (H10.out.final T0.out).mono ?_
            rintro e w11 ⟨L11, v11, c11, rfl, l11, r11, s11⟩
            have G11 := hide l11
            have M11 := hide (M10.out.step s11)
            have X11 := hide r11
            clear l11 s11 r11 H10 M10
            go_wp2_with fail
            refine (G11.out.again T0.out).mono ?_
            rintro e w12 ⟨L12, v12, c12, rfl, l12, r12, s12⟩
            have BL := hide l12.below
            have M12 := hide (M11.out.step s12).rd
            have X12 := hide (X11.out.step s12 (by decide)).rd
            have hte : (ts.take k).length ≤ 50 := by simp; omega
            have hsm := qsame_any v11 v12 _ _ w12 X12.out r12.rd (by omega) (by omega)
            rw [decide_eq_true rfl] at hsm
            have HSM := hide hsm
            have hkt : k ≤ ts.length := by obtain ⟨m, _, _, _, _, h, _⟩ := HKT.out; exact h
            have htl : (ts.take k).length = k := by simp; omega
            obtain ⟨xa, xc, hv11, -⟩ := X11.out
            rw [htl] at hv11
            subst hv11
            have q2 : decide (k < Y) = false := decide_eq_false (by omega)
            have q3 : decide (ts.length < k) = false := decide_eq_false (by omega)
            clear l12 s12 r12 hsm G11 M11
            go_wp2_with fail
            refine HSM.out.mono ?_
            rintro e w13 ⟨rfl, b13⟩
            have BL13 : Hid (Below w0.heap.size w0 w13) := BL.out.trans (b13.mono BL.out.size)
            have M13 := hide (M12.out.kept b13)
            have X13 := hide (X12.out.kept b13)
            have HTL := hide htl
            clear b13 HSM htl M12 X12 X11
            go_wp2_with fail
            go_loopg [164] (k + 1) (fun g x wr => ∃ j : Nat, x = .int .i64 (j : Int) ∧ g + j = k + 1 ∧ j ≤ k ∧ Hid (Below w13.heap.size w13 wr))
            case atStart => exact ⟨0, rfl, rfl, Nat.zero_le _, Below.refl _ _⟩
            case round =>
              obtain ⟨j, rfl, hgj, hj, BJ⟩ := hrel
              by_cases hjl : j < k
              · have q4 : (j : Int) < (k : Int) := by omega
                have q5 : (j : Int) < (ts.length : Int) := by omega
                have hd : Below w13.heap.size w13 wr.drew := BJ.out.trans ⟨rfl, rfl, rfl, Nat.le_refl _, fun _ _ => rfl⟩
                have hjt : j < ts.length := by omega
                obtain ⟨b, off, haa, hc⟩ : ∃ b off, va = some ⟨b, off, none⟩ ∧ wr.drew.cell? ⟨b, off + j, none⟩ = some (.string ⟨ts[j].toArray⟩) := by
                  obtain ⟨a', cap', e', h4⟩ := M13.out.kept hd
                  obtain ⟨b, off, e, _, hc⟩ := h4 (by omega)
                  simp only [Value.slice.injEq] at e'
                  exact ⟨b, off, e'.1.trans e, hc j hjt⟩
                obtain ⟨b2, off2, haa2, hc2⟩ : ∃ b off, xa = some ⟨b, off, none⟩ ∧ ∃ u, wr.cell? ⟨b, off + j, none⟩ = some u ∧ Rd wr.drew u ts[j] := by
                  obtain ⟨a', cap', e', h4⟩ := X13.out.kept BJ.out
                  obtain ⟨b, off, e, _, hc⟩ := h4 (by rw [HTL.out]; omega)
                  simp only [Value.slice.injEq] at e'
                  obtain ⟨u, hu1, hu2⟩ := hc j (by rw [HTL.out]; exact hjl)
                  rw [List.getElem_take] at hu2
                  exact ⟨b, off, e'.1.trans e, u, hu1, hu2.kept ⟨rfl, rfl, rfl, Nat.le_refl _, fun _ _ => rfl⟩⟩
                obtain ⟨u, hcu, hru⟩ := hc2
                have kx := hru.conv (P := Tryd.prog) 33 9 Tryd.underlying33 Tryd.underlying5 Tryd.underlying9
                obtain ⟨ya, yc, hxe⟩ := hru.slice
                subst hxe
                have HD : Hid (Below w13.heap.size w13 wr.drew) := hd
                clear hd hru
                subst haa2
                generalize (⟨ts[j].toArray⟩ : ByteArray) = sb at hc kx
                subst haa
                go_upto_region 30 with fail
                refine wp_region_still_tail 6 Tryd.mixed (by kernel_rfl) ?_
                simp only [List.take_succ_cons, List.take_zero, List.drop_succ_cons, List.drop_zero]
                iterate 6 still_step
                refine wpStill_nil ?_
                clear hc hcu kx
                go_wp2_with fail
                go_roundg (gk - 1)
                case measure => omega
                case rel => exact ⟨j + 1, by go_num, by omega, by omega, HD⟩
              · obtain rfl : j = k := by omega
                have q4 : ¬ (j : Int) < (j : Int) := by omega
                have hlw : Below w0.heap.size w0 wr := BL13.out.trans (BJ.out.mono BL13.out.size)
                have HLW := hide hlw
                clear hlw
                go_wp2_with fail
                refine (FIN.out wr HLW.out).mono ?_
                rintro e w14 ⟨rfl, b14⟩
                have HB := hide b14
                clear b14
                go_wp2_with fail
                go_ret
                exact ⟨rfl, HB.out⟩
          | true =>
            have HC9 := hide (HCR.out rfl (.slice ak2 p2.keep.length ck2) p2.keep K2.out A02.out.ws)
            go_wp2_with fail
            refine HC9.out.mono ?_
            rintro e w9 ⟨rfl, c9, h9, s9⟩
            have H9 := hide h9
            have M9 := hide (M8.out.step s9)
            clear h9 s9 c24 HC9
            clear HON HOFF HCR H8 M8
            go_wp2_with fail
            refine H9.out.start.mono ?_
            rintro e w10 ⟨rfl, c10, h10, s10⟩
            have H10 := hide h10
            have M10 := hide (M9.out.step s10)
            clear h10 s10 H9 M9
            go_wp2_with fail
            refine (H10.out.final T0.out).mono ?_
            rintro e w11 ⟨L11, v11, c11, rfl, l11, r11, s11⟩
            have G11 := hide l11
            have M11 := hide (M10.out.step s11)
            have X11 := hide r11
            clear l11 s11 r11 H10 M10
            go_wp2_with fail
            refine (G11.out.again T0.out).mono ?_
            rintro e w12 ⟨L12, v12, c12, rfl, l12, r12, s12⟩
            have BL := hide l12.below
            have M12 := hide (M11.out.step s12).rd
            have X12 := hide (X11.out.step s12 (by decide)).rd
            have hte : (ts.take k).length ≤ 50 := by simp; omega
            have hsm := qsame_any v11 v12 _ _ w12 X12.out r12.rd (by omega) (by omega)
            rw [decide_eq_true rfl] at hsm
            have HSM := hide hsm
            have hkt : k ≤ ts.length := by obtain ⟨m, _, _, _, _, h, _⟩ := HKT.out; exact h
            have htl : (ts.take k).length = k := by simp; omega
            obtain ⟨xa, xc, hv11, -⟩ := X11.out
            rw [htl] at hv11
            subst hv11
            have q2 : decide (k < Y) = false := decide_eq_false (by omega)
            have q3 : decide (ts.length < k) = false := decide_eq_false (by omega)
            clear l12 s12 r12 hsm G11 M11
            go_wp2_with fail
            refine HSM.out.mono ?_
            rintro e w13 ⟨rfl, b13⟩
            have BL13 : Hid (Below w0.heap.size w0 w13) := BL.out.trans (b13.mono BL.out.size)
            have M13 := hide (M12.out.kept b13)
            have X13 := hide (X12.out.kept b13)
            have HTL := hide htl
            clear b13 HSM htl M12 X12 X11
            go_wp2_with fail
            go_loopg [164] (k + 1) (fun g x wr => ∃ j : Nat, x = .int .i64 (j : Int) ∧ g + j = k + 1 ∧ j ≤ k ∧ Hid (Below w13.heap.size w13 wr))
            case atStart => exact ⟨0, rfl, rfl, Nat.zero_le _, Below.refl _ _⟩
            case round =>
              obtain ⟨j, rfl, hgj, hj, BJ⟩ := hrel
              by_cases hjl : j < k
              · have q4 : (j : Int) < (k : Int) := by omega
                have q5 : (j : Int) < (ts.length : Int) := by omega
                have hd : Below w13.heap.size w13 wr.drew := BJ.out.trans ⟨rfl, rfl, rfl, Nat.le_refl _, fun _ _ => rfl⟩
                have hjt : j < ts.length := by omega
                obtain ⟨b, off, haa, hc⟩ : ∃ b off, va = some ⟨b, off, none⟩ ∧ wr.drew.cell? ⟨b, off + j, none⟩ = some (.string ⟨ts[j].toArray⟩) := by
                  obtain ⟨a', cap', e', h4⟩ := M13.out.kept hd
                  obtain ⟨b, off, e, _, hc⟩ := h4 (by omega)
                  simp only [Value.slice.injEq] at e'
                  exact ⟨b, off, e'.1.trans e, hc j hjt⟩
                obtain ⟨b2, off2, haa2, hc2⟩ : ∃ b off, xa = some ⟨b, off, none⟩ ∧ ∃ u, wr.cell? ⟨b, off + j, none⟩ = some u ∧ Rd wr.drew u ts[j] := by
                  obtain ⟨a', cap', e', h4⟩ := X13.out.kept BJ.out
                  obtain ⟨b, off, e, _, hc⟩ := h4 (by rw [HTL.out]; omega)
                  simp only [Value.slice.injEq] at e'
                  obtain ⟨u, hu1, hu2⟩ := hc j (by rw [HTL.out]; exact hjl)
                  rw [List.getElem_take] at hu2
                  exact ⟨b, off, e'.1.trans e, u, hu1, hu2.kept ⟨rfl, rfl, rfl, Nat.le_refl _, fun _ _ => rfl⟩⟩
                obtain ⟨u, hcu, hru⟩ := hc2
                have kx := hru.conv (P := Tryd.prog) 33 9 Tryd.underlying33 Tryd.underlying5 Tryd.underlying9
                obtain ⟨ya, yc, hxe⟩ := hru.slice
                subst hxe
                have HD : Hid (Below w13.heap.size w13 wr.drew) := hd
                clear hd hru
                subst haa2
                generalize (⟨ts[j].toArray⟩ : ByteArray) = sb at hc kx
                subst haa
                go_upto_region 30 with fail
                refine wp_region_still_tail 6 Tryd.mixed (by kernel_rfl) ?_
                simp only [List.take_succ_cons, List.take_zero, List.drop_succ_cons, List.drop_zero]
                iterate 6 still_step
                refine wpStill_nil ?_
                clear hc hcu kx
                go_wp2_with fail
                go_roundg (gk - 1)
                case measure => omega
                case rel => exact ⟨j + 1, by go_num, by omega, by omega, HD⟩
              · obtain rfl : j = k := by omega
                have q4 : ¬ (j : Int) < (j : Int) := by omega
                have hlw : Below w0.heap.size w0 wr := BL13.out.trans (BJ.out.mono BL13.out.size)
                have HLW := hide hlw
                clear hlw
                go_wp2_with fail
                refine (FIN.out wr HLW.out).mono ?_
                rintro e w14 ⟨rfl, b14⟩
                have HB := hide b14
                clear b14
                go_wp2_with fail
                go_ret
                exact ⟨rfl, HB.out⟩
#print axioms walKeeps_any
end Go.Proofs.YtgdhjgfoalianaaDoor
