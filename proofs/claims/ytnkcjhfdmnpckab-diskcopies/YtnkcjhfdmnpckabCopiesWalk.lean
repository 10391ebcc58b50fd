/-
  indenturelaw05.DiskCopies: the walk: the call returns true and makes new memory alone.
-/
import Derived.Test.YtnkcjhfdmnpckabDSea
import Derived.Test.YtnkcjhfdmnpckabOneAct
import Derived.Test.YtnkcjhfdmnpckabDInts
namespace Go.Proofs.Ytnkcjhfdmnpckab
open Go.RowKit
open Pd (DM)
theorem Sea.one {w0 w : World} {c : Nat → Nat} (S : Sea w0 w c) {i D n : Nat} {m : DM} (h : IsD w c i D n m) (hi : i ≠ 0) {p : ActP} {ab ak : Option Addr} {cb ck : Nat} (hA : IsA w0 p (.slice ab p.B.length cb) (.slice ak p.keep.length ck)) (hk : p.keep.length ≤ 100) :
    Calls Try.prog 8 #[.pointer (some ⟨D, 0, none⟩), .agg (AC p (.slice ab p.B.length cb) (.slice ak p.keep.length ck)).toArray] w fun e w' => e = .returned (.tuple #[]) ∧ ∃ c', IsD w' c' i D n (oneP m p) ∧ Step c i w c' w' ∧ Sea w0 w' c' := by
  refine (one_any h S.norm (hA.kept S.below) (S.cool hA.b) (S.coolN hA.k) (by omega)).mono ?_
  rintro e w' ⟨rfl, c', h1, h2⟩
  exact ⟨rfl, c', h1, h2, S.step h2 hi⟩
set_option maxHeartbeats 4000000 in
set_option maxRecDepth 100000 in
theorem diskCopies_any {w : World} {v u : Value} {L K : List ActP} (h : RdL w v L) (h' : RdL w u K) : Calls Try.prog 3 #[v, u] w fun e w' => e = .returned (.bool true) ∧ Below w.heap.size w w' := by
  have HL : Hid (RdL w v L) := h
  have HK : Hid (RdL w u K) := h'
  obtain ⟨a, cp, hv, h1, h2, -⟩ := h
  obtain ⟨a', cp', hu, h1', h2', -⟩ := h'
  subst hv hu
  obtain ⟨n, HN⟩ : ∃ n, Hid (L.length = n) := ⟨_, rfl⟩
  obtain ⟨k, HM⟩ : ∃ n, Hid (K.length = n) := ⟨_, rfl⟩
  rw [HN.out] at h1 HL ⊢
  rw [HM.out] at h1' HK ⊢
  have hz := Zact
  have hn : n ≤ 9223372036854775807 := by unfold maxLen at h2; omega
  have hn' : k ≤ 9223372036854775807 := by unfold maxLen at h2'; omega
  go_enter Try.func3, Try.ntmps3
  go_wp2_with fail
  refine (dNew_any w (fun _ => 0) 1 (by decide) 10 (by decide) (by decide)).mono ?_
  rintro e w1 ⟨D, rfl, c1, hD, hs, hb, -⟩
  have I1 : Hid (IsD w1 c1 1 D 10 (Pd.new 10)) := hD
  have S1 : Hid (Sea w w1 c1) := ⟨hs.norm, fun k hk => hs.ext k hk, hb⟩
  clear hD hs hb
  go_wp2_with fail
  refine (light_any (HL.out.kept S1.out.below)).mono ?_
  rintro e w2 ⟨x, rfl, hx, hb2⟩
  have I2 : Hid (IsD w2 c1 1 D 10 (Pd.new 10)) := I1.out.kept hb2 (fun _ _ => rfl)
  have S2 : Hid (Sea w w2 c1) := S1.out.kept hb2
  clear I1 S1 hb2
  have FIN : Hid (∀ w3, Sea w w3 c1 → Calls Try.prog 7 #[] w3 fun e w' => e = .returned (.bool true) ∧ Below w.heap.size w w') := (show _ from fun w3 s3 => (lives_any w3).mono fun e w4 ⟨h1, h2⟩ => ⟨h1, s3.below.trans (h2.mono s3.below.size)⟩)
  cases x with
  | false =>
    go_wp2_with fail
    refine (FIN.out w2 S2.out).mono ?_
    rintro e w3 ⟨rfl, hb3⟩
    have B3 : Hid (Below w.heap.size w w3) := hb3
    clear hb3
    go_wp2
    go_ret
    exact ⟨rfl, B3.out⟩
  | true =>
    have HX : Hid (Light L) := hx rfl
    clear hx
    go_wp2_with fail
    refine (light_any (HK.out.kept S2.out.below)).mono ?_
    rintro e w3 ⟨x, rfl, hx, hb3⟩
    have I3 : Hid (IsD w3 c1 1 D 10 (Pd.new 10)) := I2.out.kept hb3 (fun _ _ => rfl)
    have S3 : Hid (Sea w w3 c1) := S2.out.kept hb3
    clear I2 S2 hb3
    cases x with
    | false =>
      go_wp2_with fail
      refine (FIN.out w3 S3.out).mono ?_
      rintro e w4 ⟨rfl, hb4⟩
      have B3 : Hid (Below w.heap.size w w4) := hb4
      clear hb4
      go_wp2
      go_ret
      exact ⟨rfl, B3.out⟩
    | true =>
      have HY : Hid (Light K) := hx rfl
      clear hx FIN
      go_wp2_with fail
      go_loopg [40] n (fun g x wr => ∃ i : Nat, ∃ m c, g + i = n ∧ x = .int .i64 (i : Int) ∧ Hid (IsD wr c 1 D 10 m) ∧ Hid (Sea w wr c))
      case atStart => exact ⟨0, _, c1, by omega, rfl, I3, S3⟩
      case round =>
        clear I3 S3
        obtain ⟨i, m, c, hgi, rfl, IR, SR⟩ := hrel
        by_cases hlt : i < n
        · have q2 : (i : Int) < (n : Int) := by omega
          obtain ⟨b, off, p, ab, cb, ak, ck, rfl, hp, hr, hA⟩ := HL.out.nth HN.out SR.out.below hlt
          have HF : Hid (p.B.length ≤ 400 ∧ p.keep.length ≤ 100) := HX.out.nth hp
          have C1 : Hid (∀ u ∈ AC p (.slice ab p.B.length cb) (.slice ak p.keep.length ck), u.oneCell' = true) := AC_one hA
          have HA : Hid (IsA w p (.slice ab p.B.length cb) (.slice ak p.keep.length ck)) := hA
          obtain ⟨CA, HCA⟩ : ∃ CA, Hid (AC p (.slice ab p.B.length cb) (.slice ak p.keep.length ck) = CA) := ⟨_, rfl⟩
          rw [HCA.out] at hr C1
          have hcl : CA.length = 5 := by rw [← HCA.out]; rfl
          clear hA hp
          go_upto_region 7 with (first
            | (refine wpList_load_mid rfl 30 _ rfl b (off + i * 5) rfl CA _ hr Try.underlying30 rfl (by rw [hcl]; exact Try.size30) ?_)
            | (refine wpList_store_new rfl 30 _ _ rfl wr _ _ _ rfl rfl rfl (by simpa [hcl] using Try.size30) (by simp [hcl]) (all_one C1.out) ?_)
            | fail)
          obtain ⟨E, HE⟩ : ∃ E, Hid (wr.heap.size = E) := ⟨_, rfl⟩
          rw [HE.out]
          obtain ⟨w4, hw4⟩ : ∃ x, x = wr.alloc (.cells CA.toArray 30 (0, 0)) := ⟨_, rfl⟩
          rw [← hw4]
          have hb4 : Below wr.heap.size wr w4 := by rw [hw4]; exact (Below.refl _ _).alloc (Nat.le_refl _) _
          have I4 : Hid (IsD w4 c 1 D 10 m) := IR.out.kept hb4 (fun _ _ => rfl)
          have S4 : Hid (Sea w w4 c) := SR.out.kept hb4
          have E4 : Hid (Blk w4 E 30 CA) := (show Blk _ _ _ _ by rw [hw4, ← HE.out]; exact Blk.new wr 30 CA)
          have r4 := E4.out.range0
          clear hw4 hb4 hr IR SR C1
          go_wp2_with (first
            | (refine wpList_load_mid rfl 30 _ rfl E 0 rfl CA _ r4 Try.underlying30 rfl (by rw [hcl]; exact Try.size30) ?_)
            | fail)
          rw [← HCA.out]
          refine (S4.out.one I4.out (by decide) HA.out HF.out.2).mono ?_
          rintro e w5 ⟨rfl, c5, i5, s5, n5⟩
          have I5 : Hid (IsD w5 c5 1 D 10 (oneP m p)) := i5
          have S5 : Hid (Sea w w5 c5) := n5
          clear i5 s5 n5 r4 E4
          go_wp2_with fail
          go_roundg (gk - 1)
          case measure => omega
          case rel => exact ⟨i + 1, _, c5, by omega, by go_num, I5, S5⟩
        · obtain rfl : i = n := by omega
          go_wp2_with fail
          refine (dRead_any IR.out 0 320 (by decide)).mono ?_
          rintro e w4 ⟨v4, rfl, r4, n4, b4⟩
          obtain ⟨lw, HLW⟩ : ∃ l, Hid ((Pd.read m 0 320).1 = l) := ⟨_, rfl⟩
          obtain ⟨ew, HEW⟩ : ∃ l, Hid ((Pd.read m 0 320).2 = l) := ⟨_, rfl⟩
          rw [HLW.out] at r4
          rw [HEW.out]
          have I4 : Hid (IsD w4 c 1 D 10 m) := IR.out.kept b4 (fun _ _ => rfl)
          have C4 : Hid (Cool c v4) := SR.out.norm.cool n4
          have S4 : Hid (Sea w w4 c) := SR.out.kept b4
          have R4 : Hid (Rd w4 v4 lw) := r4
          obtain ⟨a4, cp4, hv4, -⟩ := r4
          subst hv4
          clear n4 b4 IR SR
          go_wp2_with fail
          refine (dCopy_any I4.out 2 (by decide)).mono ?_
          rintro e w5 ⟨C, rfl, -, c5, i5, j5, s5, -⟩
          have I5 : Hid (IsD w5 c5 1 D 10 m) := j5
          have J5 : Hid (IsD w5 c5 2 C 10 m) := i5
          have S5 : Hid (Sea w w5 c5) := S4.out.step s5 (by decide)
          obtain ⟨r5, k5⟩ := C4.out.rd R4.out s5 (by decide)
          have R5 : Hid (Rd w5 (.slice a4 lw.length cp4) lw) := r5
          have C5 : Hid (Cool c5 (.slice a4 lw.length cp4)) := k5
          clear i5 j5 s5 r5 k5 I4 S4 R4 C4
          go_wp2_with fail
          refine (dCopy_any I5.out 3 (by decide)).mono ?_
          rintro e w6 ⟨X, rfl, -, c6, i6, j6, s6, -⟩
          have I6 : Hid (IsD w6 c6 1 D 10 m) := j6
          have J6 : Hid (IsD w6 c6 2 C 10 m) := J5.out.step s6 (by decide) (by decide)
          have K6 : Hid (IsD w6 c6 3 X 10 m) := i6
          have S6 : Hid (Sea w w6 c6) := S5.out.step s6 (by decide)
          obtain ⟨r6, k6⟩ := C5.out.rd R5.out s6 (by decide)
          have R6 : Hid (Rd w6 (.slice a4 lw.length cp4) lw) := r6
          have C6 : Hid (Cool c6 (.slice a4 lw.length cp4)) := k6
          clear i6 j6 s6 r6 k6 I5 J5 S5 R5 C5
          go_wp2_with fail
          go_loopg [59] k (fun g x wr => ∃ j : Nat, ∃ m2 c, g + j = k ∧ x = .int .i64 (j : Int) ∧ Hid (IsD wr c 1 D 10 m) ∧ Hid (IsD wr c 2 C 10 m2) ∧ Hid (IsD wr c 3 X 10 m2) ∧ Hid (Sea w wr c) ∧ Hid (Rd wr (.slice a4 lw.length cp4) lw) ∧ Hid (Cool c (.slice a4 lw.length cp4)))
          case atStart => exact ⟨0, _, c6, by omega, rfl, I6, J6, K6, S6, R6, C6⟩
          case round =>
            clear I6 J6 K6 S6 R6 C6
            obtain ⟨j, m2, c, hgi, rfl, IR, JR, KR, SR, RR, CR⟩ := hrel
            by_cases hlt : j < k
            · have q2 : (j : Int) < (k : Int) := by omega
              obtain ⟨b, off, p, ab, cb, ak, ck, rfl, hp, hr, hA⟩ := HK.out.nth HM.out SR.out.below hlt
              have HF : Hid (p.B.length ≤ 400 ∧ p.keep.length ≤ 100) := HY.out.nth hp
              have C1 : Hid (∀ u ∈ AC p (.slice ab p.B.length cb) (.slice ak p.keep.length ck), u.oneCell' = true) := AC_one hA
              have HA : Hid (IsA w p (.slice ab p.B.length cb) (.slice ak p.keep.length ck)) := hA
              obtain ⟨CA, HCA⟩ : ∃ CA, Hid (AC p (.slice ab p.B.length cb) (.slice ak p.keep.length ck) = CA) := ⟨_, rfl⟩
              rw [HCA.out] at hr C1
              have hcl : CA.length = 5 := by rw [← HCA.out]; rfl
              clear hA hp
              go_upto_region 14 with (first
                | (refine wpList_load_mid rfl 30 _ rfl b (off + j * 5) rfl CA _ hr Try.underlying30 rfl (by rw [hcl]; exact Try.size30) ?_)
                | (refine wpList_store_new rfl 30 _ _ rfl wr _ _ _ rfl rfl rfl (by simpa [hcl] using Try.size30) (by simp [hcl]) (all_one C1.out) ?_)
                | fail)
              obtain ⟨E, HE⟩ : ∃ E, Hid (wr.heap.size = E) := ⟨_, rfl⟩
              rw [HE.out]
              obtain ⟨w4, hw4⟩ : ∃ x, x = wr.alloc (.cells CA.toArray 30 (0, 0)) := ⟨_, rfl⟩
              rw [← hw4]
              have hb4 : Below wr.heap.size wr w4 := by rw [hw4]; exact (Below.refl _ _).alloc (Nat.le_refl _) _
              have I4 : Hid (IsD w4 c 1 D 10 m) := IR.out.kept hb4 (fun _ _ => rfl)
              have J4 : Hid (IsD w4 c 2 C 10 m2) := JR.out.kept hb4 (fun _ _ => rfl)
              have K4 : Hid (IsD w4 c 3 X 10 m2) := KR.out.kept hb4 (fun _ _ => rfl)
              have S4 : Hid (Sea w w4 c) := SR.out.kept hb4
              have R4 : Hid (Rd w4 (.slice a4 lw.length cp4) lw) := RR.out.kept hb4
              have E4 : Hid (Blk w4 E 30 CA) := (show Blk _ _ _ _ by rw [hw4, ← HE.out]; exact Blk.new wr 30 CA)
              have CE : Hid (c E = 0) := (show _ from SR.out.norm E (by rw [HE.out]; exact Nat.le_refl _))
              have r4 := E4.out.range0
              clear hw4 hb4 hr IR JR KR SR RR C1
              go_wp2_with (first
                | (refine wpList_load_mid rfl 30 _ rfl E 0 rfl CA _ r4 Try.underlying30 rfl (by rw [hcl]; exact Try.size30) ?_)
                | fail)
              rw [← HCA.out]
              refine (S4.out.one J4.out (by decide) HA.out HF.out.2).mono ?_
              rintro e w5 ⟨rfl, c5, j5, s5, n5⟩
              have I5 : Hid (IsD w5 c5 1 D 10 m) := I4.out.step s5 (by decide) (by decide)
              have J5 : Hid (IsD w5 c5 2 C 10 (oneP m2 p)) := j5
              have K5 : Hid (IsD w5 c5 3 X 10 m2) := K4.out.step s5 (by decide) (by decide)
              have S5 : Hid (Sea w w5 c5) := n5
              obtain ⟨r5, k5⟩ := Cool.rd CR.out R4.out s5 (by decide)
              have R5 : Hid (Rd w5 (.slice a4 lw.length cp4) lw) := r5
              have C5 : Hid (Cool c5 (.slice a4 lw.length cp4)) := k5
              have E5 : Hid (Blk w5 E 30 CA) := (show Blk _ _ _ _ from (s5.chg.block E E4.out.lt (by rw [CE.out]; decide)).trans E4.out)
              have q5 := E5.out.range0
              clear j5 s5 n5 r4 E4 r5 k5 I4 J4 K4 S4 R4 CR
              rw [HCA.out]
              go_wp2_with (first
                | (refine wpList_load_mid rfl 30 _ rfl E 0 rfl CA _ q5 Try.underlying30 rfl (by rw [hcl]; exact Try.size30) ?_)
                | fail)
              rw [← HCA.out]
              refine (S5.out.one K5.out (by decide) HA.out HF.out.2).mono ?_
              rintro e w6 ⟨rfl, c6, j6, s6, n6⟩
              have I6 : Hid (IsD w6 c6 1 D 10 m) := I5.out.step s6 (by decide) (by decide)
              have J6 : Hid (IsD w6 c6 2 C 10 (oneP m2 p)) := J5.out.step s6 (by decide) (by decide)
              have K6 : Hid (IsD w6 c6 3 X 10 (oneP m2 p)) := j6
              have S6 : Hid (Sea w w6 c6) := n6
              obtain ⟨r6, k6⟩ := Cool.rd C5.out R5.out s6 (by decide)
              have R6 : Hid (Rd w6 (.slice a4 lw.length cp4) lw) := r6
              have C6 : Hid (Cool c6 (.slice a4 lw.length cp4)) := k6
              clear j6 s6 n6 q5 E5 r6 k6 I5 J5 K5 S5 R5 C5
              go_wp2_with fail
              go_roundg (gk - 1)
              case measure => omega
              case rel => exact ⟨j + 1, _, c6, by omega, by go_num, I6, J6, K6, S6, R6, C6⟩
            · obtain rfl : j = k := by omega
              go_wp2_with fail
              refine (dRead_any IR.out 0 320 (by decide)).mono ?_
              rintro e w7 ⟨v7, rfl, r7, -, b7⟩
              rw [HLW.out] at r7
              rw [HEW.out]
              have J7 : Hid (IsD w7 c 2 C 10 m2) := JR.out.kept b7 (fun _ _ => rfl)
              have K7 : Hid (IsD w7 c 3 X 10 m2) := KR.out.kept b7 (fun _ _ => rfl)
              have S7 : Hid (Sea w w7 c) := SR.out.kept b7
              have R7 : Hid (Rd w7 (.slice a4 lw.length cp4) lw) := RR.out.kept b7
              have T7 : Hid (Rd w7 v7 lw) := r7
              clear r7 b7 IR JR KR SR RR CR
              obtain ⟨lp, HLP⟩ : ∃ l, Hid ((Pd.read m2 0 320).1 = l) := ⟨_, rfl⟩
              obtain ⟨ep, HEP⟩ : ∃ l, Hid ((Pd.read m2 0 320).2 = l) := ⟨_, rfl⟩
              go_wp2_with fail
              refine (dRead_any J7.out 0 320 (by decide)).mono ?_
              rintro e w8 ⟨v8, rfl, r8, -, b8⟩
              rw [HLP.out] at r8
              rw [HEP.out]
              have J8 : Hid (IsD w8 c 2 C 10 m2) := J7.out.kept b8 (fun _ _ => rfl)
              have K8 : Hid (IsD w8 c 3 X 10 m2) := K7.out.kept b8 (fun _ _ => rfl)
              have S8 : Hid (Sea w w8 c) := S7.out.kept b8
              have R8 : Hid (Rd w8 (.slice a4 lw.length cp4) lw) := R7.out.kept b8
              have T8 : Hid (Rd w8 v7 lw) := T7.out.kept b8
              have U8 : Hid (Rd w8 v8 lp) := r8
              clear r8 b8 J7 K7 S7 R7 T7
              go_wp2_with fail
              refine (dRead_any K8.out 0 320 (by decide)).mono ?_
              rintro e w9 ⟨v9, rfl, r9, -, b9⟩
              rw [HLP.out] at r9
              rw [HEP.out]
              have J9 : Hid (IsD w9 c 2 C 10 m2) := J8.out.kept b9 (fun _ _ => rfl)
              have K9 : Hid (IsD w9 c 3 X 10 m2) := K8.out.kept b9 (fun _ _ => rfl)
              have S9 : Hid (Sea w w9 c) := S8.out.kept b9
              have k1 := (R8.out.kept b9).conv (P := Try.prog) 27 9 Try.underlying27 Try.underlying5 Try.underlying9
              have k2 := (T8.out.kept b9).conv (P := Try.prog) 27 9 Try.underlying27 Try.underlying5 Try.underlying9
              have k3 := (U8.out.kept b9).conv (P := Try.prog) 27 9 Try.underlying27 Try.underlying5 Try.underlying9
              have k4 := r9.conv (P := Try.prog) 27 9 Try.underlying27 Try.underlying5 Try.underlying9
              clear r9 b9 J8 K8 S8 R8 T8 U8
              go_wp2_with fail
              refine (dOn_any J9.out).mono ?_
              rintro e w10 ⟨rfl, hw⟩
              subst hw
              go_wp2_with fail
              refine (dOn_any K9.out).mono ?_
              rintro e w11 ⟨rfl, hw⟩
              subst hw
              clear k1 k2 k3 k4
              obtain ⟨of, HOF⟩ : ∃ b, Hid ((!m2.off) = b) := ⟨_, rfl⟩
              rw [HOF.out]
              go_wp2_with fail
              refine (dDirty_any J9.out).mono ?_
              rintro e wa ⟨va, rfl, ra, -, ba⟩
              have Ka : Hid (IsD wa c 3 X 10 m2) := K9.out.kept ba (fun _ _ => rfl)
              have Sa : Hid (Sea w wa c) := S9.out.kept ba
              have Ra : Hid (RdN wa va (Nats m2.dirty)) := ra
              clear ra ba J9 K9 S9
              go_wp2_with fail
              refine (dDirty_any Ka.out).mono ?_
              rintro e wb ⟨vb, rfl, rb, -, bb⟩
              have Sb : Hid (Sea w wb c) := Sa.out.kept bb
              have Rb : Hid (RdN wb va (Nats m2.dirty)) := Ra.out.kept bb
              have Tb : Hid (RdN wb vb (Nats m2.dirty)) := rb
              clear rb bb Ka Sa Ra
              go_wp2_with fail
              refine (ints_any Rb.out Tb.out).mono ?_
              rintro e wc ⟨rfl, bc⟩
              have Sc : Hid (Sea w wc c) := Sb.out.kept bc
              rw [decide_eq_true (rfl : Nats m2.dirty = Nats m2.dirty)]
              clear bc Sb Rb Tb
              go_wp2_with fail
              refine (lives_any wc).mono ?_
              rintro e wd ⟨rfl, bd⟩
              have Bd : Hid (Below w.heap.size w wd) := Sc.out.below.trans (bd.mono Sc.out.below.size)
              clear bd
              go_wp2
              go_ret
              exact ⟨rfl, Bd.out⟩
end Go.Proofs.Ytnkcjhfdmnpckab
