/-
  indenturelaw06.WalActs: the walk: the call returns true and makes new memory alone.
-/
import Derived.Test.YtgdhjgfoalianaaDoorWTwo
import Derived.Test.YtgdhjgfoalianaaDoorGWb
import Derived.Deep.CutBlock
namespace Go.Proofs.YtgdhjgfoalianaaDoor
open Go.RowKit
open Pd (DM)
/-- An Append, done by none, one, both. -/
def StA (w0 : World) (D R n : Nat) (m m2 : DM) (L M E C Y E2 C2 A : Nat) (CA : List Value) (s : Nat) (w : World) : Prop :=
  ∃ c', Pair w0 w c' D R n (cond (Nat.ble 1 s) m2 m) (cond (Nat.ble 2 s) m2 m) L M (cond (Nat.ble 1 s) E2 E) (cond (Nat.ble 1 s) C2 C) Y (cond (Nat.ble 2 s) E2 E) (cond (Nat.ble 2 s) C2 C) Y ∧ Blk w A 36 CA ∧ c' A = 0
/-- A Crash and a Start. -/
def StC (w0 : World) (D R n : Nat) (m mk ms : DM) (A : Nat) (CA : List Value) (s : Nat) (w : World) : Prop :=
  ∃ c', Duo w0 w c' D R n (cond (Nat.ble 3 s) ms (cond (Nat.ble 1 s) mk m)) (cond (Nat.ble 4 s) ms (cond (Nat.ble 2 s) mk m)) ∧ Blk w A 36 CA ∧ c' A = 0
/-- A Write. -/
def StW (w0 : World) (D R n : Nat) (m m2 : DM) (lv mv : Value) (k A : Nat) (CA : List Value) (s : Nat) (w : World) : Prop :=
  ∃ c', (Duo w0 w c' D R n (cond (Nat.ble 1 s) m2 m) (cond (Nat.ble 2 s) m2 m) ∧ Logs w c' D R lv mv k) ∧ Blk w A 36 CA ∧ c' A = 0
set_option maxHeartbeats 8000000 in
set_option maxRecDepth 100000 in
theorem walActs_any (z : Int) (hz0 : (Lit.int .i64 z).wf = true) {v : Value} (LA : List ActP) (w : World) (hTb : Tab w) (h : RdL w v LA) : Calls Tryd.prog 3 #[.int .i64 z, v] w fun e w' => e = .returned (.bool true) ∧ Below w.heap.size w w' := by
  have HL : Hid (RdL w v LA) := h
  obtain ⟨a, cp, hv, h1, h2, -⟩ := h
  subst hv
  obtain ⟨k, HN⟩ : ∃ n, Hid (LA.length = n) := ⟨_, rfl⟩
  rw [HN.out] at h1 HL ⊢
  have hz := Zact
  have hn : k ≤ 9223372036854775807 := by unfold maxLen at h2; omega
  have bz := bounds_i64 hz0
  have HTB := hide hTb
  clear hz0 hTb
  have FIN : Hid (∀ w3, Below w.heap.size w w3 → Calls Tryd.prog 10 #[] w3 fun e w' => e = .returned (.bool true) ∧ Below w.heap.size w w') := (show _ from fun w3 s3 => (lives_any w3 (HTB.out.kept s3)).mono fun e w4 ⟨h1, h2⟩ => ⟨h1, s3.trans (h2.mono s3.size)⟩)
  go_enter Tryd.func3, Tryd.ntmps3
  go_wp2_with fail
  refine (light_any HL.out).mono ?_
  rintro e w1 ⟨x, rfl, hx, hb1⟩
  have B1 : Hid (Below w.heap.size w w1) := hb1
  clear hb1
  cases x with
  | false =>
    go_wp2_with fail
    refine (FIN.out w1 B1.out).mono ?_
    rintro e w3 ⟨rfl, hb3⟩
    have B3 : Hid (Below w.heap.size w w3) := hb3
    clear hb3
    go_wp2
    go_ret
    exact ⟨rfl, B3.out⟩
  | true =>
    have HX : Hid (Light LA) := hx rfl
    clear hx
    by_cases q1 : 60 < z
    · have q2 : decide (60 < z) = true := by simp; omega
      go_wp2_with fail
      refine (FIN.out w1 B1.out).mono ?_
      rintro e w3 ⟨rfl, hb3⟩
      have B3 : Hid (Below w.heap.size w w3) := hb3
      clear hb3
      go_wp2
      go_ret
      exact ⟨rfl, B3.out⟩
    have q2 : decide (60 < z) = false := by simp; omega
    by_cases q4 : z < 1
    · have HNEW : Hid (∀ W : World, Calls Tryd.prog 11 #[.int .i64 z] W fun e w' => e = .returned (.pointer none) ∧ w' = W) := (show _ from fun W => dNew_none W z (.inl q4))
      have HREF : Hid (∀ W : World, Calls Tryd.prog 12 #[.int .i64 z] W fun e w' => e = .returned (.pointer none) ∧ w' = W) := (show _ from fun W => rNew_none z (.inl q4))
      clear q1 q4
      go_wp2_with fail
      refine (HNEW.out w1).mono ?_
      rintro e w2 ⟨rfl, hw⟩
      subst hw
      go_wp2_with fail
      refine (HREF.out w2).mono ?_
      rintro e w3 ⟨rfl, hw⟩
      subst hw
      go_wp2_with fail
      refine (FIN.out w3 B1.out).mono ?_
      rintro e w4 ⟨rfl, hb3⟩
      have B3 : Hid (Below w.heap.size w w4) := hb3
      clear hb3
      go_wp2
      go_ret
      exact ⟨rfl, B3.out⟩
    obtain ⟨n, rfl⟩ : ∃ n : Nat, z = (n : Int) := ⟨z.toNat, by omega⟩
    have n1 : 1 ≤ n := by omega
    have n2 : n ≤ 4096 := by omega
    clear q1 q4
    have hk50 : k ≤ 50 := by have := HX.out.1; have := HN.out; omega
    go_wp2_with fail
    refine (dNew_any w1 (fun _ => 0) 1 (by decide) n n1 n2).mono ?_
    rintro e w2 ⟨D, rfl, c2, hD, hs, hb, -⟩
    have I2 : Hid (IsD w2 c2 1 D n (Pd.new n)) := hD
    have S2 : Hid (Sea w w2 c2) := (show Sea _ _ _ from ⟨hs.norm, fun k hk => hs.ext k (Nat.lt_of_lt_of_le hk B1.out.size), B1.out.trans (hb.mono B1.out.size)⟩)
    clear hD hs hb
    go_wp2_with fail
    refine (rNew_any w2 c2 2 (by decide) n n1 n2).mono ?_
    rintro e w3 ⟨R, rfl, c3, hR, hs, -, -⟩
    have T3 : Hid (Duo w w3 c3 D R n (Pd.new n) (Pd.new n)) := (show Duo _ _ _ _ _ _ _ _ from ⟨S2.out.step hs (by decide), I2.out.step hs (by decide) (by decide), hR⟩)
    clear hR hs I2 S2
    go_wp2_with fail
    refine (lopen_any HTB.out T3.out 0).mono ?_
    rintro e w4 ⟨l4, m4, rfl, c4, d4, hd4, hg4⟩
    have D4 : Hid (Duo w w4 c4 D R n d4 d4) := hd4
    have G4 : Hid (Logs w4 c4 D R l4 m4 0) := hg4
    clear hd4 hg4 T3
    go_wp2_with fail
    go_loopg [7, 8, 9, 48] k (fun g x7 x8 x9 x wr => ∃ i : Nat, ∃ m c, g + i = k ∧ x = .int .i64 (i : Int) ∧ x9 = .bool true ∧ Hid (Duo w wr c D R n m m) ∧ Hid (Logs wr c D R x7 x8 i))
    case atStart => exact ⟨0, _, c4, by omega, rfl, rfl, D4, G4⟩
    case round =>
      clear D4 G4
      obtain ⟨i, m, c, hgi, rfl, rfl, DR, GR⟩ := hrel
      by_cases hlt : i < k
      · have q3 : (i : Int) < (k : Int) := by omega
        obtain ⟨b, off, p, ab, cb, ak, ck, rfl, hp, hr, hA⟩ := HL.out.nth HN.out DR.out.sea.below hlt
        have HF := hide (HX.out.nth hp)
        have C1 : Hid (∀ u ∈ AC p (.slice ab p.B.length cb) (.slice ak p.keep.length ck), u.oneCell' = true) := AC_one hA
        have HA : Hid (IsA w p (.slice ab p.B.length cb) (.slice ak p.keep.length ck)) := hA
        obtain ⟨CA, HCA⟩ : ∃ CA, Hid (AC p (.slice ab p.B.length cb) (.slice ak p.keep.length ck) = CA) := ⟨_, rfl⟩
        rw [HCA.out] at hr C1
        have hcl : CA.length = 5 := by rw [← HCA.out]; rfl
        have hb9 : p.B.length ≤ 1000000 := by have := HF.out; omega
        have hk9 : p.keep.length ≤ 1000000 := by have := HF.out; omega
        clear hA hp
        go_upto_region 10 with (first
          | (refine wpList_load_mid rfl 36 _ rfl b (off + i * 5) rfl CA _ hr Tryd.underlying36 rfl (by rw [hcl]; exact Tryd.size36) ?_)
          | (refine wpList_store_new rfl 36 _ _ rfl wr _ _ _ rfl rfl rfl (by simpa [hcl] using Tryd.size36) (by simp [hcl]) (all_one C1.out) ?_)
          | fail)
        obtain ⟨A, HE⟩ : ∃ E, Hid (wr.heap.size = E) := ⟨_, rfl⟩
        rw [HE.out]
        obtain ⟨w5, hw5⟩ : ∃ x, x = wr.alloc (.cells CA.toArray 36 (0, 0)) := ⟨_, rfl⟩
        rw [← hw5]
        have hb5 : Below wr.heap.size wr w5 := by rw [hw5]; exact (Below.refl _ _).alloc (Nat.le_refl _) _
        have D4 : Hid (Duo w w5 c D R n m m) := DR.out.kept hb5
        have G4 : Hid (Logs w5 c D R u7 u8 i) := GR.out.kept hb5
        have B4 : Hid (Blk w5 A 36 (AC p (.slice ab p.B.length cb) (.slice ak p.keep.length ck))) := (show Blk _ _ _ _ by rw [hw5, ← HE.out, HCA.out]; exact Blk.new wr 36 CA)
        have CA4 : Hid (c A = 0) := (show _ from DR.out.sea.norm A (by rw [HE.out]; exact Nat.le_refl _))
        clear hw5 hb5 hr DR GR C1 hcl HCA
        have c0 := B4.out.cell (j := 0) rfl
        go_upto_block 2 with fail
        clear c0
        go_cut [7, 8, 9] from 49 to 191 (fun s7 s8 s9 wx => s9 = .bool true ∧ ∃ c' m', Hid (Duo w wx c' D R n m' m') ∧ Hid (Logs wx c' D R s7 s8 (i + 1)))
        case first =>
          have c1 := B4.out.cell (j := 1) rfl
          have c2 := B4.out.cell (j := 2) rfl
          have c4 := B4.out.cell (j := 4) rfl
          have hE9 : i ≤ 50 := by omega
          by_cases k0 : p.kind = 0
          · clear c1 c2 c4
            rcases G4.out with ⟨h7, h8⟩ | ⟨L, M, E, C, Y, h7, h8, hl, hq, h5, h6, hne, hE, hC⟩
            · subst h7 h8
              have GN : Hid (Logs w5 c D R (.pointer none) (.pointer none) (i + 1)) := .inl ⟨rfl, rfl⟩
              rw [k0]
              go_wp2_with fail
              go_meet
              exact ⟨rfl, c, m, D4, GN⟩
            · subst h7 h8
              have P4 : Hid (Pair w w5 c D R n m m L M E C Y E C Y) := ⟨D4.out, hl, hq, h5, h6, hne⟩
              obtain ⟨er, m2, hz⟩ : ∃ er m2, appD m E p.B = (er, m2) := ⟨_, _, rfl⟩
              have HZ := hide hz
              obtain ⟨E2, he2⟩ : ∃ x, (if (er, m2).1 = 0 then E + (pad p.B).length else E) = x := ⟨_, rfl⟩
              obtain ⟨C2, hc2⟩ : ∃ x, (if (er, m2).1 = 0 then C + 1 else C) = x := ⟨_, rfl⟩
              have HE2 := hide he2
              have HC2 := hide hc2
              have HB2 : Hid (E2 ≤ 140000 + 8400 * (i + 1) ∧ C2 ≤ 5000 + (i + 1)) := by
                refine ⟨?_, ?_⟩
                · by_cases hl8 : 8192 < p.B.length
                  · have : (er, m2) = (12, m) := hz.symm.trans (if_pos hl8)
                    rw [this, if_neg (by simp)] at he2
                    omega
                  · have hP : (pad p.B).length ≤ 8400 := by rw [pad_length]; have := ru_lt (framed p.B).length; have := framed_length p.B; have := enc_length p.B.length; omega
                    split at he2 <;> omega
                · split at hc2 <;> omega
              have hE9 : E ≤ 1000000 := by omega
              have hC9 : C ≤ 1000000 := by omega
              clear hz he2 hc2 hl hq h5 h6 hne hE hC
              rw [k0]
              go_upto_region 13 with fail
              refine wp_region_chain Tryd.mixed (fun i_ => match i_ with | 0 | 1 | 10 | 11 | 12 => .bool true | 2 => .pointer (some ⟨L, 0, none⟩) | 3 | 7 => .pointer (some ⟨A, 3, none⟩) | 4 | 8 => .slice ab p.B.length cb | 5 | 9 => .int .i64 (er : Int) | 6 => .pointer (some ⟨M, 0, none⟩) | _ => undef) (StA w D R n m m2 L M E C Y E2 C2 A (AC p (.slice ab p.B.length cb) (.slice ak p.keep.length ck))) [5, 9] 12 193 rfl (by decide +kernel) (by decide +kernel) (by decide +kernel) (by decide) (by decide +kernel) ?_ ?_ ?_
              · exact fun w' hh hg => ⟨c, P4.out.kept hg, B4.out.kept hg, CA4.out⟩
              · refine AllFrom.cons ?_ (AllFrom.cons ?_ (AllFrom.cons ?_ (AllFrom.cons ?_ (AllFrom.cons ?_ (AllFrom.cons ?_ (AllFrom.cons ?_ (AllFrom.cons ?_ (AllFrom.cons ?_ (AllFrom.cons ?_ (AllFrom.cons ?_ (AllFrom.cons ?_ (AllFrom.cons ?_ AllFrom.nil))))))))))))
                · -- 0: Op.move (Operand.tmp 9)
                  refine ⟨.inl rfl, .inl ⟨by decide, ?_⟩⟩
                  intro s_ a' w' hk hd hT
                  have e9 : a'.eval (.tmp 9) = .bool true := hk 9 (by decide +kernel)
                  simp only [execOp, e9]
                  rfl
                · -- 1: Op.move (Operand.tmp 58)
                  refine ⟨.inl rfl, .inl ⟨by decide, ?_⟩⟩
                  intro s_ a' w' hk hd hT
                  have e58 : a'.eval (.tmp 58) = .bool true := hd 0 58 (by decide +kernel)
                  simp only [execOp, e58]
                  rfl
                · -- 2: Op.move (Operand.tmp 7)
                  refine ⟨.inr ⟨1, 59, true, rfl, by decide +kernel, rfl⟩, .inl ⟨by decide, ?_⟩⟩
                  intro s_ a' w' hk hd hT
                  have e7 : a'.eval (.tmp 7) = .pointer (some ⟨L, 0, none⟩) := hk 7 (by decide +kernel)
                  simp only [execOp, e7]
                  rfl
                · -- 3: Op.fieldAddr 36 (Operand.tmp 11) 3
                  refine ⟨.inr ⟨1, 59, true, rfl, by decide +kernel, rfl⟩, .inl ⟨by decide, ?_⟩⟩
                  intro s_ a' w' hk hd hT
                  have e11 : a'.eval (.tmp 11) = .pointer (some ⟨A, 0, none⟩) := hk 11 (by decide +kernel)
                  clear hd hk hT
                  simp only [execOp, e11]
                  go_simp
                · -- 4: Op.load 33 (Operand.tmp 61)
                  refine ⟨.inr ⟨1, 59, true, rfl, by decide +kernel, rfl⟩, .inl ⟨by decide, ?_⟩⟩
                  intro s_ a' w' hk hd hT
                  have e61 : a'.eval (.tmp 61) = .pointer (some ⟨A, 3, none⟩) := hd 3 61 (by decide +kernel)
                  obtain ⟨_, _, hB, _⟩ := hT
                  have cc := hB.cell (j := 3) rfl
                  clear hd hk
                  simp only [execOp, e61]
                  go_simp
                · -- 5: Op.call ( callee := Callee.value (Operand.func 14), args := 
                  refine ⟨.inr ⟨1, 59, true, rfl, by decide +kernel, rfl⟩, .inr ⟨0, rfl, ?_⟩⟩
                  intro a' w' hk hd hT
                  have e60 : a'.eval (.tmp 60) = .pointer (some ⟨L, 0, none⟩) := hd 2 60 (by decide +kernel)
                  have e62 : a'.eval (.tmp 62) = .slice ab p.B.length cb := hd 4 62 (by decide +kernel)
                  refine wp_call_at 14 _ _ (run_enter 14 _ _ rfl (by kernel_rfl)) ?_
                  simp only [List.map_toArray, List.map_nil, List.map_cons, e60, e62]
                  obtain ⟨c1, hP, hB, hE⟩ := hT
                  replace hP : Pair w w' c1 D R n m m L M E C Y E C Y := hP
                  have hw := wAppend_any hP.duo.d hP.duo.sea.norm (HTB.out.kept hP.duo.sea.below) hP.l hP.l9 (by decide) _ p.B (HA.out.b.kept hP.duo.sea.below) hE9 hC9
                  rw [HZ.out] at hw
                  refine hw.mono ?_
                  rintro e w2 ⟨rfl, c2, hI, hs, hl⟩
                  rw [HE2.out, HC2.out] at hl
                  exact ⟨rfl, c2, hP.stepD hs hI hl, blk_stepL hs (by decide) hP.l9 hB hE⟩
                · -- 6: Op.move (Operand.tmp 8)
                  refine ⟨.inr ⟨1, 59, true, rfl, by decide +kernel, rfl⟩, .inl ⟨by decide, ?_⟩⟩
                  intro s_ a' w' hk hd hT
                  have e8 : a'.eval (.tmp 8) = .pointer (some ⟨M, 0, none⟩) := hk 8 (by decide +kernel)
                  simp only [execOp, e8]
                  rfl
                · -- 7: Op.fieldAddr 36 (Operand.tmp 11) 3
                  refine ⟨.inr ⟨1, 59, true, rfl, by decide +kernel, rfl⟩, .inl ⟨by decide, ?_⟩⟩
                  intro s_ a' w' hk hd hT
                  have e11 : a'.eval (.tmp 11) = .pointer (some ⟨A, 0, none⟩) := hk 11 (by decide +kernel)
                  clear hd hk hT
                  simp only [execOp, e11]
                  go_simp
                · -- 8: Op.load 33 (Operand.tmp 65)
                  refine ⟨.inr ⟨1, 59, true, rfl, by decide +kernel, rfl⟩, .inl ⟨by decide, ?_⟩⟩
                  intro s_ a' w' hk hd hT
                  have e65 : a'.eval (.tmp 65) = .pointer (some ⟨A, 3, none⟩) := hd 7 65 (by decide +kernel)
                  obtain ⟨_, _, hB, _⟩ := hT
                  have cc := hB.cell (j := 3) rfl
                  clear hd hk
                  simp only [execOp, e65]
                  go_simp
                · -- 9: Op.call ( callee := Callee.value (Operand.func 15), args := 
                  refine ⟨.inr ⟨1, 59, true, rfl, by decide +kernel, rfl⟩, .inr ⟨1, rfl, ?_⟩⟩
                  intro a' w' hk hd hT
                  have e64 : a'.eval (.tmp 64) = .pointer (some ⟨M, 0, none⟩) := hd 6 64 (by decide +kernel)
                  have e66 : a'.eval (.tmp 66) = .slice ab p.B.length cb := hd 8 66 (by decide +kernel)
                  refine wp_call_at 15 _ _ (run_enter 15 _ _ rfl (by kernel_rfl)) ?_
                  simp only [List.map_toArray, List.map_nil, List.map_cons, e64, e66]
                  obtain ⟨c1, hP, hB, hE⟩ := hT
                  replace hP : Pair w w' c1 D R n m2 m L M E2 C2 Y E C Y := hP
                  have hw := qAppend_any hP.duo.r hP.duo.sea.norm hP.q hP.m9 (by decide) _ p.B (HA.out.b.kept hP.duo.sea.below) hE9 hC9
                  rw [HZ.out] at hw
                  refine hw.mono ?_
                  rintro e w2 ⟨rfl, c2, hI, hs, hl⟩
                  rw [HE2.out, HC2.out] at hl
                  exact ⟨rfl, c2, hP.stepR hs hI hl, blk_stepL hs (by decide) hP.m9 hB hE⟩
                · -- 10: Op.binOp BinOp.eql 3 (Operand.tmp 63) (Operand.tmp 67) 3
                  refine ⟨.inr ⟨1, 59, true, rfl, by decide +kernel, rfl⟩, .inl ⟨by decide, ?_⟩⟩
                  intro s_ a' w' hk hd hT
                  have e63 : a'.eval (.tmp 63) = .int .i64 (er : Int) := hd 5 63 (by decide +kernel)
                  have e67 : a'.eval (.tmp 67) = .int .i64 (er : Int) := hd 9 67 (by decide +kernel)
                  clear hd hk hT
                  simp only [execOp, e63, e67]
                  go_simp
                · -- 11: Op.pick (Operand.tmp 59) (Operand.tmp 68) (Operand.const (Va
                  refine ⟨.inl rfl, .inl ⟨by decide, ?_⟩⟩
                  intro s_ a' w' hk hd hT
                  have e59 : a'.eval (.tmp 59) = .bool true := hd 1 59 (by decide +kernel)
                  have e68 : a'.eval (.tmp 68) = .bool true := hd 10 68 (by decide +kernel)
                  clear hd hk hT
                  simp only [execOp, e59, e68]
                  go_simp
                · -- 12: Op.assign (Operand.tmp 69)
                  refine ⟨.inl rfl, .inl ⟨by decide, ?_⟩⟩
                  intro s_ a' w' hk hd hT
                  have e69 : a'.eval (.tmp 69) = .bool true := hd 11 69 (by decide +kernel)
                  simp only [execOp, e69]
                  rfl
              · intro a' w' hsz hdf hk hall hT
                have e58 : a'.eval (.tmp 58) = .bool true := hall 0 _ 58 rfl rfl
                have e59 : a'.eval (.tmp 59) = .bool true := hall 1 _ 59 rfl rfl
                have e60 : a'.eval (.tmp 60) = .pointer (some ⟨L, 0, none⟩) := hall 2 _ 60 rfl rfl
                have e61 : a'.eval (.tmp 61) = .pointer (some ⟨A, 3, none⟩) := hall 3 _ 61 rfl rfl
                have e62 : a'.eval (.tmp 62) = .slice ab p.B.length cb := hall 4 _ 62 rfl rfl
                have e63 : a'.eval (.tmp 63) = .int .i64 (er : Int) := hall 5 _ 63 rfl rfl
                have e64 : a'.eval (.tmp 64) = .pointer (some ⟨M, 0, none⟩) := hall 6 _ 64 rfl rfl
                have e65 : a'.eval (.tmp 65) = .pointer (some ⟨A, 3, none⟩) := hall 7 _ 65 rfl rfl
                have e66 : a'.eval (.tmp 66) = .slice ab p.B.length cb := hall 8 _ 66 rfl rfl
                have e67 : a'.eval (.tmp 67) = .int .i64 (er : Int) := hall 9 _ 67 rfl rfl
                have e68 : a'.eval (.tmp 68) = .bool true := hall 10 _ 68 rfl rfl
                have e69 : a'.eval (.tmp 69) = .bool true := hall 11 _ 69 rfl rfl
                have e9 : a'.eval (.tmp 9) = .bool true := hall 12 _ 9 rfl rfl
                have ha := act_puts 193 rfl hsz hdf hk [58, 59, 60, 61, 62, 63, 64, 65, 66, 67, 68, 69, 9] (by decide +kernel)
                simp only [puts, List.foldl_cons, List.foldl_nil, e58, e59, e60, e61, e62, e63, e64, e65, e66, e67, e68, e69, e9] at ha
                simp only [Act.put, List.setIfInBounds_toArray, List.set_cons_succ, List.set_cons_zero] at ha
                clear hall hk hsz hdf e58 e59 e60 e61 e62 e63 e64 e65 e66 e67 e68 e69 e9
                subst ha
                obtain ⟨c', hP, -, -⟩ := hT
                have P5 : Hid (Pair w w' c' D R n m2 m2 L M E2 C2 Y E2 C2 Y) := hP
                clear hP
                go_wp2_with fail
                go_meet
                exact ⟨rfl, c', m2, P5.out.duo, .inr ⟨L, M, E2, C2, Y, rfl, rfl, P5.out.l, P5.out.q, P5.out.l9, P5.out.m9, P5.out.ne, HB2.out.1, HB2.out.2⟩⟩
          have n0 : decide (p.kind = 0) = false := by simp [k0]
          have o0 : (p.kind == 0) = false := by simp [k0]
          by_cases k1 : p.kind = 1
          · clear c1 c2 c4
            rcases G4.out with ⟨h7, h8⟩ | ⟨L, M, E, C, Y, h7, h8, hl, hq, h5, h6, hne, hE, hC⟩
            · subst h7 h8
              have GN : Hid (Logs w5 c D R (.pointer none) (.pointer none) (i + 1)) := .inl ⟨rfl, rfl⟩
              rw [k1]
              clear n0 o0 k0
              go_wp2_with fail
              go_meet
              exact ⟨rfl, c, m, D4, GN⟩
            · subst h7 h8
              have P4 : Hid (Pair w w5 c D R n m m L M E C Y E C Y) := ⟨D4.out, hl, hq, h5, h6, hne⟩
              have HB : Hid (E ≤ 140000 + 8400 * (i + 1) ∧ C ≤ 5000 + (i + 1)) := ⟨by omega, by omega⟩
              obtain ⟨er, m2, hz⟩ : ∃ er m2, Pd.sync m = (er, m2) := ⟨_, _, rfl⟩
              have HZ := hide hz
              obtain ⟨Y2, hy2⟩ : ∃ x, (if (er, m2).1 = 0 then C else Y) = x := ⟨_, rfl⟩
              have hw := wSync_any P4.out.duo.d P4.out.duo.sea.norm P4.out.l P4.out.l9 (by decide)
              rw [hz, hy2] at hw
              have HW := hide hw
              have HY2 := hide hy2
              clear hz hy2 hl hq h5 h6 hne hE hC hw
              rw [k1]
              clear n0 o0 k0
              go_wp2_with fail
              refine HW.out.mono ?_
              rintro e w6 ⟨rfl, c6, hI, hs, hl⟩
              have P6 : Hid (Pair w w6 c6 D R n m2 m L M E C Y2 E C Y) := P4.out.stepD hs hI hl
              have hw := qSync_any P6.out.duo.r P6.out.duo.sea.norm P6.out.q P6.out.m9 (by decide)
              rw [HZ.out, HY2.out] at hw
              have HW2 := hide hw
              clear hw hI hs hl
              go_wp2_with fail
              refine HW2.out.mono ?_
              rintro e w7 ⟨rfl, c7, hI, hs, hl⟩
              have P7 : Hid (Pair w w7 c7 D R n m2 m2 L M E C Y2 E C Y2) := P6.out.stepR hs hI hl
              clear hI hs hl
              go_wp2_with fail
              go_meet
              exact ⟨rfl, c7, m2, P7.out.duo, .inr ⟨L, M, E, C, Y2, rfl, rfl, P7.out.l, P7.out.q, P7.out.l9, P7.out.m9, P7.out.ne, HB.out.1, HB.out.2⟩⟩
          have n1' : decide (p.kind = 1) = false := by simp [k1]
          have o1 : (p.kind == 1) = false := by simp [k1]
          by_cases k2 : p.kind = 2
          · clear c1 c2 c4
            obtain ⟨kb, mk, hkk⟩ : ∃ a b, Pd.crashed m p.keep p.a = (a, b) := ⟨_, _, rfl⟩
            have HK := hide hkk
            obtain ⟨sb, ms, hss⟩ : ∃ a b, Pd.start mk = (a, b) := ⟨_, _, rfl⟩
            have HS := hide hss
            clear hkk hss
            rw [k2]
            clear n0 o0 k0 n1' o1 k1
            go_upto_region 18 with fail
            refine wp_region_chain Tryd.mixed (fun i_ => match i_ with | 0 | 1 | 14 | 15 | 16 | 21 | 22 | 23 => .bool true | 2 | 17 => .pointer (some ⟨D, 0, none⟩) | 3 | 9 => .pointer (some ⟨A, 4, none⟩) | 4 | 10 => .slice ak p.keep.length ck | 5 | 11 => .pointer (some ⟨A, 1, none⟩) | 6 | 12 => .int .i64 p.a | 7 | 13 => .bool kb | 8 | 19 => .pointer (some ⟨R, 0, none⟩) | 18 | 20 => .bool sb | _ => undef) (StC w D R n m mk ms A (AC p (.slice ab p.B.length cb) (.slice ak p.keep.length ck))) [7, 13, 18, 20] 23 193 rfl (by decide +kernel) (by decide +kernel) (by decide +kernel) (by decide) (by decide +kernel) ?_ ?_ ?_
            · exact fun w' hh hg => ⟨c, D4.out.kept hg, B4.out.kept hg, CA4.out⟩
            · refine AllFrom.cons ?_ (AllFrom.cons ?_ (AllFrom.cons ?_ (AllFrom.cons ?_ (AllFrom.cons ?_ (AllFrom.cons ?_ (AllFrom.cons ?_ (AllFrom.cons ?_ (AllFrom.cons ?_ (AllFrom.cons ?_ (AllFrom.cons ?_ (AllFrom.cons ?_ (AllFrom.cons ?_ (AllFrom.cons ?_ (AllFrom.cons ?_ (AllFrom.cons ?_ (AllFrom.cons ?_ (AllFrom.cons ?_ (AllFrom.cons ?_ (AllFrom.cons ?_ (AllFrom.cons ?_ (AllFrom.cons ?_ (AllFrom.cons ?_ (AllFrom.cons ?_ AllFrom.nil)))))))))))))))))))))))
              · -- 0: Op.move (Operand.tmp 9)
                refine ⟨.inl rfl, .inl ⟨by decide, ?_⟩⟩
                intro s_ a' w' hk hd hT
                have e9 : a'.eval (.tmp 9) = .bool true := hk 9 (by decide +kernel)
                simp only [execOp, e9]
                rfl
              · -- 1: Op.move (Operand.tmp 84)
                refine ⟨.inl rfl, .inl ⟨by decide, ?_⟩⟩
                intro s_ a' w' hk hd hT
                have e84 : a'.eval (.tmp 84) = .bool true := hd 0 84 (by decide +kernel)
                simp only [execOp, e84]
                rfl
              · -- 2: Op.move (Operand.tmp 5)
                refine ⟨.inr ⟨1, 85, true, rfl, by decide +kernel, rfl⟩, .inl ⟨by decide, ?_⟩⟩
                intro s_ a' w' hk hd hT
                have e5 : a'.eval (.tmp 5) = .pointer (some ⟨D, 0, none⟩) := hk 5 (by decide +kernel)
                simp only [execOp, e5]
                rfl
              · -- 3: Op.fieldAddr 36 (Operand.tmp 11) 4
                refine ⟨.inr ⟨1, 85, true, rfl, by decide +kernel, rfl⟩, .inl ⟨by decide, ?_⟩⟩
                intro s_ a' w' hk hd hT
                have e11 : a'.eval (.tmp 11) = .pointer (some ⟨A, 0, none⟩) := hk 11 (by decide +kernel)
                clear hd hk hT
                simp only [execOp, e11]
                go_simp
              · -- 4: Op.load 34 (Operand.tmp 87)
                refine ⟨.inr ⟨1, 85, true, rfl, by decide +kernel, rfl⟩, .inl ⟨by decide, ?_⟩⟩
                intro s_ a' w' hk hd hT
                have e87 : a'.eval (.tmp 87) = .pointer (some ⟨A, 4, none⟩) := hd 3 87 (by decide +kernel)
                obtain ⟨_, _, hB, _⟩ := hT
                have cc := hB.cell (j := 4) rfl
                clear hd hk
                simp only [execOp, e87]
                go_simp
              · -- 5: Op.fieldAddr 36 (Operand.tmp 11) 1
                refine ⟨.inr ⟨1, 85, true, rfl, by decide +kernel, rfl⟩, .inl ⟨by decide, ?_⟩⟩
                intro s_ a' w' hk hd hT
                have e11 : a'.eval (.tmp 11) = .pointer (some ⟨A, 0, none⟩) := hk 11 (by decide +kernel)
                clear hd hk hT
                simp only [execOp, e11]
                go_simp
              · -- 6: Op.load 3 (Operand.tmp 89)
                refine ⟨.inr ⟨1, 85, true, rfl, by decide +kernel, rfl⟩, .inl ⟨by decide, ?_⟩⟩
                intro s_ a' w' hk hd hT
                have e89 : a'.eval (.tmp 89) = .pointer (some ⟨A, 1, none⟩) := hd 5 89 (by decide +kernel)
                obtain ⟨_, _, hB, _⟩ := hT
                have cc := hB.cell (j := 1) rfl
                clear hd hk
                simp only [execOp, e89]
                go_simp
              · -- 7: Op.call ( callee := Callee.value (Operand.func 18), args := 
                refine ⟨.inr ⟨1, 85, true, rfl, by decide +kernel, rfl⟩, .inr ⟨0, rfl, ?_⟩⟩
                intro a' w' hk hd hT
                have e86 : a'.eval (.tmp 86) = .pointer (some ⟨D, 0, none⟩) := hd 2 86 (by decide +kernel)
                have e88 : a'.eval (.tmp 88) = .slice ak p.keep.length ck := hd 4 88 (by decide +kernel)
                have e90 : a'.eval (.tmp 90) = .int .i64 p.a := hd 6 90 (by decide +kernel)
                refine wp_call_at 18 _ _ (run_enter 18 _ _ rfl (by kernel_rfl)) ?_
                simp only [List.map_toArray, List.map_nil, List.map_cons, e86, e88, e90]
                obtain ⟨c1, hP, hB, hE⟩ := hT
                replace hP : Duo w w' c1 D R n m m := hP
                have hw := dCrash_any hP.d hP.sea.norm _ p.keep p.a (HA.out.k.kept hP.sea.below) HA.out.ws (hP.sea.coolN HA.out.k)
                rw [HK.out] at hw
                refine hw.mono ?_
                rintro e w2 ⟨rfl, c2, hI, hs⟩
                exact ⟨rfl, c2, hP.stepD hs hI, blk_step hs (by decide) hB hE⟩
              · -- 8: Op.move (Operand.tmp 6)
                refine ⟨.inr ⟨1, 85, true, rfl, by decide +kernel, rfl⟩, .inl ⟨by decide, ?_⟩⟩
                intro s_ a' w' hk hd hT
                have e6 : a'.eval (.tmp 6) = .pointer (some ⟨R, 0, none⟩) := hk 6 (by decide +kernel)
                simp only [execOp, e6]
                rfl
              · -- 9: Op.fieldAddr 36 (Operand.tmp 11) 4
                refine ⟨.inr ⟨1, 85, true, rfl, by decide +kernel, rfl⟩, .inl ⟨by decide, ?_⟩⟩
                intro s_ a' w' hk hd hT
                have e11 : a'.eval (.tmp 11) = .pointer (some ⟨A, 0, none⟩) := hk 11 (by decide +kernel)
                clear hd hk hT
                simp only [execOp, e11]
                go_simp
              · -- 10: Op.load 34 (Operand.tmp 93)
                refine ⟨.inr ⟨1, 85, true, rfl, by decide +kernel, rfl⟩, .inl ⟨by decide, ?_⟩⟩
                intro s_ a' w' hk hd hT
                have e93 : a'.eval (.tmp 93) = .pointer (some ⟨A, 4, none⟩) := hd 9 93 (by decide +kernel)
                obtain ⟨_, _, hB, _⟩ := hT
                have cc := hB.cell (j := 4) rfl
                clear hd hk
                simp only [execOp, e93]
                go_simp
              · -- 11: Op.fieldAddr 36 (Operand.tmp 11) 1
                refine ⟨.inr ⟨1, 85, true, rfl, by decide +kernel, rfl⟩, .inl ⟨by decide, ?_⟩⟩
                intro s_ a' w' hk hd hT
                have e11 : a'.eval (.tmp 11) = .pointer (some ⟨A, 0, none⟩) := hk 11 (by decide +kernel)
                clear hd hk hT
                simp only [execOp, e11]
                go_simp
              · -- 12: Op.load 3 (Operand.tmp 95)
                refine ⟨.inr ⟨1, 85, true, rfl, by decide +kernel, rfl⟩, .inl ⟨by decide, ?_⟩⟩
                intro s_ a' w' hk hd hT
                have e95 : a'.eval (.tmp 95) = .pointer (some ⟨A, 1, none⟩) := hd 11 95 (by decide +kernel)
                obtain ⟨_, _, hB, _⟩ := hT
                have cc := hB.cell (j := 1) rfl
                clear hd hk
                simp only [execOp, e95]
                go_simp
              · -- 13: Op.call ( callee := Callee.value (Operand.func 19), args := 
                refine ⟨.inr ⟨1, 85, true, rfl, by decide +kernel, rfl⟩, .inr ⟨1, rfl, ?_⟩⟩
                intro a' w' hk hd hT
                have e92 : a'.eval (.tmp 92) = .pointer (some ⟨R, 0, none⟩) := hd 8 92 (by decide +kernel)
                have e94 : a'.eval (.tmp 94) = .slice ak p.keep.length ck := hd 10 94 (by decide +kernel)
                have e96 : a'.eval (.tmp 96) = .int .i64 p.a := hd 12 96 (by decide +kernel)
                refine wp_call_at 19 _ _ (run_enter 19 _ _ rfl (by kernel_rfl)) ?_
                simp only [List.map_toArray, List.map_nil, List.map_cons, e92, e94, e96]
                obtain ⟨c1, hP, hB, hE⟩ := hT
                replace hP : Duo w w' c1 D R n mk m := hP
                have hw := rCrash_any hP.r hP.sea.norm _ p.keep p.a (HA.out.k.kept hP.sea.below) (hP.sea.coolN HA.out.k)
                rw [HK.out] at hw
                refine hw.mono ?_
                rintro e w2 ⟨rfl, c2, hI, hs⟩
                exact ⟨rfl, c2, hP.stepR hs hI, blk_step hs (by decide) hB hE⟩
              · -- 14: Op.binOp BinOp.eql 4 (Operand.tmp 91) (Operand.tmp 97) 4
                refine ⟨.inr ⟨1, 85, true, rfl, by decide +kernel, rfl⟩, .inl ⟨by decide, ?_⟩⟩
                intro s_ a' w' hk hd hT
                have e91 : a'.eval (.tmp 91) = .bool kb := hd 7 91 (by decide +kernel)
                have e97 : a'.eval (.tmp 97) = .bool kb := hd 13 97 (by decide +kernel)
                clear hd hk hT
                simp only [execOp, e91, e97]
                go_simp
              · -- 15: Op.pick (Operand.tmp 85) (Operand.tmp 98) (Operand.const (Va
                refine ⟨.inl rfl, .inl ⟨by decide, ?_⟩⟩
                intro s_ a' w' hk hd hT
                have e85 : a'.eval (.tmp 85) = .bool true := hd 1 85 (by decide +kernel)
                have e98 : a'.eval (.tmp 98) = .bool true := hd 14 98 (by decide +kernel)
                clear hd hk hT
                simp only [execOp, e85, e98]
                go_simp
              · -- 16: Op.move (Operand.tmp 99)
                refine ⟨.inl rfl, .inl ⟨by decide, ?_⟩⟩
                intro s_ a' w' hk hd hT
                have e99 : a'.eval (.tmp 99) = .bool true := hd 15 99 (by decide +kernel)
                simp only [execOp, e99]
                rfl
              · -- 17: Op.move (Operand.tmp 5)
                refine ⟨.inr ⟨16, 100, true, rfl, by decide +kernel, rfl⟩, .inl ⟨by decide, ?_⟩⟩
                intro s_ a' w' hk hd hT
                have e5 : a'.eval (.tmp 5) = .pointer (some ⟨D, 0, none⟩) := hk 5 (by decide +kernel)
                simp only [execOp, e5]
                rfl
              · -- 18: Op.call ( callee := Callee.value (Operand.func 20), args := 
                refine ⟨.inr ⟨16, 100, true, rfl, by decide +kernel, rfl⟩, .inr ⟨2, rfl, ?_⟩⟩
                intro a' w' hk hd hT
                have e101 : a'.eval (.tmp 101) = .pointer (some ⟨D, 0, none⟩) := hd 17 101 (by decide +kernel)
                refine wp_call_at 20 _ _ (run_enter 20 _ _ rfl (by kernel_rfl)) ?_
                simp only [List.map_toArray, List.map_nil, List.map_cons, e101]
                obtain ⟨c1, hP, hB, hE⟩ := hT
                replace hP : Duo w w' c1 D R n mk mk := hP
                have hw := dStart_any hP.d hP.sea.norm
                rw [HS.out] at hw
                refine hw.mono ?_
                rintro e w2 ⟨rfl, hI, hs⟩
                exact ⟨rfl, c1, hP.stepD hs hI, blk_step hs (by decide) hB hE⟩
              · -- 19: Op.move (Operand.tmp 6)
                refine ⟨.inr ⟨16, 100, true, rfl, by decide +kernel, rfl⟩, .inl ⟨by decide, ?_⟩⟩
                intro s_ a' w' hk hd hT
                have e6 : a'.eval (.tmp 6) = .pointer (some ⟨R, 0, none⟩) := hk 6 (by decide +kernel)
                simp only [execOp, e6]
                rfl
              · -- 20: Op.call ( callee := Callee.value (Operand.func 21), args := 
                refine ⟨.inr ⟨16, 100, true, rfl, by decide +kernel, rfl⟩, .inr ⟨3, rfl, ?_⟩⟩
                intro a' w' hk hd hT
                have e103 : a'.eval (.tmp 103) = .pointer (some ⟨R, 0, none⟩) := hd 19 103 (by decide +kernel)
                refine wp_call_at 21 _ _ (run_enter 21 _ _ rfl (by kernel_rfl)) ?_
                simp only [List.map_toArray, List.map_nil, List.map_cons, e103]
                obtain ⟨c1, hP, hB, hE⟩ := hT
                replace hP : Duo w w' c1 D R n ms mk := hP
                have hw := rStart_any hP.r hP.sea.norm
                rw [HS.out] at hw
                refine hw.mono ?_
                rintro e w2 ⟨rfl, hI, hs⟩
                exact ⟨rfl, c1, hP.stepR hs hI, blk_step hs (by decide) hB hE⟩
              · -- 21: Op.binOp BinOp.eql 4 (Operand.tmp 102) (Operand.tmp 104) 4
                refine ⟨.inr ⟨16, 100, true, rfl, by decide +kernel, rfl⟩, .inl ⟨by decide, ?_⟩⟩
                intro s_ a' w' hk hd hT
                have e102 : a'.eval (.tmp 102) = .bool sb := hd 18 102 (by decide +kernel)
                have e104 : a'.eval (.tmp 104) = .bool sb := hd 20 104 (by decide +kernel)
                clear hd hk hT
                simp only [execOp, e102, e104]
                go_simp
              · -- 22: Op.pick (Operand.tmp 100) (Operand.tmp 105) (Operand.const (
                refine ⟨.inl rfl, .inl ⟨by decide, ?_⟩⟩
                intro s_ a' w' hk hd hT
                have e100 : a'.eval (.tmp 100) = .bool true := hd 16 100 (by decide +kernel)
                have e105 : a'.eval (.tmp 105) = .bool true := hd 21 105 (by decide +kernel)
                clear hd hk hT
                simp only [execOp, e100, e105]
                go_simp
              · -- 23: Op.assign (Operand.tmp 106)
                refine ⟨.inl rfl, .inl ⟨by decide, ?_⟩⟩
                intro s_ a' w' hk hd hT
                have e106 : a'.eval (.tmp 106) = .bool true := hd 22 106 (by decide +kernel)
                simp only [execOp, e106]
                rfl
            · intro a' w' hsz hdf hk hall hT
              have e84 : a'.eval (.tmp 84) = .bool true := hall 0 _ 84 rfl rfl
              have e85 : a'.eval (.tmp 85) = .bool true := hall 1 _ 85 rfl rfl
              have e86 : a'.eval (.tmp 86) = .pointer (some ⟨D, 0, none⟩) := hall 2 _ 86 rfl rfl
              have e87 : a'.eval (.tmp 87) = .pointer (some ⟨A, 4, none⟩) := hall 3 _ 87 rfl rfl
              have e88 : a'.eval (.tmp 88) = .slice ak p.keep.length ck := hall 4 _ 88 rfl rfl
              have e89 : a'.eval (.tmp 89) = .pointer (some ⟨A, 1, none⟩) := hall 5 _ 89 rfl rfl
              have e90 : a'.eval (.tmp 90) = .int .i64 p.a := hall 6 _ 90 rfl rfl
              have e91 : a'.eval (.tmp 91) = .bool kb := hall 7 _ 91 rfl rfl
              have e92 : a'.eval (.tmp 92) = .pointer (some ⟨R, 0, none⟩) := hall 8 _ 92 rfl rfl
              have e93 : a'.eval (.tmp 93) = .pointer (some ⟨A, 4, none⟩) := hall 9 _ 93 rfl rfl
              have e94 : a'.eval (.tmp 94) = .slice ak p.keep.length ck := hall 10 _ 94 rfl rfl
              have e95 : a'.eval (.tmp 95) = .pointer (some ⟨A, 1, none⟩) := hall 11 _ 95 rfl rfl
              have e96 : a'.eval (.tmp 96) = .int .i64 p.a := hall 12 _ 96 rfl rfl
              have e97 : a'.eval (.tmp 97) = .bool kb := hall 13 _ 97 rfl rfl
              have e98 : a'.eval (.tmp 98) = .bool true := hall 14 _ 98 rfl rfl
              have e99 : a'.eval (.tmp 99) = .bool true := hall 15 _ 99 rfl rfl
              have e100 : a'.eval (.tmp 100) = .bool true := hall 16 _ 100 rfl rfl
              have e101 : a'.eval (.tmp 101) = .pointer (some ⟨D, 0, none⟩) := hall 17 _ 101 rfl rfl
              have e102 : a'.eval (.tmp 102) = .bool sb := hall 18 _ 102 rfl rfl
              have e103 : a'.eval (.tmp 103) = .pointer (some ⟨R, 0, none⟩) := hall 19 _ 103 rfl rfl
              have e104 : a'.eval (.tmp 104) = .bool sb := hall 20 _ 104 rfl rfl
              have e105 : a'.eval (.tmp 105) = .bool true := hall 21 _ 105 rfl rfl
              have e106 : a'.eval (.tmp 106) = .bool true := hall 22 _ 106 rfl rfl
              have e9 : a'.eval (.tmp 9) = .bool true := hall 23 _ 9 rfl rfl
              have ha := act_puts 193 rfl hsz hdf hk [84, 85, 86, 87, 88, 89, 90, 91, 92, 93, 94, 95, 96, 97, 98, 99, 100, 101, 102, 103, 104, 105, 106, 9] (by decide +kernel)
              simp only [puts, List.foldl_cons, List.foldl_nil, e84, e85, e86, e87, e88, e89, e90, e91, e92, e93, e94, e95, e96, e97, e98, e99, e100, e101, e102, e103, e104, e105, e106, e9] at ha
              simp only [Act.put, List.setIfInBounds_toArray, List.set_cons_succ, List.set_cons_zero] at ha
              clear hall hk hsz hdf e84 e85 e86 e87 e88 e89 e90 e91 e92 e93 e94 e95 e96 e97 e98 e99 e100 e101 e102 e103 e104 e105 e106 e9
              subst ha
              obtain ⟨c', hP, -, -⟩ := hT
              have D5 : Hid (Duo w w' c' D R n ms ms) := hP
              clear hP
              go_wp2_with fail
              refine (lopen_any HTB.out D5.out (i + 1)).mono ?_
              rintro e w6 ⟨l6, m6, rfl, c6, d6, hd6, hg6⟩
              have D6 : Hid (Duo w w6 c6 D R n d6 d6) := hd6
              have G6 : Hid (Logs w6 c6 D R l6 m6 (i + 1)) := hg6
              clear hd6 hg6
              go_wp2_with fail
              go_meet
              exact ⟨rfl, c6, d6, D6, G6⟩
          have n2' : decide (p.kind = 2) = false := by simp [k2]
          have o2 : (p.kind == 2) = false := by simp [k2]
          by_cases k3 : p.kind = 3
          · have hw := dArm_any D4.out.d p.a HA.out.wa _ p.keep p.n (HA.out.k.kept D4.out.sea.below) HA.out.ws hk9 (D4.out.sea.coolN HA.out.k)
            have HW := hide hw
            obtain ⟨m2, hm2⟩ : ∃ x, Pd.arm m p.a p.keep p.n = x := ⟨_, rfl⟩
            rw [hm2] at HW
            have HM2 := hide hm2
            clear hw hm2
            rw [k3]
            clear n0 o0 k0 n1' o1 k1 n2' o2 k2
            go_wp2_with fail
            refine HW.out.mono ?_
            rintro e w6 ⟨rfl, c6, hI, hs⟩
            have D6 : Hid (Duo w w6 c6 D R n m2 m) := D4.out.stepD hs hI
            have G6 : Hid (Logs w6 c6 D R u7 u8 i) := G4.out.step hs (by decide)
            have E6 := (blk_step hs (by decide) B4.out CA4.out).1
            have x1 := E6.cell (j := 1) rfl
            have x2 := E6.cell (j := 2) rfl
            have x4 := E6.cell (j := 4) rfl
            have hw := rArm_any D6.out.r p.a HA.out.wa _ p.keep p.n (HA.out.k.kept D6.out.sea.below) HA.out.ws hk9
            rw [HM2.out] at hw
            have HW2 := hide hw
            clear hw hI hs c1 c2 c4 E6
            go_wp2_with fail
            refine HW2.out.mono ?_
            rintro e w7 ⟨rfl, c7, hI, hs⟩
            have D7 : Hid (Duo w w7 c7 D R n m2 m2) := D6.out.stepR hs hI
            have G7 : Hid (Logs w7 c7 D R u7 u8 (i + 1)) := (G6.out.step hs (by decide)).mono (by omega)
            clear hI hs x1 x2 x4
            go_wp2_with fail
            go_meet
            exact ⟨rfl, c7, m2, D7, G7⟩
          have n3 : decide (p.kind = 3) = false := by simp [k3]
          have o3 : (p.kind == 3) = false := by simp [k3]
          by_cases k4 : p.kind = 4
          · clear c1 c2 c4
            rw [k4]
            clear n0 o0 k0 n1' o1 k1 n2' o2 k2 n3 o3 k3
            go_wp2_with fail
            refine (lopen_any HTB.out D4.out (i + 1)).mono ?_
            rintro e w6 ⟨l6, m6, rfl, c6, d6, hd6, hg6⟩
            have D6 : Hid (Duo w w6 c6 D R n d6 d6) := hd6
            have G6 : Hid (Logs w6 c6 D R l6 m6 (i + 1)) := hg6
            clear hd6 hg6
            go_wp2_with fail
            go_meet
            exact ⟨rfl, c6, d6, D6, G6⟩
          have n4 : decide (p.kind = 4) = false := by simp [k4]
          have o4 : (p.kind == 4) = false := by simp [k4]
          by_cases k5 : p.kind = 5
          · clear c1 c2 c4
            obtain ⟨er, m2, hz⟩ : ∃ er m2, Pd.write m p.n p.B = (er, m2) := ⟨_, _, rfl⟩
            have HZ := hide hz
            clear hz
            rw [k5]
            clear n0 o0 k0 n1' o1 k1 n2' o2 k2 n3 o3 k3 n4 o4 k4
            go_upto_region 27 with fail
            refine wp_region_chain Tryd.mixed (fun i_ => match i_ with | 0 | 1 | 14 | 15 | 16 => .bool true | 2 => .pointer (some ⟨D, 0, none⟩) | 3 | 9 => .pointer (some ⟨A, 2, none⟩) | 4 | 10 => .int .i64 p.n | 5 | 11 => .pointer (some ⟨A, 3, none⟩) | 6 | 12 => .slice ab p.B.length cb | 7 | 13 => .int .i64 (er : Int) | 8 => .pointer (some ⟨R, 0, none⟩) | _ => undef) (StW w D R n m m2 u7 u8 i A (AC p (.slice ab p.B.length cb) (.slice ak p.keep.length ck))) [7, 13] 16 193 rfl (by decide +kernel) (by decide +kernel) (by decide +kernel) (by decide) (by decide +kernel) ?_ ?_ ?_
            · exact fun w' hh hg => ⟨c, ⟨D4.out.kept hg, G4.out.kept hg⟩, B4.out.kept hg, CA4.out⟩
            · refine AllFrom.cons ?_ (AllFrom.cons ?_ (AllFrom.cons ?_ (AllFrom.cons ?_ (AllFrom.cons ?_ (AllFrom.cons ?_ (AllFrom.cons ?_ (AllFrom.cons ?_ (AllFrom.cons ?_ (AllFrom.cons ?_ (AllFrom.cons ?_ (AllFrom.cons ?_ (AllFrom.cons ?_ (AllFrom.cons ?_ (AllFrom.cons ?_ (AllFrom.cons ?_ (AllFrom.cons ?_ AllFrom.nil))))))))))))))))
              · -- 0: Op.move (Operand.tmp 9)
                refine ⟨.inl rfl, .inl ⟨by decide, ?_⟩⟩
                intro s_ a' w' hk hd hT
                have e9 : a'.eval (.tmp 9) = .bool true := hk 9 (by decide +kernel)
                simp only [execOp, e9]
                rfl
              · -- 1: Op.move (Operand.tmp 144)
                refine ⟨.inl rfl, .inl ⟨by decide, ?_⟩⟩
                intro s_ a' w' hk hd hT
                have e144 : a'.eval (.tmp 144) = .bool true := hd 0 144 (by decide +kernel)
                simp only [execOp, e144]
                rfl
              · -- 2: Op.move (Operand.tmp 5)
                refine ⟨.inr ⟨1, 145, true, rfl, by decide +kernel, rfl⟩, .inl ⟨by decide, ?_⟩⟩
                intro s_ a' w' hk hd hT
                have e5 : a'.eval (.tmp 5) = .pointer (some ⟨D, 0, none⟩) := hk 5 (by decide +kernel)
                simp only [execOp, e5]
                rfl
              · -- 3: Op.fieldAddr 36 (Operand.tmp 11) 2
                refine ⟨.inr ⟨1, 145, true, rfl, by decide +kernel, rfl⟩, .inl ⟨by decide, ?_⟩⟩
                intro s_ a' w' hk hd hT
                have e11 : a'.eval (.tmp 11) = .pointer (some ⟨A, 0, none⟩) := hk 11 (by decide +kernel)
                clear hd hk hT
                simp only [execOp, e11]
                go_simp
              · -- 4: Op.load 3 (Operand.tmp 147)
                refine ⟨.inr ⟨1, 145, true, rfl, by decide +kernel, rfl⟩, .inl ⟨by decide, ?_⟩⟩
                intro s_ a' w' hk hd hT
                have e147 : a'.eval (.tmp 147) = .pointer (some ⟨A, 2, none⟩) := hd 3 147 (by decide +kernel)
                obtain ⟨_, _, hB, _⟩ := hT
                have cc := hB.cell (j := 2) rfl
                clear hd hk
                simp only [execOp, e147]
                go_simp
              · -- 5: Op.fieldAddr 36 (Operand.tmp 11) 3
                refine ⟨.inr ⟨1, 145, true, rfl, by decide +kernel, rfl⟩, .inl ⟨by decide, ?_⟩⟩
                intro s_ a' w' hk hd hT
                have e11 : a'.eval (.tmp 11) = .pointer (some ⟨A, 0, none⟩) := hk 11 (by decide +kernel)
                clear hd hk hT
                simp only [execOp, e11]
                go_simp
              · -- 6: Op.load 33 (Operand.tmp 149)
                refine ⟨.inr ⟨1, 145, true, rfl, by decide +kernel, rfl⟩, .inl ⟨by decide, ?_⟩⟩
                intro s_ a' w' hk hd hT
                have e149 : a'.eval (.tmp 149) = .pointer (some ⟨A, 3, none⟩) := hd 5 149 (by decide +kernel)
                obtain ⟨_, _, hB, _⟩ := hT
                have cc := hB.cell (j := 3) rfl
                clear hd hk
                simp only [execOp, e149]
                go_simp
              · -- 7: Op.call ( callee := Callee.value (Operand.func 24), args := 
                refine ⟨.inr ⟨1, 145, true, rfl, by decide +kernel, rfl⟩, .inr ⟨0, rfl, ?_⟩⟩
                intro a' w' hk hd hT
                have e146 : a'.eval (.tmp 146) = .pointer (some ⟨D, 0, none⟩) := hd 2 146 (by decide +kernel)
                have e148 : a'.eval (.tmp 148) = .int .i64 p.n := hd 4 148 (by decide +kernel)
                have e150 : a'.eval (.tmp 150) = .slice ab p.B.length cb := hd 6 150 (by decide +kernel)
                refine wp_call_at 24 _ _ (run_enter 24 _ _ rfl (by kernel_rfl)) ?_
                simp only [List.map_toArray, List.map_nil, List.map_cons, e146, e148, e150]
                obtain ⟨c1, ⟨hP, hG⟩, hB, hE⟩ := hT
                replace hP : Duo w w' c1 D R n m m := hP
                replace hG : Logs w' c1 D R u7 u8 i := hG
                have hw := dWrite_any hP.d hP.sea.norm p.n HA.out.wn _ p.B (HA.out.b.kept hP.sea.below) (hP.sea.cool HA.out.b)
                rw [HZ.out] at hw
                refine hw.mono ?_
                rintro e w2 ⟨rfl, c2, hI, hs⟩
                exact ⟨rfl, c2, ⟨hP.stepD hs hI, hG.step hs (by decide)⟩, blk_step hs (by decide) hB hE⟩
              · -- 8: Op.move (Operand.tmp 6)
                refine ⟨.inr ⟨1, 145, true, rfl, by decide +kernel, rfl⟩, .inl ⟨by decide, ?_⟩⟩
                intro s_ a' w' hk hd hT
                have e6 : a'.eval (.tmp 6) = .pointer (some ⟨R, 0, none⟩) := hk 6 (by decide +kernel)
                simp only [execOp, e6]
                rfl
              · -- 9: Op.fieldAddr 36 (Operand.tmp 11) 2
                refine ⟨.inr ⟨1, 145, true, rfl, by decide +kernel, rfl⟩, .inl ⟨by decide, ?_⟩⟩
                intro s_ a' w' hk hd hT
                have e11 : a'.eval (.tmp 11) = .pointer (some ⟨A, 0, none⟩) := hk 11 (by decide +kernel)
                clear hd hk hT
                simp only [execOp, e11]
                go_simp
              · -- 10: Op.load 3 (Operand.tmp 153)
                refine ⟨.inr ⟨1, 145, true, rfl, by decide +kernel, rfl⟩, .inl ⟨by decide, ?_⟩⟩
                intro s_ a' w' hk hd hT
                have e153 : a'.eval (.tmp 153) = .pointer (some ⟨A, 2, none⟩) := hd 9 153 (by decide +kernel)
                obtain ⟨_, _, hB, _⟩ := hT
                have cc := hB.cell (j := 2) rfl
                clear hd hk
                simp only [execOp, e153]
                go_simp
              · -- 11: Op.fieldAddr 36 (Operand.tmp 11) 3
                refine ⟨.inr ⟨1, 145, true, rfl, by decide +kernel, rfl⟩, .inl ⟨by decide, ?_⟩⟩
                intro s_ a' w' hk hd hT
                have e11 : a'.eval (.tmp 11) = .pointer (some ⟨A, 0, none⟩) := hk 11 (by decide +kernel)
                clear hd hk hT
                simp only [execOp, e11]
                go_simp
              · -- 12: Op.load 33 (Operand.tmp 155)
                refine ⟨.inr ⟨1, 145, true, rfl, by decide +kernel, rfl⟩, .inl ⟨by decide, ?_⟩⟩
                intro s_ a' w' hk hd hT
                have e155 : a'.eval (.tmp 155) = .pointer (some ⟨A, 3, none⟩) := hd 11 155 (by decide +kernel)
                obtain ⟨_, _, hB, _⟩ := hT
                have cc := hB.cell (j := 3) rfl
                clear hd hk
                simp only [execOp, e155]
                go_simp
              · -- 13: Op.call ( callee := Callee.value (Operand.func 25), args := 
                refine ⟨.inr ⟨1, 145, true, rfl, by decide +kernel, rfl⟩, .inr ⟨1, rfl, ?_⟩⟩
                intro a' w' hk hd hT
                have e152 : a'.eval (.tmp 152) = .pointer (some ⟨R, 0, none⟩) := hd 8 152 (by decide +kernel)
                have e154 : a'.eval (.tmp 154) = .int .i64 p.n := hd 10 154 (by decide +kernel)
                have e156 : a'.eval (.tmp 156) = .slice ab p.B.length cb := hd 12 156 (by decide +kernel)
                refine wp_call_at 25 _ _ (run_enter 25 _ _ rfl (by kernel_rfl)) ?_
                simp only [List.map_toArray, List.map_nil, List.map_cons, e152, e154, e156]
                obtain ⟨c1, ⟨hP, hG⟩, hB, hE⟩ := hT
                replace hP : Duo w w' c1 D R n m2 m := hP
                replace hG : Logs w' c1 D R u7 u8 i := hG
                have hw := rWrite_any hP.r hP.sea.norm p.n HA.out.wn _ p.B (HA.out.b.kept hP.sea.below) (hP.sea.cool HA.out.b) hb9
                rw [HZ.out] at hw
                refine hw.mono ?_
                rintro e w2 ⟨rfl, c2, hI, hs⟩
                exact ⟨rfl, c2, ⟨hP.stepR hs hI, hG.step hs (by decide)⟩, blk_step hs (by decide) hB hE⟩
              · -- 14: Op.binOp BinOp.eql 3 (Operand.tmp 151) (Operand.tmp 157) 3
                refine ⟨.inr ⟨1, 145, true, rfl, by decide +kernel, rfl⟩, .inl ⟨by decide, ?_⟩⟩
                intro s_ a' w' hk hd hT
                have e151 : a'.eval (.tmp 151) = .int .i64 (er : Int) := hd 7 151 (by decide +kernel)
                have e157 : a'.eval (.tmp 157) = .int .i64 (er : Int) := hd 13 157 (by decide +kernel)
                clear hd hk hT
                simp only [execOp, e151, e157]
                go_simp
              · -- 15: Op.pick (Operand.tmp 145) (Operand.tmp 158) (Operand.const (
                refine ⟨.inl rfl, .inl ⟨by decide, ?_⟩⟩
                intro s_ a' w' hk hd hT
                have e145 : a'.eval (.tmp 145) = .bool true := hd 1 145 (by decide +kernel)
                have e158 : a'.eval (.tmp 158) = .bool true := hd 14 158 (by decide +kernel)
                clear hd hk hT
                simp only [execOp, e145, e158]
                go_simp
              · -- 16: Op.assign (Operand.tmp 159)
                refine ⟨.inl rfl, .inl ⟨by decide, ?_⟩⟩
                intro s_ a' w' hk hd hT
                have e159 : a'.eval (.tmp 159) = .bool true := hd 15 159 (by decide +kernel)
                simp only [execOp, e159]
                rfl
            · intro a' w' hsz hdf hk hall hT
              have e144 : a'.eval (.tmp 144) = .bool true := hall 0 _ 144 rfl rfl
              have e145 : a'.eval (.tmp 145) = .bool true := hall 1 _ 145 rfl rfl
              have e146 : a'.eval (.tmp 146) = .pointer (some ⟨D, 0, none⟩) := hall 2 _ 146 rfl rfl
              have e147 : a'.eval (.tmp 147) = .pointer (some ⟨A, 2, none⟩) := hall 3 _ 147 rfl rfl
              have e148 : a'.eval (.tmp 148) = .int .i64 p.n := hall 4 _ 148 rfl rfl
              have e149 : a'.eval (.tmp 149) = .pointer (some ⟨A, 3, none⟩) := hall 5 _ 149 rfl rfl
              have e150 : a'.eval (.tmp 150) = .slice ab p.B.length cb := hall 6 _ 150 rfl rfl
              have e151 : a'.eval (.tmp 151) = .int .i64 (er : Int) := hall 7 _ 151 rfl rfl
              have e152 : a'.eval (.tmp 152) = .pointer (some ⟨R, 0, none⟩) := hall 8 _ 152 rfl rfl
              have e153 : a'.eval (.tmp 153) = .pointer (some ⟨A, 2, none⟩) := hall 9 _ 153 rfl rfl
              have e154 : a'.eval (.tmp 154) = .int .i64 p.n := hall 10 _ 154 rfl rfl
              have e155 : a'.eval (.tmp 155) = .pointer (some ⟨A, 3, none⟩) := hall 11 _ 155 rfl rfl
              have e156 : a'.eval (.tmp 156) = .slice ab p.B.length cb := hall 12 _ 156 rfl rfl
              have e157 : a'.eval (.tmp 157) = .int .i64 (er : Int) := hall 13 _ 157 rfl rfl
              have e158 : a'.eval (.tmp 158) = .bool true := hall 14 _ 158 rfl rfl
              have e159 : a'.eval (.tmp 159) = .bool true := hall 15 _ 159 rfl rfl
              have e9 : a'.eval (.tmp 9) = .bool true := hall 16 _ 9 rfl rfl
              have ha := act_puts 193 rfl hsz hdf hk [144, 145, 146, 147, 148, 149, 150, 151, 152, 153, 154, 155, 156, 157, 158, 159, 9] (by decide +kernel)
              simp only [puts, List.foldl_cons, List.foldl_nil, e144, e145, e146, e147, e148, e149, e150, e151, e152, e153, e154, e155, e156, e157, e158, e159, e9] at ha
              simp only [Act.put, List.setIfInBounds_toArray, List.set_cons_succ, List.set_cons_zero] at ha
              clear hall hk hsz hdf e144 e145 e146 e147 e148 e149 e150 e151 e152 e153 e154 e155 e156 e157 e158 e159 e9
              subst ha
              obtain ⟨c', ⟨hP, hG⟩, -, -⟩ := hT
              have D5 : Hid (Duo w w' c' D R n m2 m2) := hP
              have G5 : Hid (Logs w' c' D R u7 u8 (i + 1)) := hG.mono (by omega)
              clear hP hG
              go_wp2_with fail
              go_meet
              exact ⟨rfl, c', m2, D5, G5⟩
          · have n5 : decide (p.kind = 5) = false := by simp [k5]
            have o5 : (p.kind == 5) = false := by simp [k5]
            have G5 : Hid (Logs w5 c D R u7 u8 (i + 1)) := G4.out.mono (by omega)
            clear c1 c2 c4
            go_wp2_with fail
            go_meet
            exact ⟨rfl, c, m, D4, G5⟩
        case rest =>
          obtain ⟨h9, c, m, D5, G5⟩ := hcut
          subst h9
          clear D4 G4 B4 CA4
          rcases G5.out with ⟨h7, h8⟩ | ⟨L, M, E, C, Y, h7, h8, hl, hq, h5, h6, hne, hE, hC⟩
          · subst h7 h8
            go_upto_region 30 with fail
            go_quiet (fail)
            go_wp2_with fail
            go_roundg (gk - 1)
            case measure => omega
            case rel => exact ⟨i + 1, m, c, by omega, by go_num, rfl, D5.out.kept ⟨rfl, rfl, rfl, Nat.le_refl _, fun _ _ => rfl⟩, .inl ⟨rfl, rfl⟩⟩
          · subst h7 h8
            have P4 : Hid (Pair w wc c D R n m m L M E C Y E C Y) := ⟨D5.out, hl, hq, h5, h6, hne⟩
            have HB : Hid (E ≤ 140000 + 8400 * (i + 1) ∧ C ≤ 5000 + (i + 1)) := ⟨hE, hC⟩
            clear hl hq h5 h6 hne hE hC
            go_upto_region 30 with fail
            refine wp_region_chain Tryd.mixed (fun i_ => match i_ with | 0 | 5 | 6 | 13 | 14 | 22 | 23 => .pointer (some ⟨M, 0, none⟩) | 1 | 2 => .bool true | 3 | 11 | 20 => .pointer (some ⟨L, 0, none⟩) | 4 | 8 => .int .i64 (E : Int) | 7 => .pointer (some ⟨M, 1, none⟩) | 9 | 10 | 17 | 18 | 19 | 26 | 27 | 28 => .bool false | 12 | 16 => .int .i64 (C : Int) | 15 => .pointer (some ⟨M, 2, none⟩) | 21 | 25 => .int .i64 (Y : Int) | 24 => .pointer (some ⟨M, 3, none⟩) | _ => undef) (fun _ w' => Pair w w' c D R n m m L M E C Y E C Y) [4, 12, 21] 29 193 rfl (by decide +kernel) (by decide +kernel) (by decide +kernel) (by decide) (by decide +kernel) ?_ ?_ ?_
            · exact fun w' hh hg => P4.out.kept hg
            · refine AllFrom.cons ?_ (AllFrom.cons ?_ (AllFrom.cons ?_ (AllFrom.cons ?_ (AllFrom.cons ?_ (AllFrom.cons ?_ (AllFrom.cons ?_ (AllFrom.cons ?_ (AllFrom.cons ?_ (AllFrom.cons ?_ (AllFrom.cons ?_ (AllFrom.cons ?_ (AllFrom.cons ?_ (AllFrom.cons ?_ (AllFrom.cons ?_ (AllFrom.cons ?_ (AllFrom.cons ?_ (AllFrom.cons ?_ (AllFrom.cons ?_ (AllFrom.cons ?_ (AllFrom.cons ?_ (AllFrom.cons ?_ (AllFrom.cons ?_ (AllFrom.cons ?_ (AllFrom.cons ?_ (AllFrom.cons ?_ (AllFrom.cons ?_ (AllFrom.cons ?_ (AllFrom.cons ?_ AllFrom.nil))))))))))))))))))))))))))))
              · -- 0: Op.move (Operand.tmp 8)
                refine ⟨.inl rfl, .inl ⟨by decide, ?_⟩⟩
                intro s_ a' w' hk hd hT
                have e8 : a'.eval (.tmp 8) = .pointer (some ⟨M, 0, none⟩) := hk 8 (by decide +kernel)
                simp only [execOp, e8]
                rfl
              · -- 1: Op.binOp BinOp.neq 30 (Operand.tmp 162) (Operand.const (Valu
                refine ⟨.inl rfl, .inl ⟨by decide, ?_⟩⟩
                intro s_ a' w' hk hd hT
                have e162 : a'.eval (.tmp 162) = .pointer (some ⟨M, 0, none⟩) := hd 0 162 (by decide +kernel)
                clear hd hk hT
                simp only [execOp, e162]
                go_simp
              · -- 2: Op.move (Operand.tmp 163)
                refine ⟨.inl rfl, .inl ⟨by decide, ?_⟩⟩
                intro s_ a' w' hk hd hT
                have e163 : a'.eval (.tmp 163) = .bool true := hd 1 163 (by decide +kernel)
                simp only [execOp, e163]
                rfl
              · -- 3: Op.move (Operand.tmp 7)
                refine ⟨.inr ⟨2, 164, true, rfl, by decide +kernel, rfl⟩, .inl ⟨by decide, ?_⟩⟩
                intro s_ a' w' hk hd hT
                have e7 : a'.eval (.tmp 7) = .pointer (some ⟨L, 0, none⟩) := hk 7 (by decide +kernel)
                simp only [execOp, e7]
                rfl
              · -- 4: Op.call ( callee := Callee.value (Operand.func 26), args := 
                refine ⟨.inr ⟨2, 164, true, rfl, by decide +kernel, rfl⟩, .inr ⟨0, rfl, ?_⟩⟩
                intro a' w' hk hd hT
                have e165 : a'.eval (.tmp 165) = .pointer (some ⟨L, 0, none⟩) := hd 3 165 (by decide +kernel)
                refine wp_call_at 26 _ _ (run_enter 26 _ _ rfl (by kernel_rfl)) ?_
                simp only [List.map_toArray, List.map_nil, List.map_cons, e165]
                refine (wEnd_any hT.l).mono ?_
                rintro e w2 ⟨rfl, hw⟩
                subst hw
                exact ⟨rfl, hT⟩
              · -- 5: Op.move (Operand.tmp 8)
                refine ⟨.inr ⟨2, 164, true, rfl, by decide +kernel, rfl⟩, .inl ⟨by decide, ?_⟩⟩
                intro s_ a' w' hk hd hT
                have e8 : a'.eval (.tmp 8) = .pointer (some ⟨M, 0, none⟩) := hk 8 (by decide +kernel)
                simp only [execOp, e8]
                rfl
              · -- 6: Op.nilCheck (Operand.tmp 167)
                refine ⟨.inr ⟨2, 164, true, rfl, by decide +kernel, rfl⟩, .inl ⟨by decide, ?_⟩⟩
                intro s_ a' w' hk hd hT
                have e167 : a'.eval (.tmp 167) = .pointer (some ⟨M, 0, none⟩) := hd 5 167 (by decide +kernel)
                clear hd hk hT
                simp only [execOp, e167]
                go_simp
              · -- 7: Op.fieldAddr 47 (Operand.tmp 168) 1
                refine ⟨.inr ⟨2, 164, true, rfl, by decide +kernel, rfl⟩, .inl ⟨by decide, ?_⟩⟩
                intro s_ a' w' hk hd hT
                have e168 : a'.eval (.tmp 168) = .pointer (some ⟨M, 0, none⟩) := hd 6 168 (by decide +kernel)
                clear hd hk hT
                simp only [execOp, e168]
                go_simp
              · -- 8: Op.load 3 (Operand.tmp 169)
                refine ⟨.inr ⟨2, 164, true, rfl, by decide +kernel, rfl⟩, .inl ⟨by decide, ?_⟩⟩
                intro s_ a' w' hk hd hT
                have e169 : a'.eval (.tmp 169) = .pointer (some ⟨M, 1, none⟩) := hd 7 169 (by decide +kernel)
                have cc := Blk.cell hT.q (j := 1) rfl
                clear hd hk hT
                simp only [execOp, e169]
                go_simp
              · -- 9: Op.binOp BinOp.neq 3 (Operand.tmp 166) (Operand.tmp 170) 3
                refine ⟨.inr ⟨2, 164, true, rfl, by decide +kernel, rfl⟩, .inl ⟨by decide, ?_⟩⟩
                intro s_ a' w' hk hd hT
                have e166 : a'.eval (.tmp 166) = .int .i64 (E : Int) := hd 4 166 (by decide +kernel)
                have e170 : a'.eval (.tmp 170) = .int .i64 (E : Int) := hd 8 170 (by decide +kernel)
                clear hd hk hT
                simp only [execOp, e166, e170]
                go_simp
              · -- 10: Op.move (Operand.tmp 171)
                refine ⟨.inr ⟨2, 164, true, rfl, by decide +kernel, rfl⟩, .inl ⟨by decide, ?_⟩⟩
                intro s_ a' w' hk hd hT
                have e171 : a'.eval (.tmp 171) = .bool false := hd 9 171 (by decide +kernel)
                simp only [execOp, e171]
                rfl
              · -- 11: Op.move (Operand.tmp 7)
                refine ⟨.inr ⟨10, 172, false, rfl, by decide +kernel, rfl⟩, .inl ⟨by decide, ?_⟩⟩
                intro s_ a' w' hk hd hT
                have e7 : a'.eval (.tmp 7) = .pointer (some ⟨L, 0, none⟩) := hk 7 (by decide +kernel)
                simp only [execOp, e7]
                rfl
              · -- 12: Op.call ( callee := Callee.value (Operand.func 27), args := 
                refine ⟨.inr ⟨10, 172, false, rfl, by decide +kernel, rfl⟩, .inr ⟨1, rfl, ?_⟩⟩
                intro a' w' hk hd hT
                have e173 : a'.eval (.tmp 173) = .pointer (some ⟨L, 0, none⟩) := hd 11 173 (by decide +kernel)
                refine wp_call_at 27 _ _ (run_enter 27 _ _ rfl (by kernel_rfl)) ?_
                simp only [List.map_toArray, List.map_nil, List.map_cons, e173]
                refine (wCount_any hT.l).mono ?_
                rintro e w2 ⟨rfl, hw⟩
                subst hw
                exact ⟨rfl, hT⟩
              · -- 13: Op.move (Operand.tmp 8)
                refine ⟨.inr ⟨10, 172, false, rfl, by decide +kernel, rfl⟩, .inl ⟨by decide, ?_⟩⟩
                intro s_ a' w' hk hd hT
                have e8 : a'.eval (.tmp 8) = .pointer (some ⟨M, 0, none⟩) := hk 8 (by decide +kernel)
                simp only [execOp, e8]
                rfl
              · -- 14: Op.nilCheck (Operand.tmp 175)
                refine ⟨.inr ⟨10, 172, false, rfl, by decide +kernel, rfl⟩, .inl ⟨by decide, ?_⟩⟩
                intro s_ a' w' hk hd hT
                have e175 : a'.eval (.tmp 175) = .pointer (some ⟨M, 0, none⟩) := hd 13 175 (by decide +kernel)
                clear hd hk hT
                simp only [execOp, e175]
                go_simp
              · -- 15: Op.fieldAddr 47 (Operand.tmp 176) 2
                refine ⟨.inr ⟨10, 172, false, rfl, by decide +kernel, rfl⟩, .inl ⟨by decide, ?_⟩⟩
                intro s_ a' w' hk hd hT
                have e176 : a'.eval (.tmp 176) = .pointer (some ⟨M, 0, none⟩) := hd 14 176 (by decide +kernel)
                clear hd hk hT
                simp only [execOp, e176]
                go_simp
              · -- 16: Op.load 3 (Operand.tmp 177)
                refine ⟨.inr ⟨10, 172, false, rfl, by decide +kernel, rfl⟩, .inl ⟨by decide, ?_⟩⟩
                intro s_ a' w' hk hd hT
                have e177 : a'.eval (.tmp 177) = .pointer (some ⟨M, 2, none⟩) := hd 15 177 (by decide +kernel)
                have cc := Blk.cell hT.q (j := 2) rfl
                clear hd hk hT
                simp only [execOp, e177]
                go_simp
              · -- 17: Op.binOp BinOp.neq 3 (Operand.tmp 174) (Operand.tmp 178) 3
                refine ⟨.inr ⟨10, 172, false, rfl, by decide +kernel, rfl⟩, .inl ⟨by decide, ?_⟩⟩
                intro s_ a' w' hk hd hT
                have e174 : a'.eval (.tmp 174) = .int .i64 (C : Int) := hd 12 174 (by decide +kernel)
                have e178 : a'.eval (.tmp 178) = .int .i64 (C : Int) := hd 16 178 (by decide +kernel)
                clear hd hk hT
                simp only [execOp, e174, e178]
                go_simp
              · -- 18: Op.pick (Operand.tmp 172) (Operand.const (Value.bool true)) 
                refine ⟨.inr ⟨2, 164, true, rfl, by decide +kernel, rfl⟩, .inl ⟨by decide, ?_⟩⟩
                intro s_ a' w' hk hd hT
                have e172 : a'.eval (.tmp 172) = .bool false := hd 10 172 (by decide +kernel)
                have e179 : a'.eval (.tmp 179) = .bool false := hd 17 179 (by decide +kernel)
                clear hd hk hT
                simp only [execOp, e172, e179]
                go_simp
              · -- 19: Op.move (Operand.tmp 180)
                refine ⟨.inr ⟨2, 164, true, rfl, by decide +kernel, rfl⟩, .inl ⟨by decide, ?_⟩⟩
                intro s_ a' w' hk hd hT
                have e180 : a'.eval (.tmp 180) = .bool false := hd 18 180 (by decide +kernel)
                simp only [execOp, e180]
                rfl
              · -- 20: Op.move (Operand.tmp 7)
                refine ⟨.inr ⟨19, 181, false, rfl, by decide +kernel, rfl⟩, .inl ⟨by decide, ?_⟩⟩
                intro s_ a' w' hk hd hT
                have e7 : a'.eval (.tmp 7) = .pointer (some ⟨L, 0, none⟩) := hk 7 (by decide +kernel)
                simp only [execOp, e7]
                rfl
              · -- 21: Op.call ( callee := Callee.value (Operand.func 28), args := 
                refine ⟨.inr ⟨19, 181, false, rfl, by decide +kernel, rfl⟩, .inr ⟨2, rfl, ?_⟩⟩
                intro a' w' hk hd hT
                have e182 : a'.eval (.tmp 182) = .pointer (some ⟨L, 0, none⟩) := hd 20 182 (by decide +kernel)
                refine wp_call_at 28 _ _ (run_enter 28 _ _ rfl (by kernel_rfl)) ?_
                simp only [List.map_toArray, List.map_nil, List.map_cons, e182]
                refine (wSynced_any hT.l).mono ?_
                rintro e w2 ⟨rfl, hw⟩
                subst hw
                exact ⟨rfl, hT⟩
              · -- 22: Op.move (Operand.tmp 8)
                refine ⟨.inr ⟨19, 181, false, rfl, by decide +kernel, rfl⟩, .inl ⟨by decide, ?_⟩⟩
                intro s_ a' w' hk hd hT
                have e8 : a'.eval (.tmp 8) = .pointer (some ⟨M, 0, none⟩) := hk 8 (by decide +kernel)
                simp only [execOp, e8]
                rfl
              · -- 23: Op.nilCheck (Operand.tmp 184)
                refine ⟨.inr ⟨19, 181, false, rfl, by decide +kernel, rfl⟩, .inl ⟨by decide, ?_⟩⟩
                intro s_ a' w' hk hd hT
                have e184 : a'.eval (.tmp 184) = .pointer (some ⟨M, 0, none⟩) := hd 22 184 (by decide +kernel)
                clear hd hk hT
                simp only [execOp, e184]
                go_simp
              · -- 24: Op.fieldAddr 47 (Operand.tmp 185) 3
                refine ⟨.inr ⟨19, 181, false, rfl, by decide +kernel, rfl⟩, .inl ⟨by decide, ?_⟩⟩
                intro s_ a' w' hk hd hT
                have e185 : a'.eval (.tmp 185) = .pointer (some ⟨M, 0, none⟩) := hd 23 185 (by decide +kernel)
                clear hd hk hT
                simp only [execOp, e185]
                go_simp
              · -- 25: Op.load 3 (Operand.tmp 186)
                refine ⟨.inr ⟨19, 181, false, rfl, by decide +kernel, rfl⟩, .inl ⟨by decide, ?_⟩⟩
                intro s_ a' w' hk hd hT
                have e186 : a'.eval (.tmp 186) = .pointer (some ⟨M, 3, none⟩) := hd 24 186 (by decide +kernel)
                have cc := Blk.cell hT.q (j := 3) rfl
                clear hd hk hT
                simp only [execOp, e186]
                go_simp
              · -- 26: Op.binOp BinOp.neq 3 (Operand.tmp 183) (Operand.tmp 187) 3
                refine ⟨.inr ⟨19, 181, false, rfl, by decide +kernel, rfl⟩, .inl ⟨by decide, ?_⟩⟩
                intro s_ a' w' hk hd hT
                have e183 : a'.eval (.tmp 183) = .int .i64 (Y : Int) := hd 21 183 (by decide +kernel)
                have e187 : a'.eval (.tmp 187) = .int .i64 (Y : Int) := hd 25 187 (by decide +kernel)
                clear hd hk hT
                simp only [execOp, e183, e187]
                go_simp
              · -- 27: Op.pick (Operand.tmp 181) (Operand.const (Value.bool true)) 
                refine ⟨.inr ⟨2, 164, true, rfl, by decide +kernel, rfl⟩, .inl ⟨by decide, ?_⟩⟩
                intro s_ a' w' hk hd hT
                have e181 : a'.eval (.tmp 181) = .bool false := hd 19 181 (by decide +kernel)
                have e188 : a'.eval (.tmp 188) = .bool false := hd 26 188 (by decide +kernel)
                clear hd hk hT
                simp only [execOp, e181, e188]
                go_simp
              · -- 28: Op.pick (Operand.tmp 164) (Operand.tmp 189) (Operand.const (
                refine ⟨.inl rfl, .inl ⟨by decide, ?_⟩⟩
                intro s_ a' w' hk hd hT
                have e164 : a'.eval (.tmp 164) = .bool true := hd 2 164 (by decide +kernel)
                have e189 : a'.eval (.tmp 189) = .bool false := hd 27 189 (by decide +kernel)
                clear hd hk hT
                simp only [execOp, e164, e189]
                go_simp
            · intro a' w' hsz hdf hk hall hT
              have e162 : a'.eval (.tmp 162) = .pointer (some ⟨M, 0, none⟩) := hall 0 _ 162 rfl rfl
              have e163 : a'.eval (.tmp 163) = .bool true := hall 1 _ 163 rfl rfl
              have e164 : a'.eval (.tmp 164) = .bool true := hall 2 _ 164 rfl rfl
              have e165 : a'.eval (.tmp 165) = .pointer (some ⟨L, 0, none⟩) := hall 3 _ 165 rfl rfl
              have e166 : a'.eval (.tmp 166) = .int .i64 (E : Int) := hall 4 _ 166 rfl rfl
              have e167 : a'.eval (.tmp 167) = .pointer (some ⟨M, 0, none⟩) := hall 5 _ 167 rfl rfl
              have e168 : a'.eval (.tmp 168) = .pointer (some ⟨M, 0, none⟩) := hall 6 _ 168 rfl rfl
              have e169 : a'.eval (.tmp 169) = .pointer (some ⟨M, 1, none⟩) := hall 7 _ 169 rfl rfl
              have e170 : a'.eval (.tmp 170) = .int .i64 (E : Int) := hall 8 _ 170 rfl rfl
              have e171 : a'.eval (.tmp 171) = .bool false := hall 9 _ 171 rfl rfl
              have e172 : a'.eval (.tmp 172) = .bool false := hall 10 _ 172 rfl rfl
              have e173 : a'.eval (.tmp 173) = .pointer (some ⟨L, 0, none⟩) := hall 11 _ 173 rfl rfl
              have e174 : a'.eval (.tmp 174) = .int .i64 (C : Int) := hall 12 _ 174 rfl rfl
              have e175 : a'.eval (.tmp 175) = .pointer (some ⟨M, 0, none⟩) := hall 13 _ 175 rfl rfl
              have e176 : a'.eval (.tmp 176) = .pointer (some ⟨M, 0, none⟩) := hall 14 _ 176 rfl rfl
              have e177 : a'.eval (.tmp 177) = .pointer (some ⟨M, 2, none⟩) := hall 15 _ 177 rfl rfl
              have e178 : a'.eval (.tmp 178) = .int .i64 (C : Int) := hall 16 _ 178 rfl rfl
              have e179 : a'.eval (.tmp 179) = .bool false := hall 17 _ 179 rfl rfl
              have e180 : a'.eval (.tmp 180) = .bool false := hall 18 _ 180 rfl rfl
              have e181 : a'.eval (.tmp 181) = .bool false := hall 19 _ 181 rfl rfl
              have e182 : a'.eval (.tmp 182) = .pointer (some ⟨L, 0, none⟩) := hall 20 _ 182 rfl rfl
              have e183 : a'.eval (.tmp 183) = .int .i64 (Y : Int) := hall 21 _ 183 rfl rfl
              have e184 : a'.eval (.tmp 184) = .pointer (some ⟨M, 0, none⟩) := hall 22 _ 184 rfl rfl
              have e185 : a'.eval (.tmp 185) = .pointer (some ⟨M, 0, none⟩) := hall 23 _ 185 rfl rfl
              have e186 : a'.eval (.tmp 186) = .pointer (some ⟨M, 3, none⟩) := hall 24 _ 186 rfl rfl
              have e187 : a'.eval (.tmp 187) = .int .i64 (Y : Int) := hall 25 _ 187 rfl rfl
              have e188 : a'.eval (.tmp 188) = .bool false := hall 26 _ 188 rfl rfl
              have e189 : a'.eval (.tmp 189) = .bool false := hall 27 _ 189 rfl rfl
              have e190 : a'.eval (.tmp 190) = .bool false := hall 28 _ 190 rfl rfl
              have ha := act_puts 193 rfl hsz hdf hk [162, 163, 164, 165, 166, 167, 168, 169, 170, 171, 172, 173, 174, 175, 176, 177, 178, 179, 180, 181, 182, 183, 184, 185, 186, 187, 188, 189, 190] (by decide +kernel)
              simp only [puts, List.foldl_cons, List.foldl_nil, e162, e163, e164, e165, e166, e167, e168, e169, e170, e171, e172, e173, e174, e175, e176, e177, e178, e179, e180, e181, e182, e183, e184, e185, e186, e187, e188, e189, e190] at ha
              simp only [Act.put, List.setIfInBounds_toArray, List.set_cons_succ, List.set_cons_zero] at ha
              clear hall hk hsz hdf e162 e163 e164 e165 e166 e167 e168 e169 e170 e171 e172 e173 e174 e175 e176 e177 e178 e179 e180 e181 e182 e183 e184 e185 e186 e187 e188 e189 e190
              subst ha
              have P5 := hide hT
              clear hT
              go_wp2_with fail
              go_roundg (gk - 1)
              case measure => omega
              case rel => exact ⟨i + 1, m, c, by omega, by go_num, rfl, P5.out.duo, .inr ⟨L, M, E, C, Y, rfl, rfl, P5.out.l, P5.out.q, P5.out.l9, P5.out.m9, P5.out.ne, HB.out.1, HB.out.2⟩⟩
      · have q3 : ¬ (i : Int) < (k : Int) := by omega
        go_wp2_with fail
        refine (FIN.out wr DR.out.sea.below).mono ?_
        rintro e w6 ⟨rfl, hb6⟩
        have B6 := hide hb6
        clear hb6
        go_wp2_with fail
        go_ret
        exact ⟨rfl, B6.out⟩
#print axioms walActs_any
end Go.Proofs.YtgdhjgfoalianaaDoor
