/-
  A disk and the reference's, apart by their colours; indenturelaw05.act.
-/
import Derived.Test.YtnkcjhfdmnpckaaRefW
import Derived.Test.YtnkcjhfdmnpckaaRegion4
namespace Go.Proofs.Ytnkcjhfdmnpckaa
open Go.RowKit
open Pd (DM)
/-- The disk md at D, the reference's disk mr at R. -/
structure Two (w0 w : World) (c : Nat → Nat) (D R n : Nat) (md mr : DM) : Prop where
  sea : Sea w0 w c
  d : IsD w c 1 D n md
  r : IsR w c 2 R n mr
section
variable {w0 w : World} {c : Nat → Nat} {D R n : Nat} {md mr : DM}
theorem Two.kept (h : Two w0 w c D R n md mr) {w' : World} (hb : Below w.heap.size w w') : Two w0 w' c D R n md mr :=
  ⟨h.sea.kept hb, h.d.kept hb (fun _ _ => rfl), h.r.kept hb (fun _ _ => rfl)⟩
theorem Two.stepD (h : Two w0 w c D R n md mr) {w' : World} {c' : Nat → Nat} {m' : DM} (hs : Step c 1 w c' w') (hd : IsD w' c' 1 D n m') : Two w0 w' c' D R n m' mr :=
  ⟨h.sea.step hs (by decide), hd, h.r.step hs (by decide) (by decide)⟩
theorem Two.stepR (h : Two w0 w c D R n md mr) {w' : World} {c' : Nat → Nat} {m' : DM} (hs : Step c 2 w c' w') (hr : IsR w' c' 2 R n m') : Two w0 w' c' D R n md m' :=
  ⟨h.sea.step hs (by decide), h.d.step hs (by decide) (by decide), hr⟩
/-- A block without a colour stays. -/
theorem blk_step {c c' : Nat → Nat} {i : Nat} {w w' : World} (hs : Step c i w c' w') (hi : i ≠ 0) {E : Nat} {T : TypeId} {cs : List Value} (hE : Blk w E T cs) (hc : c E = 0) : Blk w' E T cs ∧ c' E = 0 :=
  ⟨(hs.chg.block E hE.lt (by rw [hc]; exact fun e => hi e.symm)).trans hE, (hs.ext E hE.lt).trans hc⟩
/-- An act that turns md into m', done on neither, one, both. -/
def Stg (w0 : World) (D R n : Nat) (md m' : DM) (E : Nat) (CA : List Value) (x y : Bool) (w : World) : Prop :=
  ∃ c', Two w0 w c' D R n (if x then m' else md) (if y then m' else md) ∧ Blk w E 32 CA ∧ c' E = 0
set_option maxHeartbeats 4000000 in
set_option maxRecDepth 100000 in
theorem act_any (h : Two w0 w c D R n md md) {p : ActP} {ab ak : Option Addr} {cb ck : Nat} (hA : IsA w0 p (.slice ab p.B.length cb) (.slice ak p.keep.length ck)) (hl : p.B.length ≤ 400 ∧ p.keep.length ≤ 100) :
    Calls Try.prog 13 #[.pointer (some ⟨D, 0, none⟩), .pointer (some ⟨R, 0, none⟩), .agg (AC p (.slice ab p.B.length cb) (.slice ak p.keep.length ck)).toArray] w fun e w' => e = .returned (.bool true) ∧ ∃ c' m', Two w0 w' c' D R n m' m' := by
  go_enter Try.func13, Try.ntmps13
  go_upto_region 1 with fail
  obtain ⟨E, HE⟩ : ∃ E, Hid (w.heap.size = E) := ⟨_, rfl⟩
  rw [HE.out]
  obtain ⟨w1, hw1⟩ : ∃ x, x = w.alloc (.cells (AC p (.slice ab p.B.length cb) (.slice ak p.keep.length ck)).toArray 32 (0, 0)) := ⟨_, rfl⟩
  rw [← hw1]
  have hb1 : Below w.heap.size w w1 := by rw [hw1]; exact (Below.refl _ _).alloc (Nat.le_refl _) _
  have E1 : Hid (Blk w1 E 32 (AC p (.slice ab p.B.length cb) (.slice ak p.keep.length ck))) := (show Blk _ _ _ _ by rw [hw1, ← HE.out]; exact Blk.new w 32 _)
  have T1 : Hid (Two w0 w1 c D R n md md) := h.kept hb1
  have CE : Hid (c E = 0) := (show _ from h.sea.norm E (by rw [HE.out]; exact Nat.le_refl _))
  have HA : Hid (IsA w0 p (.slice ab p.B.length cb) (.slice ak p.keep.length ck)) := hA
  have hb4 : p.B.length ≤ 1000000 := by omega
  have hk4 : p.keep.length ≤ 1000000 := by omega
  clear hw1 hb1 h hA hl
  have c0 := E1.out.cell (j := 0) rfl
  have c1 := E1.out.cell (j := 1) rfl
  have c2 := E1.out.cell (j := 2) rfl
  have c3 := E1.out.cell (j := 3) rfl
  have c4 := E1.out.cell (j := 4) rfl
  by_cases k0 : p.kind = 0
  · rw [k0] at c0
    go_upto_region 3 with fail
    refine wp_region_two Try.mixed (fun i_ => match i_ with | 0 => .pointer (some ⟨D, 0, none⟩) | 1 | 7 => .pointer (some ⟨E, 1, none⟩) | 2 | 8 => .int .i64 p.a | 3 | 9 => .pointer (some ⟨E, 3, none⟩) | 4 | 10 => .slice ab p.B.length cb | 5 | 11 => .int .i64 ((Pd.write md p.a p.B).1 : Int) | 6 => .pointer (some ⟨R, 0, none⟩) | 12 | 13 => .bool true | _ => undef) (Stg w0 D R n md (Pd.write md p.a p.B).2 E (AC p (.slice ab p.B.length cb) (.slice ak p.keep.length ck))) 5 11 13 105 rfl (by decide +kernel) (by decide +kernel) (by decide +kernel) (by decide) ?_ ?_ ?_ (by decide) (by decide)
    · exact fun w' hh hg => ⟨c, T1.out.kept hg, E1.out.kept hg, CE.out⟩
    · refine AllFrom.cons ⟨rfl, ?_, ?_, ?_⟩ (AllFrom.cons ⟨rfl, ?_, ?_, ?_⟩ (AllFrom.cons ⟨rfl, ?_, ?_, ?_⟩ (AllFrom.cons ⟨rfl, ?_, ?_, ?_⟩ (AllFrom.cons ⟨rfl, ?_, ?_, ?_⟩ (AllFrom.cons ⟨rfl, ?_, ?_, ?_⟩ (AllFrom.cons ⟨rfl, ?_, ?_, ?_⟩ (AllFrom.cons ⟨rfl, ?_, ?_, ?_⟩ (AllFrom.cons ⟨rfl, ?_, ?_, ?_⟩ (AllFrom.cons ⟨rfl, ?_, ?_, ?_⟩ (AllFrom.cons ⟨rfl, ?_, ?_, ?_⟩ (AllFrom.cons ⟨rfl, ?_, ?_, ?_⟩ (AllFrom.cons ⟨rfl, ?_, ?_, ?_⟩ (AllFrom.cons ⟨rfl, ?_, ?_, ?_⟩ AllFrom.nil)))))))))))))
      · -- 0: Op.move (Operand.tmp 0)
        intro _ _ x_ y_ a' w' hk hd hT
        have e0 : a'.eval (.tmp 0) = .pointer (some ⟨D, 0, none⟩) := hk 0 (by decide +kernel)
        simp only [execOp, e0]
        rfl
      · exact fun e => absurd e (by decide)
      · exact fun e => absurd e (by decide)
      · -- 1: Op.fieldAddr 32 (Operand.tmp 5) 1
        intro _ _ x_ y_ a' w' hk hd hT
        have e5 : a'.eval (.tmp 5) = .pointer (some ⟨E, 0, none⟩) := hk 5 (by decide +kernel)
        clear hd hk
        simp only [execOp, e5]
        go_simp
      · exact fun e => absurd e (by decide)
      · exact fun e => absurd e (by decide)
      · -- 2: Op.load 3 (Operand.tmp 16)
        intro _ _ x_ y_ a' w' hk hd hT
        have e16 : a'.eval (.tmp 16) = .pointer (some ⟨E, 1, none⟩) := hd 1 16 (by decide +kernel)
        obtain ⟨_, _, hB, _⟩ := hT
        have cc := hB.cell (j := 1) rfl
        clear hd hk
        simp only [execOp, e16]
        go_simp
      · exact fun e => absurd e (by decide)
      · exact fun e => absurd e (by decide)
      · -- 3: Op.fieldAddr 32 (Operand.tmp 5) 3
        intro _ _ x_ y_ a' w' hk hd hT
        have e5 : a'.eval (.tmp 5) = .pointer (some ⟨E, 0, none⟩) := hk 5 (by decide +kernel)
        clear hd hk
        simp only [execOp, e5]
        go_simp
      · exact fun e => absurd e (by decide)
      · exact fun e => absurd e (by decide)
      · -- 4: Op.load 29 (Operand.tmp 18)
        intro _ _ x_ y_ a' w' hk hd hT
        have e18 : a'.eval (.tmp 18) = .pointer (some ⟨E, 3, none⟩) := hd 3 18 (by decide +kernel)
        obtain ⟨_, _, hB, _⟩ := hT
        have cc := hB.cell (j := 3) rfl
        clear hd hk
        simp only [execOp, e18]
        go_simp
      · exact fun e => absurd e (by decide)
      · exact fun e => absurd e (by decide)
      · exact fun e e' => absurd rfl e
      · -- 5: Op.call ( callee := Callee.value (Operand.func 15), args := 
        intro _ a' w' hk hd hT
        have e15 : a'.eval (.tmp 15) = .pointer (some ⟨D, 0, none⟩) := hd 0 15 (by decide +kernel)
        have e17 : a'.eval (.tmp 17) = .int .i64 p.a := hd 2 17 (by decide +kernel)
        have e19 : a'.eval (.tmp 19) = .slice ab p.B.length cb := hd 4 19 (by decide +kernel)
        refine wp_call_at 15 _ _ (run_enter 15 _ _ rfl (by kernel_rfl)) ?_
        simp only [List.map_toArray, List.map_nil, List.map_cons, e15, e17, e19]
        obtain ⟨c1, hT, hB, hE⟩ := hT
        refine (dWrite_any hT.d hT.sea.norm p.a HA.out.wa _ p.B (HA.out.b.kept hT.sea.below) (hT.sea.cool HA.out.b)).mono ?_
        rintro e w2 ⟨rfl, c2, hI, hs⟩
        exact ⟨rfl, c2, hT.stepD hs hI, blk_step hs (by decide) hB hE⟩
      · exact fun e => absurd e (by decide)
      · -- 6: Op.move (Operand.tmp 1)
        intro _ _ x_ y_ a' w' hk hd hT
        have e1 : a'.eval (.tmp 1) = .pointer (some ⟨R, 0, none⟩) := hk 1 (by decide +kernel)
        simp only [execOp, e1]
        rfl
      · exact fun e => absurd e (by decide)
      · exact fun e => absurd e (by decide)
      · -- 7: Op.fieldAddr 32 (Operand.tmp 5) 1
        intro _ _ x_ y_ a' w' hk hd hT
        have e5 : a'.eval (.tmp 5) = .pointer (some ⟨E, 0, none⟩) := hk 5 (by decide +kernel)
        clear hd hk
        simp only [execOp, e5]
        go_simp
      · exact fun e => absurd e (by decide)
      · exact fun e => absurd e (by decide)
      · -- 8: Op.load 3 (Operand.tmp 22)
        intro _ _ x_ y_ a' w' hk hd hT
        have e22 : a'.eval (.tmp 22) = .pointer (some ⟨E, 1, none⟩) := hd 7 22 (by decide +kernel)
        obtain ⟨_, _, hB, _⟩ := hT
        have cc := hB.cell (j := 1) rfl
        clear hd hk
        simp only [execOp, e22]
        go_simp
      · exact fun e => absurd e (by decide)
      · exact fun e => absurd e (by decide)
      · -- 9: Op.fieldAddr 32 (Operand.tmp 5) 3
        intro _ _ x_ y_ a' w' hk hd hT
        have e5 : a'.eval (.tmp 5) = .pointer (some ⟨E, 0, none⟩) := hk 5 (by decide +kernel)
        clear hd hk
        simp only [execOp, e5]
        go_simp
      · exact fun e => absurd e (by decide)
      · exact fun e => absurd e (by decide)
      · -- 10: Op.load 29 (Operand.tmp 24)
        intro _ _ x_ y_ a' w' hk hd hT
        have e24 : a'.eval (.tmp 24) = .pointer (some ⟨E, 3, none⟩) := hd 9 24 (by decide +kernel)
        obtain ⟨_, _, hB, _⟩ := hT
        have cc := hB.cell (j := 3) rfl
        clear hd hk
        simp only [execOp, e24]
        go_simp
      · exact fun e => absurd e (by decide)
      · exact fun e => absurd e (by decide)
      · exact fun e e' => absurd rfl e'
      · exact fun e => absurd e (by decide)
      · -- 11: Op.call ( callee := Callee.value (Operand.func 26), args := 
        intro _ a' w' hk hd hT
        have e21 : a'.eval (.tmp 21) = .pointer (some ⟨R, 0, none⟩) := hd 6 21 (by decide +kernel)
        have e23 : a'.eval (.tmp 23) = .int .i64 p.a := hd 8 23 (by decide +kernel)
        have e25 : a'.eval (.tmp 25) = .slice ab p.B.length cb := hd 10 25 (by decide +kernel)
        refine wp_call_at 26 _ _ (run_enter 26 _ _ rfl (by kernel_rfl)) ?_
        simp only [List.map_toArray, List.map_nil, List.map_cons, e21, e23, e25]
        obtain ⟨c1, hT, hB, hE⟩ := hT
        refine (rWrite_any hT.r hT.sea.norm p.a HA.out.wa _ p.B (HA.out.b.kept hT.sea.below) (hT.sea.cool HA.out.b) hb4).mono ?_
        rintro e w2 ⟨rfl, c2, hI, hs⟩
        exact ⟨rfl, c2, hT.stepR hs hI, blk_step hs (by decide) hB hE⟩
      · -- 12: Op.binOp BinOp.eql 3 (Operand.tmp 20) (Operand.tmp 26) 3
        intro _ _ x_ y_ a' w' hk hd hT
        have e20 : a'.eval (.tmp 20) = .int .i64 ((Pd.write md p.a p.B).1 : Int) := hd 5 20 (by decide +kernel)
        have e26 : a'.eval (.tmp 26) = .int .i64 ((Pd.write md p.a p.B).1 : Int) := hd 11 26 (by decide +kernel)
        clear hd hk
        simp only [execOp, e20, e26]
        go_simp
      · exact fun e => absurd e (by decide)
      · exact fun e => absurd e (by decide)
      · -- 13: Op.assign (Operand.tmp 27)
        intro _ _ x_ y_ a' w' hk hd hT
        have e27 : a'.eval (.tmp 27) = .bool true := hd 12 27 (by decide +kernel)
        simp only [execOp, e27]
        rfl
      · exact fun e => absurd e (by decide)
      · exact fun e => absurd e (by decide)
    · intro a' w' hsz hdf hk hall hT
      have e6 : a'.eval (.tmp 6) = .bool true := hall 13 _ 6 rfl rfl
      have HT : Hid (Stg w0 D R n md (Pd.write md p.a p.B).2 E (AC p (.slice ab p.B.length cb) (.slice ak p.keep.length ck)) true true w') := hT
      rw [act_lit a' 105 hsz, hdf]
      simp only [List.range, List.range.loop, List.map_cons, List.map_nil, e6]
      clear hall hk hsz hdf hT
      go_wp2
      go_ret
      obtain ⟨c', hT', _⟩ := HT.out
      exact ⟨rfl, c', _, hT'⟩
  by_cases k1 : p.kind = 1
  · rw [k1] at c0
    obtain ⟨lw, HLW⟩ : ∃ l, Hid ((Pd.read md p.a p.n).1 = l) := ⟨_, rfl⟩
    obtain ⟨ew, HEW⟩ : ∃ l, Hid ((Pd.read md p.a p.n).2 = l) := ⟨_, rfl⟩
    go_wp2_with fail
    refine (dRead_any T1.out.d p.a p.n HA.out.wa).mono ?_
    rw [HLW.out, HEW.out]
    rintro e w2 ⟨v2, rfl, r2, -, b2⟩
    have T2 : Hid (Two w0 w2 c D R n md md) := T1.out.kept b2
    have R2 : Hid (Rd w2 v2 lw) := r2
    have E2 := E1.out.kept b2
    have d1 := E2.cell (j := 1) rfl
    have d2 := E2.cell (j := 2) rfl
    clear r2 b2 E2 c0 c1 c2 c3 c4 E1 CE
    go_wp2_with fail
    refine (rRead_any T2.out.r p.a p.n HA.out.wa HA.out.wn).mono ?_
    rw [HLW.out, HEW.out]
    rintro e w3 ⟨v3, rfl, r3, b3⟩
    have T3 : Hid (Two w0 w3 c D R n md md) := T2.out.kept b3
    have k1 := (R2.out.kept b3).conv (P := Try.prog) 29 9 Try.underlying29 Try.underlying5 Try.underlying9
    have k2 := r3.conv (P := Try.prog) 29 9 Try.underlying29 Try.underlying5 Try.underlying9
    clear r3 b3 d1 d2 T1 T2 R2
    go_wp2
    go_ret
    exact ⟨rfl, c, _, T3.out⟩
  by_cases k2 : p.kind = 2
  · rw [k2] at c0
    go_wp2_with fail
    refine (dSync_any T1.out.d T1.out.sea.norm).mono ?_
    rintro e w2 ⟨rfl, c2', hI, hs⟩
    have T2 : Hid (Two w0 w2 c2' D R n (Pd.sync md).2 md) := T1.out.stepD hs hI
    clear hI hs c0 c1 c2 c3 c4 E1 CE
    obtain ⟨ew, HEW⟩ : ∃ l, Hid ((Pd.sync md).1 = l) := ⟨_, rfl⟩
    rw [HEW.out]
    go_wp2_with fail
    refine (rSync_any T2.out.r T2.out.sea.norm).mono ?_
    rw [HEW.out]
    rintro e w3 ⟨rfl, c3', hI, hs⟩
    have T3 : Hid (Two w0 w3 c3' D R n (Pd.sync md).2 (Pd.sync md).2) := T2.out.stepR hs hI
    clear hI hs T1 T2
    go_wp2
    go_ret
    exact ⟨rfl, c3', _, T3.out⟩
  by_cases k3 : p.kind = 3
  · rw [k3] at c0
    go_wp2_with fail
    refine (dArm_any T1.out.d p.n HA.out.wn _ p.keep p.a (HA.out.k.kept T1.out.sea.below) HA.out.ws hk4 (T1.out.sea.coolN HA.out.k)).mono ?_
    rintro e w2 ⟨rfl, c2', hI, hs⟩
    have T2 : Hid (Two w0 w2 c2' D R n (Pd.arm md p.n p.keep p.a) md) := T1.out.stepD hs hI
    have E2 := (blk_step hs (by decide) E1.out CE.out).1
    have d1 := E2.cell (j := 1) rfl
    have d2 := E2.cell (j := 2) rfl
    have d4 := E2.cell (j := 4) rfl
    clear hI hs c0 c1 c2 c3 c4 E1 CE E2
    go_wp2_with fail
    refine (rArm_any T2.out.r p.n HA.out.wn _ p.keep p.a (HA.out.k.kept T2.out.sea.below) HA.out.ws hk4).mono ?_
    rintro e w3 ⟨rfl, c3', hI, hs⟩
    have T3 : Hid (Two w0 w3 c3' D R n (Pd.arm md p.n p.keep p.a) (Pd.arm md p.n p.keep p.a)) := T2.out.stepR hs hI
    clear hI hs T1 T2 d1 d2 d4
    go_wp2
    go_ret
    exact ⟨rfl, c3', _, T3.out⟩
  by_cases k4 : p.kind = 4
  · rw [k4] at c0
    go_upto_region 14 with fail
    refine wp_region_two Try.mixed (fun i_ => match i_ with | 0 => .pointer (some ⟨D, 0, none⟩) | 1 | 7 => .pointer (some ⟨E, 4, none⟩) | 2 | 8 => .slice ak p.keep.length ck | 3 | 9 => .pointer (some ⟨E, 2, none⟩) | 4 | 10 => .int .i64 p.n | 5 | 11 => .bool (Pd.crashed md p.keep p.n).1 | 6 => .pointer (some ⟨R, 0, none⟩) | 12 | 13 => .bool true | _ => undef) (Stg w0 D R n md (Pd.crashed md p.keep p.n).2 E (AC p (.slice ab p.B.length cb) (.slice ak p.keep.length ck))) 5 11 13 105 rfl (by decide +kernel) (by decide +kernel) (by decide +kernel) (by decide) ?_ ?_ ?_ (by decide) (by decide)
    · exact fun w' hh hg => ⟨c, T1.out.kept hg, E1.out.kept hg, CE.out⟩
    · refine AllFrom.cons ⟨rfl, ?_, ?_, ?_⟩ (AllFrom.cons ⟨rfl, ?_, ?_, ?_⟩ (AllFrom.cons ⟨rfl, ?_, ?_, ?_⟩ (AllFrom.cons ⟨rfl, ?_, ?_, ?_⟩ (AllFrom.cons ⟨rfl, ?_, ?_, ?_⟩ (AllFrom.cons ⟨rfl, ?_, ?_, ?_⟩ (AllFrom.cons ⟨rfl, ?_, ?_, ?_⟩ (AllFrom.cons ⟨rfl, ?_, ?_, ?_⟩ (AllFrom.cons ⟨rfl, ?_, ?_, ?_⟩ (AllFrom.cons ⟨rfl, ?_, ?_, ?_⟩ (AllFrom.cons ⟨rfl, ?_, ?_, ?_⟩ (AllFrom.cons ⟨rfl, ?_, ?_, ?_⟩ (AllFrom.cons ⟨rfl, ?_, ?_, ?_⟩ (AllFrom.cons ⟨rfl, ?_, ?_, ?_⟩ AllFrom.nil)))))))))))))
      · -- 0: Op.move (Operand.tmp 0)
        intro _ _ x_ y_ a' w' hk hd hT
        have e0 : a'.eval (.tmp 0) = .pointer (some ⟨D, 0, none⟩) := hk 0 (by decide +kernel)
        simp only [execOp, e0]
        rfl
      · exact fun e => absurd e (by decide)
      · exact fun e => absurd e (by decide)
      · -- 1: Op.fieldAddr 32 (Operand.tmp 5) 4
        intro _ _ x_ y_ a' w' hk hd hT
        have e5 : a'.eval (.tmp 5) = .pointer (some ⟨E, 0, none⟩) := hk 5 (by decide +kernel)
        clear hd hk
        simp only [execOp, e5]
        go_simp
      · exact fun e => absurd e (by decide)
      · exact fun e => absurd e (by decide)
      · -- 2: Op.load 30 (Operand.tmp 86)
        intro _ _ x_ y_ a' w' hk hd hT
        have e86 : a'.eval (.tmp 86) = .pointer (some ⟨E, 4, none⟩) := hd 1 86 (by decide +kernel)
        obtain ⟨_, _, hB, _⟩ := hT
        have cc := hB.cell (j := 4) rfl
        clear hd hk
        simp only [execOp, e86]
        go_simp
      · exact fun e => absurd e (by decide)
      · exact fun e => absurd e (by decide)
      · -- 3: Op.fieldAddr 32 (Operand.tmp 5) 2
        intro _ _ x_ y_ a' w' hk hd hT
        have e5 : a'.eval (.tmp 5) = .pointer (some ⟨E, 0, none⟩) := hk 5 (by decide +kernel)
        clear hd hk
        simp only [execOp, e5]
        go_simp
      · exact fun e => absurd e (by decide)
      · exact fun e => absurd e (by decide)
      · -- 4: Op.load 3 (Operand.tmp 88)
        intro _ _ x_ y_ a' w' hk hd hT
        have e88 : a'.eval (.tmp 88) = .pointer (some ⟨E, 2, none⟩) := hd 3 88 (by decide +kernel)
        obtain ⟨_, _, hB, _⟩ := hT
        have cc := hB.cell (j := 2) rfl
        clear hd hk
        simp only [execOp, e88]
        go_simp
      · exact fun e => absurd e (by decide)
      · exact fun e => absurd e (by decide)
      · exact fun e e' => absurd rfl e
      · -- 5: Op.call ( callee := Callee.value (Operand.func 21), args := 
        intro _ a' w' hk hd hT
        have e85 : a'.eval (.tmp 85) = .pointer (some ⟨D, 0, none⟩) := hd 0 85 (by decide +kernel)
        have e87 : a'.eval (.tmp 87) = .slice ak p.keep.length ck := hd 2 87 (by decide +kernel)
        have e89 : a'.eval (.tmp 89) = .int .i64 p.n := hd 4 89 (by decide +kernel)
        refine wp_call_at 21 _ _ (run_enter 21 _ _ rfl (by kernel_rfl)) ?_
        simp only [List.map_toArray, List.map_nil, List.map_cons, e85, e87, e89]
        obtain ⟨c1, hT, hB, hE⟩ := hT
        refine (dCrash_any hT.d hT.sea.norm _ p.keep p.n (HA.out.k.kept hT.sea.below) HA.out.ws (hT.sea.coolN HA.out.k)).mono ?_
        rintro e w2 ⟨rfl, c2, hI, hs⟩
        exact ⟨rfl, c2, hT.stepD hs hI, blk_step hs (by decide) hB hE⟩
      · exact fun e => absurd e (by decide)
      · -- 6: Op.move (Operand.tmp 1)
        intro _ _ x_ y_ a' w' hk hd hT
        have e1 : a'.eval (.tmp 1) = .pointer (some ⟨R, 0, none⟩) := hk 1 (by decide +kernel)
        simp only [execOp, e1]
        rfl
      · exact fun e => absurd e (by decide)
      · exact fun e => absurd e (by decide)
      · -- 7: Op.fieldAddr 32 (Operand.tmp 5) 4
        intro _ _ x_ y_ a' w' hk hd hT
        have e5 : a'.eval (.tmp 5) = .pointer (some ⟨E, 0, none⟩) := hk 5 (by decide +kernel)
        clear hd hk
        simp only [execOp, e5]
        go_simp
      · exact fun e => absurd e (by decide)
      · exact fun e => absurd e (by decide)
      · -- 8: Op.load 30 (Operand.tmp 92)
        intro _ _ x_ y_ a' w' hk hd hT
        have e92 : a'.eval (.tmp 92) = .pointer (some ⟨E, 4, none⟩) := hd 7 92 (by decide +kernel)
        obtain ⟨_, _, hB, _⟩ := hT
        have cc := hB.cell (j := 4) rfl
        clear hd hk
        simp only [execOp, e92]
        go_simp
      · exact fun e => absurd e (by decide)
      · exact fun e => absurd e (by decide)
      · -- 9: Op.fieldAddr 32 (Operand.tmp 5) 2
        intro _ _ x_ y_ a' w' hk hd hT
        have e5 : a'.eval (.tmp 5) = .pointer (some ⟨E, 0, none⟩) := hk 5 (by decide +kernel)
        clear hd hk
        simp only [execOp, e5]
        go_simp
      · exact fun e => absurd e (by decide)
      · exact fun e => absurd e (by decide)
      · -- 10: Op.load 3 (Operand.tmp 94)
        intro _ _ x_ y_ a' w' hk hd hT
        have e94 : a'.eval (.tmp 94) = .pointer (some ⟨E, 2, none⟩) := hd 9 94 (by decide +kernel)
        obtain ⟨_, _, hB, _⟩ := hT
        have cc := hB.cell (j := 2) rfl
        clear hd hk
        simp only [execOp, e94]
        go_simp
      · exact fun e => absurd e (by decide)
      · exact fun e => absurd e (by decide)
      · exact fun e e' => absurd rfl e'
      · exact fun e => absurd e (by decide)
      · -- 11: Op.call ( callee := Callee.value (Operand.func 30), args := 
        intro _ a' w' hk hd hT
        have e91 : a'.eval (.tmp 91) = .pointer (some ⟨R, 0, none⟩) := hd 6 91 (by decide +kernel)
        have e93 : a'.eval (.tmp 93) = .slice ak p.keep.length ck := hd 8 93 (by decide +kernel)
        have e95 : a'.eval (.tmp 95) = .int .i64 p.n := hd 10 95 (by decide +kernel)
        refine wp_call_at 30 _ _ (run_enter 30 _ _ rfl (by kernel_rfl)) ?_
        simp only [List.map_toArray, List.map_nil, List.map_cons, e91, e93, e95]
        obtain ⟨c1, hT, hB, hE⟩ := hT
        refine (rCrash_any hT.r hT.sea.norm _ p.keep p.n (HA.out.k.kept hT.sea.below) (hT.sea.coolN HA.out.k)).mono ?_
        rintro e w2 ⟨rfl, c2, hI, hs⟩
        exact ⟨rfl, c2, hT.stepR hs hI, blk_step hs (by decide) hB hE⟩
      · -- 12: Op.binOp BinOp.eql 4 (Operand.tmp 90) (Operand.tmp 96) 4
        intro _ _ x_ y_ a' w' hk hd hT
        have e90 : a'.eval (.tmp 90) = .bool (Pd.crashed md p.keep p.n).1 := hd 5 90 (by decide +kernel)
        have e96 : a'.eval (.tmp 96) = .bool (Pd.crashed md p.keep p.n).1 := hd 11 96 (by decide +kernel)
        clear hd hk
        simp only [execOp, e90, e96]
        go_simp
      · exact fun e => absurd e (by decide)
      · exact fun e => absurd e (by decide)
      · -- 13: Op.assign (Operand.tmp 97)
        intro _ _ x_ y_ a' w' hk hd hT
        have e97 : a'.eval (.tmp 97) = .bool true := hd 12 97 (by decide +kernel)
        simp only [execOp, e97]
        rfl
      · exact fun e => absurd e (by decide)
      · exact fun e => absurd e (by decide)
    · intro a' w' hsz hdf hk hall hT
      have e6 : a'.eval (.tmp 6) = .bool true := hall 13 _ 6 rfl rfl
      have HT : Hid (Stg w0 D R n md (Pd.crashed md p.keep p.n).2 E (AC p (.slice ab p.B.length cb) (.slice ak p.keep.length ck)) true true w') := hT
      rw [act_lit a' 105 hsz, hdf]
      simp only [List.range, List.range.loop, List.map_cons, List.map_nil, e6]
      clear hall hk hsz hdf hT
      go_wp2
      go_ret
      obtain ⟨c', hT', _⟩ := HT.out
      exact ⟨rfl, c', _, hT'⟩
  by_cases k5 : p.kind = 5
  · rw [k5] at c0
    go_wp2_with fail
    refine (dStart_any T1.out.d T1.out.sea.norm).mono ?_
    rintro e w2 ⟨rfl, hI, hs⟩
    have T2 : Hid (Two w0 w2 c D R n (Pd.start md).2 md) := T1.out.stepD hs hI
    clear hI hs c0 c1 c2 c3 c4 E1 CE
    obtain ⟨ew, HEW⟩ : ∃ l, Hid ((Pd.start md).1 = l) := ⟨_, rfl⟩
    rw [HEW.out]
    go_wp2_with fail
    refine (rStart_any T2.out.r T2.out.sea.norm).mono ?_
    rw [HEW.out]
    rintro e w3 ⟨rfl, hI, hs⟩
    have T3 : Hid (Two w0 w3 c D R n (Pd.start md).2 (Pd.start md).2) := T2.out.stepR hs hI
    clear hI hs T1 T2
    go_wp2
    go_ret
    exact ⟨rfl, c, _, T3.out⟩
  · have n0 : decide (p.kind = 0) = false := by simp [k0]
    have n1 : decide (p.kind = 1) = false := by simp [k1]
    have n2 : decide (p.kind = 2) = false := by simp [k2]
    have n3 : decide (p.kind = 3) = false := by simp [k3]
    have n4 : decide (p.kind = 4) = false := by simp [k4]
    have n5 : decide (p.kind = 5) = false := by simp [k5]
    go_wp2
    go_ret
    exact ⟨rfl, c, _, T1.out⟩
end
end Go.Proofs.Ytnkcjhfdmnpckaa
