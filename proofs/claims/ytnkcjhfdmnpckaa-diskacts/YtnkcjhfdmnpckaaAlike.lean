/-
  indenturelaw05.alike: what the call does.
-/
import Derived.Test.YtnkcjhfdmnpckaaTwo
namespace Go.Proofs.Ytnkcjhfdmnpckaa
open Go.RowKit
open Pd (DM)
section
variable {w0 w : World} {c : Nat → Nat} {D R n : Nat} {md : DM}
set_option maxHeartbeats 8000000 in
set_option maxRecDepth 100000 in
theorem alike_any (h : Two w0 w c D R n md md) :
    Calls Try.prog 14 #[.pointer (some ⟨D, 0, none⟩), .pointer (some ⟨R, 0, none⟩)] w fun e w' => e = .returned (.bool true) ∧ Two w0 w' c D R n md md := by
  have T1 : Hid (Two w0 w c D R n md md) := h
  obtain ⟨vn, vs, vd, vk, hA, hO, hn, -⟩ := h.r
  obtain ⟨L, HL⟩ : ∃ L, Hid (32 * n = L) := ⟨_, rfl⟩
  have hLl : L ≤ 131072 := by have := HL.out; have := hn.2.2; omega
  have hsl : md.now.length = L := hO.now.trans HL.out
  obtain ⟨gn, cpn, hvn, hcn⟩ := Own.some hA.now (by have := HL.out; have := hn.2.1; omega)
  rw [hsl] at hvn hcn
  subst hvn
  obtain ⟨ad, cd, hvd, -⟩ := hA.dirty.rd
  obtain ⟨kd, HKD⟩ : ∃ kd, Hid ((Nats md.dirty).length = kd) := ⟨_, rfl⟩
  rw [HKD.out] at hvd
  subst hvd
  obtain ⟨of, HOF⟩ : ∃ b, Hid (md.off = b) := ⟨_, rfl⟩
  have HB : Hid (Blk w R 60 (RC (.slice (some ⟨gn, 0, none⟩) L cpn) vs (.slice ad kd cd) of (md.armed : Int) vk md.torn)) := (show Blk _ _ _ _ by rw [← HOF.out]; exact hA.blk)
  have HRD : Hid (RdN w (.slice ad kd cd) (Nats md.dirty)) := hA.dirty.rd
  obtain ⟨lw, HLW⟩ : ∃ l, Hid ((Pd.read md 0 (L : Int)).1 = l) := ⟨_, rfl⟩
  obtain ⟨ew, HEW⟩ : ∃ l, Hid ((Pd.read md 0 (L : Int)).2 = l) := ⟨_, rfl⟩
  have HLw : Hid ((Lit.int .i64 (L : Int)).wf = true) := (show _ = _ from WalkArith.wf_i64 (by omega))
  clear h hA hO hn hsl
  go_enter Try.func14, Try.ntmps14
  go_wp2_with fail
  refine (dSize_any T1.out.d).mono ?_
  rw [HL.out]
  rintro e w1 ⟨rfl, hw⟩
  subst hw
  go_wp2_with fail
  refine (dRead_any T1.out.d 0 (L : Int) (by decide)).mono ?_
  rw [HLW.out, HEW.out]
  rintro e w2 ⟨v2, rfl, r2, -, b2⟩
  have T2 : Hid (Two w0 w2 c D R n md md) := T1.out.kept b2
  have R2' : Hid (Rd w2 v2 lw) := r2
  have B2 : Hid (Blk w2 R 60 (RC (.slice (some ⟨gn, 0, none⟩) L cpn) vs (.slice ad kd cd) of (md.armed : Int) vk md.torn)) := HB.out.kept b2
  have D2 : Hid (RdN w2 (.slice ad kd cd) (Nats md.dirty)) := HRD.out.kept b2
  have c0 := B2.out.cell (j := 0) rfl
  clear r2 b2 HB HRD T1
  go_wp2_with fail
  refine (rRead_any T2.out.r 0 (L : Int) (by decide) HLw.out).mono ?_
  rw [HLW.out, HEW.out]
  rintro e w3 ⟨v3, rfl, r3, b3⟩
  have T3 : Hid (Two w0 w3 c D R n md md) := T2.out.kept b3
  have R2 : Hid (Rd w3 v2 lw) := R2'.out.kept b3
  have R3 : Hid (Rd w3 v3 lw) := r3
  have B1 : Hid (Blk w3 R 60 (RC (.slice (some ⟨gn, 0, none⟩) L cpn) vs (.slice ad kd cd) of (md.armed : Int) vk md.torn)) := B2.out.kept b3
  have RDk : Hid (RdN w3 (.slice ad kd cd) (Nats md.dirty)) := D2.out.kept b3
  clear r3 b3 R2' B2 D2 T2 c0
  go_upto_region 3 with fail
  refine wp_region_inv Try.mixed (KS (fun i_ => match i_ with | 0 | 2 => .rd (lw) | 1 | 3 => .val (.string ⟨lw.toArray⟩) | 4 | 5 | 8 | 9 | 10 | 18 | 19 | 20 | 28 | 29 | 30 | 37 | 38 | 39 => .val (.bool true) | 6 | 7 => .val (.int .i64 (ew : Int)) | 11 | 21 | 31 => .val (.pointer (some ⟨D, 0, none⟩)) | 12 | 17 => .val (.int .i64 (L : Int)) | 13 | 14 | 15 | 23 | 24 | 33 | 34 => .val (.pointer (some ⟨R, 0, none⟩)) | 16 => .val (.slice (some ⟨gn, 0, none⟩) L cpn) | 22 | 27 => .val (.bool (!of)) | 25 => .val (.pointer (some ⟨R, 3, none⟩)) | 26 => .val (.bool of) | 32 => .of (fun w v => RdN w v (Nats md.dirty)) (fun _ _ _ hg h => RdN.kept h hg) | 35 => .val (.pointer (some ⟨R, 2, none⟩)) | 36 => .val (.slice ad kd cd) | _ => .free)) 65 rfl (by decide +kernel) (KS_mono _) ?_ ?_
  · refine AllFrom.cons (fun a' w' hg hk hd => ?_) (AllFrom.cons (fun a' w' hg hk hd => ?_) (AllFrom.cons (fun a' w' hg hk hd => ?_) (AllFrom.cons (fun a' w' hg hk hd => ?_) (AllFrom.cons (fun a' w' hg hk hd => ?_) (AllFrom.cons (fun a' w' hg hk hd => ?_) (AllFrom.cons (fun a' w' hg hk hd => ?_) (AllFrom.cons (fun a' w' hg hk hd => ?_) (AllFrom.cons (fun a' w' hg hk hd => ?_) (AllFrom.cons (fun a' w' hg hk hd => ?_) (AllFrom.cons (fun a' w' hg hk hd => ?_) (AllFrom.cons (fun a' w' hg hk hd => ?_) (AllFrom.cons (fun a' w' hg hk hd => ?_) (AllFrom.cons (fun a' w' hg hk hd => ?_) (AllFrom.cons (fun a' w' hg hk hd => ?_) (AllFrom.cons (fun a' w' hg hk hd => ?_) (AllFrom.cons (fun a' w' hg hk hd => ?_) (AllFrom.cons (fun a' w' hg hk hd => ?_) (AllFrom.cons (fun a' w' hg hk hd => ?_) (AllFrom.cons (fun a' w' hg hk hd => ?_) (AllFrom.cons (fun a' w' hg hk hd => ?_) (AllFrom.cons (fun a' w' hg hk hd => ?_) (AllFrom.cons (fun a' w' hg hk hd => ?_) (AllFrom.cons (fun a' w' hg hk hd => ?_) (AllFrom.cons (fun a' w' hg hk hd => ?_) (AllFrom.cons (fun a' w' hg hk hd => ?_) (AllFrom.cons (fun a' w' hg hk hd => ?_) (AllFrom.cons (fun a' w' hg hk hd => ?_) (AllFrom.cons (fun a' w' hg hk hd => ?_) (AllFrom.cons (fun a' w' hg hk hd => ?_) (AllFrom.cons (fun a' w' hg hk hd => ?_) (AllFrom.cons (fun a' w' hg hk hd => ?_) (AllFrom.cons (fun a' w' hg hk hd => ?_) (AllFrom.cons (fun a' w' hg hk hd => ?_) (AllFrom.cons (fun a' w' hg hk hd => ?_) (AllFrom.cons (fun a' w' hg hk hd => ?_) (AllFrom.cons (fun a' w' hg hk hd => ?_) (AllFrom.cons (fun a' w' hg hk hd => ?_) (AllFrom.cons (fun a' w' hg hk hd => ?_) (AllFrom.cons (fun a' w' hg hk hd => ?_) AllFrom.nil)))))))))))))))))))))))))))))))))))))))
    · -- 0: Op.move (Operand.tmp 5)
      intro Q
      have r5 : Rd w' (a'.eval (.tmp 5)) (lw) := by rw [hk.at 5 (by decide +kernel)]; exact Rd.kept (R2.out) hg
      exact wp_value (a'.eval (.tmp 5)) (by simp only [execOp]; rfl) (KS_mkr rfl r5)
    · -- 1: Op.convert 29 9 (Operand.tmp 26)
      intro Q
      have r26 : Rd w' (a'.eval (.tmp 26)) (lw) := KS_rd (hd.val 0 26 (by decide +kernel)) rfl
      exact wp_value _ (by simp only [execOp, r26.conv (P := Try.prog) 29 9 Try.underlying29 Try.underlying5 Try.underlying9, Sem.run_bind, Result.andThen_ok]; rfl) (KS_mkv rfl rfl)
    · -- 2: Op.move (Operand.tmp 7)
      intro Q
      have r7 : Rd w' (a'.eval (.tmp 7)) (lw) := by rw [hk.at 7 (by decide +kernel)]; exact Rd.kept (R3.out) hg
      exact wp_value (a'.eval (.tmp 7)) (by simp only [execOp]; rfl) (KS_mkr rfl r7)
    · -- 3: Op.convert 29 9 (Operand.tmp 28)
      intro Q
      have r28 : Rd w' (a'.eval (.tmp 28)) (lw) := KS_rd (hd.val 2 28 (by decide +kernel)) rfl
      exact wp_value _ (by simp only [execOp, r28.conv (P := Try.prog) 29 9 Try.underlying29 Try.underlying5 Try.underlying9, Sem.run_bind, Result.andThen_ok]; rfl) (KS_mkv rfl rfl)
    · -- 4: Op.binOp BinOp.eql 9 (Operand.tmp 27) (Operand.tmp 29) 9
      intro Q
      have e27 : a'.eval (.tmp 27) = .string ⟨lw.toArray⟩ := KS_val (hd.val 1 27 (by decide +kernel)) rfl
      have e29 : a'.eval (.tmp 29) = .string ⟨lw.toArray⟩ := KS_val (hd.val 3 29 (by decide +kernel)) rfl
      clear hd hk
      exact wp_value (.bool true) (by simp only [execOp, e27, e29]; go_simp) (KS_mkv rfl rfl)
    · -- 5: Op.move (Operand.tmp 30)
      intro Q
      have e30 : a'.eval (.tmp 30) = .bool true := KS_val (hd.val 4 30 (by decide +kernel)) rfl
      exact wp_value _ (by simp only [execOp, e30]; rfl) (KS_mkv rfl rfl)
    · -- 6: Op.move (Operand.tmp 6)
      have eg : a'.eval (.tmp 31) = .bool true := KS_val (hd.val 5 31 (by decide +kernel)) rfl
      refine ⟨31, true, rfl, eg, fun _ Q => ?_, fun h => absurd rfl h⟩
      have e6 : a'.eval (.tmp 6) = .int .i64 (ew : Int) := hk.at 6 (by decide +kernel)
      exact wp_value _ (by simp only [execOp, e6]; rfl) (KS_mkv rfl rfl)
    · -- 7: Op.move (Operand.tmp 8)
      have eg : a'.eval (.tmp 31) = .bool true := KS_val (hd.val 5 31 (by decide +kernel)) rfl
      refine ⟨31, true, rfl, eg, fun _ Q => ?_, fun h => absurd rfl h⟩
      have e8 : a'.eval (.tmp 8) = .int .i64 (ew : Int) := hk.at 8 (by decide +kernel)
      exact wp_value _ (by simp only [execOp, e8]; rfl) (KS_mkv rfl rfl)
    · -- 8: Op.binOp BinOp.eql 3 (Operand.tmp 32) (Operand.tmp 33) 3
      have eg : a'.eval (.tmp 31) = .bool true := KS_val (hd.val 5 31 (by decide +kernel)) rfl
      refine ⟨31, true, rfl, eg, fun _ Q => ?_, fun h => absurd rfl h⟩
      have e32 : a'.eval (.tmp 32) = .int .i64 (ew : Int) := KS_val (hd.val 6 32 (by decide +kernel)) rfl
      have e33 : a'.eval (.tmp 33) = .int .i64 (ew : Int) := KS_val (hd.val 7 33 (by decide +kernel)) rfl
      clear hd hk
      exact wp_value (.bool true) (by simp only [execOp, e32, e33]; go_simp) (KS_mkv rfl rfl)
    · -- 9: Op.pick (Operand.tmp 31) (Operand.tmp 34) (Operand.const (Value.bool f
      intro Q
      have e31 : a'.eval (.tmp 31) = .bool true := KS_val (hd.val 5 31 (by decide +kernel)) rfl
      have e34 : a'.eval (.tmp 34) = .bool true := KS_val (hd.val 8 34 (by decide +kernel)) rfl
      clear hd hk
      exact wp_value (.bool true) (by simp only [execOp, e31, e34]; go_simp) (KS_mkv rfl rfl)
    · -- 10: Op.move (Operand.tmp 35)
      intro Q
      have e35 : a'.eval (.tmp 35) = .bool true := KS_val (hd.val 9 35 (by decide +kernel)) rfl
      exact wp_value _ (by simp only [execOp, e35]; rfl) (KS_mkv rfl rfl)
    · -- 11: Op.move (Operand.tmp 0)
      have eg : a'.eval (.tmp 36) = .bool true := KS_val (hd.val 10 36 (by decide +kernel)) rfl
      refine ⟨36, true, rfl, eg, fun _ Q => ?_, fun h => absurd rfl h⟩
      have e0 : a'.eval (.tmp 0) = .pointer (some ⟨D, 0, none⟩) := hk.at 0 (by decide +kernel)
      exact wp_value _ (by simp only [execOp, e0]; rfl) (KS_mkv rfl rfl)
    · -- 12: Op.call ( callee := Callee.value (Operand.func 19), args := #[Operand.
      have eg : a'.eval (.tmp 36) = .bool true := KS_val (hd.val 10 36 (by decide +kernel)) rfl
      refine ⟨36, true, rfl, eg, fun _ Q => ?_, fun h => absurd rfl h⟩
      have e37 : a'.eval (.tmp 37) = .pointer (some ⟨D, 0, none⟩) := KS_val (hd.val 11 37 (by decide +kernel)) rfl
      refine wp_call 19 _ (run_enter 19 _ _ rfl (by kernel_rfl)) ?_
      simp only [List.map_toArray, List.map_nil, List.map_cons, e37]
      refine (dSize_any (T3.out.kept hg).d).mono ?_
      rw [HL.out]
      rintro e w5 ⟨rfl, hw⟩
      subst hw
      exact ⟨_, rfl, KS_mkv rfl rfl, Gr.refl _⟩
    · -- 13: Op.move (Operand.tmp 1)
      have eg : a'.eval (.tmp 36) = .bool true := KS_val (hd.val 10 36 (by decide +kernel)) rfl
      refine ⟨36, true, rfl, eg, fun _ Q => ?_, fun h => absurd rfl h⟩
      have e1 : a'.eval (.tmp 1) = .pointer (some ⟨R, 0, none⟩) := hk.at 1 (by decide +kernel)
      exact wp_value _ (by simp only [execOp, e1]; rfl) (KS_mkv rfl rfl)
    · -- 14: Op.nilCheck (Operand.tmp 39)
      have eg : a'.eval (.tmp 36) = .bool true := KS_val (hd.val 10 36 (by decide +kernel)) rfl
      refine ⟨36, true, rfl, eg, fun _ Q => ?_, fun h => absurd rfl h⟩
      have e39 : a'.eval (.tmp 39) = .pointer (some ⟨R, 0, none⟩) := KS_val (hd.val 13 39 (by decide +kernel)) rfl
      clear hd hk
      exact wp_value (.pointer (some ⟨R, 0, none⟩)) (by simp only [execOp, e39]; go_simp) (KS_mkv rfl rfl)
    · -- 15: Op.fieldAddr 60 (Operand.tmp 40) 0
      have eg : a'.eval (.tmp 36) = .bool true := KS_val (hd.val 10 36 (by decide +kernel)) rfl
      refine ⟨36, true, rfl, eg, fun _ Q => ?_, fun h => absurd rfl h⟩
      have e40 : a'.eval (.tmp 40) = .pointer (some ⟨R, 0, none⟩) := KS_val (hd.val 14 40 (by decide +kernel)) rfl
      clear hd hk
      exact wp_value (.pointer (some ⟨R, 0, none⟩)) (by simp only [execOp, e40]; go_simp) (KS_mkv rfl rfl)
    · -- 16: Op.load 29 (Operand.tmp 41)
      have eg : a'.eval (.tmp 36) = .bool true := KS_val (hd.val 10 36 (by decide +kernel)) rfl
      refine ⟨36, true, rfl, eg, fun _ Q => ?_, fun h => absurd rfl h⟩
      have e41 : a'.eval (.tmp 41) = .pointer (some ⟨R, 0, none⟩) := KS_val (hd.val 15 41 (by decide +kernel)) rfl
      have cc := (B1.out.kept hg).cell (j := 0) rfl
      clear hd hk
      exact wp_value (.slice (some ⟨gn, 0, none⟩) L cpn) (by simp only [execOp, e41]; go_simp) (KS_mkv rfl rfl)
    · -- 17: Op.call ( callee := Callee.builtin Builtin.len, args := #[Operand.tmp 
      have eg : a'.eval (.tmp 36) = .bool true := KS_val (hd.val 10 36 (by decide +kernel)) rfl
      refine ⟨36, true, rfl, eg, fun _ Q => ?_, fun h => absurd rfl h⟩
      have e42 : a'.eval (.tmp 42) = .slice (some ⟨gn, 0, none⟩) L cpn := KS_val (hd.val 16 42 (by decide +kernel)) rfl
      clear hd hk
      exact wp_value (.int .i64 (L : Int)) (by simp only [execOp, resolve, invoke, builtin, Sem.run_bind, Sem.run_pure, Result.andThen_ok, List.map_toArray, List.map_cons, List.map_nil, e42]; go_simp) (KS_mkv rfl rfl)
    · -- 18: Op.binOp BinOp.eql 3 (Operand.tmp 38) (Operand.tmp 43) 3
      have eg : a'.eval (.tmp 36) = .bool true := KS_val (hd.val 10 36 (by decide +kernel)) rfl
      refine ⟨36, true, rfl, eg, fun _ Q => ?_, fun h => absurd rfl h⟩
      have e38 : a'.eval (.tmp 38) = .int .i64 (L : Int) := KS_val (hd.val 12 38 (by decide +kernel)) rfl
      have e43 : a'.eval (.tmp 43) = .int .i64 (L : Int) := KS_val (hd.val 17 43 (by decide +kernel)) rfl
      clear hd hk
      exact wp_value (.bool true) (by simp only [execOp, e38, e43]; go_simp) (KS_mkv rfl rfl)
    · -- 19: Op.pick (Operand.tmp 36) (Operand.tmp 44) (Operand.const (Value.bool f
      intro Q
      have e36 : a'.eval (.tmp 36) = .bool true := KS_val (hd.val 10 36 (by decide +kernel)) rfl
      have e44 : a'.eval (.tmp 44) = .bool true := KS_val (hd.val 18 44 (by decide +kernel)) rfl
      clear hd hk
      exact wp_value (.bool true) (by simp only [execOp, e36, e44]; go_simp) (KS_mkv rfl rfl)
    · -- 20: Op.move (Operand.tmp 45)
      intro Q
      have e45 : a'.eval (.tmp 45) = .bool true := KS_val (hd.val 19 45 (by decide +kernel)) rfl
      exact wp_value _ (by simp only [execOp, e45]; rfl) (KS_mkv rfl rfl)
    · -- 21: Op.move (Operand.tmp 0)
      have eg : a'.eval (.tmp 46) = .bool true := KS_val (hd.val 20 46 (by decide +kernel)) rfl
      refine ⟨46, true, rfl, eg, fun _ Q => ?_, fun h => absurd rfl h⟩
      have e0 : a'.eval (.tmp 0) = .pointer (some ⟨D, 0, none⟩) := hk.at 0 (by decide +kernel)
      exact wp_value _ (by simp only [execOp, e0]; rfl) (KS_mkv rfl rfl)
    · -- 22: Op.call ( callee := Callee.value (Operand.func 25), args := #[Operand.
      have eg : a'.eval (.tmp 46) = .bool true := KS_val (hd.val 20 46 (by decide +kernel)) rfl
      refine ⟨46, true, rfl, eg, fun _ Q => ?_, fun h => absurd rfl h⟩
      have e47 : a'.eval (.tmp 47) = .pointer (some ⟨D, 0, none⟩) := KS_val (hd.val 21 47 (by decide +kernel)) rfl
      refine wp_call 25 _ (run_enter 25 _ _ rfl (by kernel_rfl)) ?_
      simp only [List.map_toArray, List.map_nil, List.map_cons, e47]
      refine (dOn_any (T3.out.kept hg).d).mono ?_
      rw [HOF.out]
      rintro e w5 ⟨rfl, hw⟩
      subst hw
      exact ⟨_, rfl, KS_mkv rfl rfl, Gr.refl _⟩
    · -- 23: Op.move (Operand.tmp 1)
      have eg : a'.eval (.tmp 46) = .bool true := KS_val (hd.val 20 46 (by decide +kernel)) rfl
      refine ⟨46, true, rfl, eg, fun _ Q => ?_, fun h => absurd rfl h⟩
      have e1 : a'.eval (.tmp 1) = .pointer (some ⟨R, 0, none⟩) := hk.at 1 (by decide +kernel)
      exact wp_value _ (by simp only [execOp, e1]; rfl) (KS_mkv rfl rfl)
    · -- 24: Op.nilCheck (Operand.tmp 49)
      have eg : a'.eval (.tmp 46) = .bool true := KS_val (hd.val 20 46 (by decide +kernel)) rfl
      refine ⟨46, true, rfl, eg, fun _ Q => ?_, fun h => absurd rfl h⟩
      have e49 : a'.eval (.tmp 49) = .pointer (some ⟨R, 0, none⟩) := KS_val (hd.val 23 49 (by decide +kernel)) rfl
      clear hd hk
      exact wp_value (.pointer (some ⟨R, 0, none⟩)) (by simp only [execOp, e49]; go_simp) (KS_mkv rfl rfl)
    · -- 25: Op.fieldAddr 60 (Operand.tmp 50) 3
      have eg : a'.eval (.tmp 46) = .bool true := KS_val (hd.val 20 46 (by decide +kernel)) rfl
      refine ⟨46, true, rfl, eg, fun _ Q => ?_, fun h => absurd rfl h⟩
      have e50 : a'.eval (.tmp 50) = .pointer (some ⟨R, 0, none⟩) := KS_val (hd.val 24 50 (by decide +kernel)) rfl
      clear hd hk
      exact wp_value (.pointer (some ⟨R, 3, none⟩)) (by simp only [execOp, e50]; go_simp) (KS_mkv rfl rfl)
    · -- 26: Op.load 4 (Operand.tmp 51)
      have eg : a'.eval (.tmp 46) = .bool true := KS_val (hd.val 20 46 (by decide +kernel)) rfl
      refine ⟨46, true, rfl, eg, fun _ Q => ?_, fun h => absurd rfl h⟩
      have e51 : a'.eval (.tmp 51) = .pointer (some ⟨R, 3, none⟩) := KS_val (hd.val 25 51 (by decide +kernel)) rfl
      have cc := (B1.out.kept hg).cell (j := 3) rfl
      clear hd hk
      exact wp_value (.bool of) (by simp only [execOp, e51]; go_simp) (KS_mkv rfl rfl)
    · -- 27: Op.unOp UnOp.not 4 (Operand.tmp 52)
      have eg : a'.eval (.tmp 46) = .bool true := KS_val (hd.val 20 46 (by decide +kernel)) rfl
      refine ⟨46, true, rfl, eg, fun _ Q => ?_, fun h => absurd rfl h⟩
      have e52 : a'.eval (.tmp 52) = .bool of := KS_val (hd.val 26 52 (by decide +kernel)) rfl
      clear hd hk
      exact wp_value (.bool (!of)) (by simp only [execOp, e52]; go_simp) (KS_mkv rfl rfl)
    · -- 28: Op.binOp BinOp.eql 4 (Operand.tmp 48) (Operand.tmp 53) 4
      have eg : a'.eval (.tmp 46) = .bool true := KS_val (hd.val 20 46 (by decide +kernel)) rfl
      refine ⟨46, true, rfl, eg, fun _ Q => ?_, fun h => absurd rfl h⟩
      have e48 : a'.eval (.tmp 48) = .bool (!of) := KS_val (hd.val 22 48 (by decide +kernel)) rfl
      have e53 : a'.eval (.tmp 53) = .bool (!of) := KS_val (hd.val 27 53 (by decide +kernel)) rfl
      clear hd hk
      exact wp_value (.bool true) (by simp only [execOp, e48, e53]; go_simp) (KS_mkv rfl rfl)
    · -- 29: Op.pick (Operand.tmp 46) (Operand.tmp 54) (Operand.const (Value.bool f
      intro Q
      have e46 : a'.eval (.tmp 46) = .bool true := KS_val (hd.val 20 46 (by decide +kernel)) rfl
      have e54 : a'.eval (.tmp 54) = .bool true := KS_val (hd.val 28 54 (by decide +kernel)) rfl
      clear hd hk
      exact wp_value (.bool true) (by simp only [execOp, e46, e54]; go_simp) (KS_mkv rfl rfl)
    · -- 30: Op.move (Operand.tmp 55)
      intro Q
      have e55 : a'.eval (.tmp 55) = .bool true := KS_val (hd.val 29 55 (by decide +kernel)) rfl
      exact wp_value _ (by simp only [execOp, e55]; rfl) (KS_mkv rfl rfl)
    · -- 31: Op.move (Operand.tmp 0)
      have eg : a'.eval (.tmp 56) = .bool true := KS_val (hd.val 30 56 (by decide +kernel)) rfl
      refine ⟨56, true, rfl, eg, fun _ Q => ?_, fun h => absurd rfl h⟩
      have e0 : a'.eval (.tmp 0) = .pointer (some ⟨D, 0, none⟩) := hk.at 0 (by decide +kernel)
      exact wp_value _ (by simp only [execOp, e0]; rfl) (KS_mkv rfl rfl)
    · -- 32: Op.call ( callee := Callee.value (Operand.func 17), args := #[Operand.
      have eg : a'.eval (.tmp 56) = .bool true := KS_val (hd.val 30 56 (by decide +kernel)) rfl
      refine ⟨56, true, rfl, eg, fun _ Q => ?_, fun h => absurd rfl h⟩
      have e57 : a'.eval (.tmp 57) = .pointer (some ⟨D, 0, none⟩) := KS_val (hd.val 31 57 (by decide +kernel)) rfl
      refine wp_call 17 _ (run_enter 17 _ _ rfl (by kernel_rfl)) ?_
      simp only [List.map_toArray, List.map_nil, List.map_cons, e57]
      refine (dDirty_any (T3.out.kept hg).d).mono ?_
      rintro e w5 ⟨v5, rfl, r5, -, b5⟩
      exact ⟨v5, rfl, KS_mko rfl r5, b5⟩
    · -- 33: Op.move (Operand.tmp 1)
      have eg : a'.eval (.tmp 56) = .bool true := KS_val (hd.val 30 56 (by decide +kernel)) rfl
      refine ⟨56, true, rfl, eg, fun _ Q => ?_, fun h => absurd rfl h⟩
      have e1 : a'.eval (.tmp 1) = .pointer (some ⟨R, 0, none⟩) := hk.at 1 (by decide +kernel)
      exact wp_value _ (by simp only [execOp, e1]; rfl) (KS_mkv rfl rfl)
    · -- 34: Op.nilCheck (Operand.tmp 59)
      have eg : a'.eval (.tmp 56) = .bool true := KS_val (hd.val 30 56 (by decide +kernel)) rfl
      refine ⟨56, true, rfl, eg, fun _ Q => ?_, fun h => absurd rfl h⟩
      have e59 : a'.eval (.tmp 59) = .pointer (some ⟨R, 0, none⟩) := KS_val (hd.val 33 59 (by decide +kernel)) rfl
      clear hd hk
      exact wp_value (.pointer (some ⟨R, 0, none⟩)) (by simp only [execOp, e59]; go_simp) (KS_mkv rfl rfl)
    · -- 35: Op.fieldAddr 60 (Operand.tmp 60) 2
      have eg : a'.eval (.tmp 56) = .bool true := KS_val (hd.val 30 56 (by decide +kernel)) rfl
      refine ⟨56, true, rfl, eg, fun _ Q => ?_, fun h => absurd rfl h⟩
      have e60 : a'.eval (.tmp 60) = .pointer (some ⟨R, 0, none⟩) := KS_val (hd.val 34 60 (by decide +kernel)) rfl
      clear hd hk
      exact wp_value (.pointer (some ⟨R, 2, none⟩)) (by simp only [execOp, e60]; go_simp) (KS_mkv rfl rfl)
    · -- 36: Op.load 30 (Operand.tmp 61)
      have eg : a'.eval (.tmp 56) = .bool true := KS_val (hd.val 30 56 (by decide +kernel)) rfl
      refine ⟨56, true, rfl, eg, fun _ Q => ?_, fun h => absurd rfl h⟩
      have e61 : a'.eval (.tmp 61) = .pointer (some ⟨R, 2, none⟩) := KS_val (hd.val 35 61 (by decide +kernel)) rfl
      have cc := (B1.out.kept hg).cell (j := 2) rfl
      clear hd hk
      exact wp_value (.slice ad kd cd) (by simp only [execOp, e61]; go_simp) (KS_mkv rfl rfl)
    · -- 37: Op.call ( callee := Callee.value (Operand.func 23), args := #[Operand.
      have eg : a'.eval (.tmp 56) = .bool true := KS_val (hd.val 30 56 (by decide +kernel)) rfl
      refine ⟨56, true, rfl, eg, fun _ Q => ?_, fun h => absurd rfl h⟩
      have r58 := KS_of (hd.val 32 58 (by decide +kernel)) rfl
      have e62 : a'.eval (.tmp 62) = .slice ad kd cd := KS_val (hd.val 36 62 (by decide +kernel)) rfl
      refine wp_call 23 _ (run_enter 23 _ _ rfl (by kernel_rfl)) ?_
      simp only [List.map_toArray, List.map_nil, List.map_cons, e62]
      refine (ints_any r58 (RDk.out.kept hg)).mono ?_
      rw [decide_eq_true (rfl : Nats md.dirty = Nats md.dirty)]
      rintro e w5 ⟨rfl, b5⟩
      exact ⟨_, rfl, KS_mkv rfl rfl, b5⟩
    · -- 38: Op.pick (Operand.tmp 56) (Operand.tmp 63) (Operand.const (Value.bool f
      intro Q
      have e56 : a'.eval (.tmp 56) = .bool true := KS_val (hd.val 30 56 (by decide +kernel)) rfl
      have e63 : a'.eval (.tmp 63) = .bool true := KS_val (hd.val 37 63 (by decide +kernel)) rfl
      clear hd hk
      exact wp_value (.bool true) (by simp only [execOp, e56, e63]; go_simp) (KS_mkv rfl rfl)
    · -- 39: Op.assign (Operand.tmp 64)
      intro Q
      have e64 : a'.eval (.tmp 64) = .bool true := KS_val (hd.val 38 64 (by decide +kernel)) rfl
      exact wp_value _ (by simp only [execOp, e64]; rfl) (KS_mkv rfl rfl)
  · intro a' w' hsz hdf hk hall hg
    have e4 : a'.eval (.tmp 4) = .bool true := KS_val (hall 39 _ 4 rfl rfl) rfl
    have T4 : Hid (Two w0 w' c D R n md md) := T3.out.kept hg
    rw [act_lit a' 65 hsz, hdf]
    simp only [List.range, List.range.loop, List.map_cons, List.map_nil, e4]
    clear hall hk hsz hdf hg
    go_wp2
    go_ret
    exact ⟨rfl, T4.out⟩
end
end Go.Proofs.Ytnkcjhfdmnpckaa
