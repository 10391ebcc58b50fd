/-
  indenturelaw02.SumFrames: the walk: the call returns true and makes new memory alone.
-/
import Derived.Test.YtmopfipkbjfhoaaDoorOpen2
namespace Go.Proofs.YtmopfipkbjfhoaaDoor
open Go.RowKit

theorem own_conv {w : World} {B : Nat} {v : Value} {l : List UInt8} {t : ByteArray} (h : Own w B v l) (ht : t = ⟨l.toArray⟩) : (convert 22 9 v).run Tryd.prog w = .ok (.string t) w := by
  subst ht
  exact h.rd.conv (P := Tryd.prog) 22 9 Tryd.underlying22 Tryd.underlying5 Tryd.underlying9

set_option maxRecDepth 100000 in
set_option maxHeartbeats 1000000 in
theorem sumFrames_any (v : Value) (l : List UInt8) (w : World) (hT : Tab w) (hr : Rd w v l) :
    Calls Tryd.prog 4 #[v] w fun e w' => e = .returned (.bool true) ∧ Below w.heap.size w w' := by
  have hr0 := hr
  obtain ⟨a, cap, rfl, -⟩ := hr
  by_cases h1 : 8192 < l.length
  · have h1' : (8192 : Int) < l.length := by omega
    have h2' : (3000 : Int) < l.length := by omega
    go_enter Tryd.func4, Tryd.ntmps4
    go_wp2_with fail
    refine (frame_big _ l w hr0 h1).mono ?_
    rintro e w1 ⟨rfl, hw1⟩
    subst hw1
    go_wp2_with fail
    refine (lives_any _ hT).mono ?_
    rintro e w2 ⟨rfl, hb2⟩
    go_wp2_with fail
    go_ret
    exact ⟨rfl, hb2⟩
  have h1' : ¬ (8192 : Int) < l.length := by omega
  by_cases h2 : 3000 < l.length
  · have h2' : (3000 : Int) < l.length := by omega
    go_enter Tryd.func4, Tryd.ntmps4
    go_wp2_with fail
    refine (lives_any w hT).mono ?_
    rintro e w1 ⟨rfl, hb1⟩
    go_wp2_with fail
    go_ret
    exact ⟨rfl, hb1⟩
  have h2' : ¬ (3000 : Int) < l.length := by omega
  go_enter Tryd.func4, Tryd.ntmps4
  go_wp2_with fail
  refine (open_any _ l w hT hr0 (by omega)).mono ?_
  rintro e w1 ⟨vx, rfl, hx1, hb1⟩
  have hr1 := hr0.kept hb1
  go_wp2_with fail
  refine (refOpen_any _ l w1 hr1 (by omega)).mono ?_
  rintro e w2 ⟨vy, rfl, hvy, hb2⟩
  have hbw : Below w.heap.size w w2 := hb1.trans (hb2.mono hb1.size)
  have hr2 := hr0.kept hbw
  have hT2 := hT.kept hbw
  have hvx := hx1.kept hb2
  generalize (opn l).1 = O at *
  generalize (opn l).2.1 = X at *
  generalize (opn l).2.2 = q at *
  clear hb1 hb2 hr1 hx1 hr0
  go_wp2_with fail
  refine wp_region_inv Tryd.mixed (SV (fun i => match i with
      | 0 | 3 => .slice a l.length cap
      | 2 | 5 => .string ⟨(framed l).toArray⟩
      | 8 => vx
      | 9 | 11 => .string ⟨O.toArray⟩
      | 10 => vy
      | 15 | 16 => .int .i64 (X : Int)
      | 20 | 21 => .bool q
      | _ => .bool true) (fun i => match i with
      | 1 | 4 => some (framed l)
      | _ => none)) 67 rfl (by decide +kernel) (SV_mono _ _) ?_ ?_
  · refine AllFrom.cons (fun a' w' hg hk hd => ?_) (AllFrom.cons (fun a' w' hg hk hd => ?_) (AllFrom.cons (fun a' w' hg hk hd => ?_) (AllFrom.cons (fun a' w' hg hk hd => ?_) (AllFrom.cons (fun a' w' hg hk hd => ?_) (AllFrom.cons (fun a' w' hg hk hd => ?_) (AllFrom.cons (fun a' w' hg hk hd => ?_) (AllFrom.cons (fun a' w' hg hk hd => ?_) (AllFrom.cons (fun a' w' hg hk hd => ?_) (AllFrom.cons (fun a' w' hg hk hd => ?_) (AllFrom.cons (fun a' w' hg hk hd => ?_) (AllFrom.cons (fun a' w' hg hk hd => ?_) (AllFrom.cons (fun a' w' hg hk hd => ?_) (AllFrom.cons (fun a' w' hg hk hd => ?_) (AllFrom.cons (fun a' w' hg hk hd => ?_) (AllFrom.cons (fun a' w' hg hk hd => ?_) (AllFrom.cons (fun a' w' hg hk hd => ?_) (AllFrom.cons (fun a' w' hg hk hd => ?_) (AllFrom.cons (fun a' w' hg hk hd => ?_) (AllFrom.cons (fun a' w' hg hk hd => ?_) (AllFrom.cons (fun a' w' hg hk hd => ?_) (AllFrom.cons (fun a' w' hg hk hd => ?_) (AllFrom.cons (fun a' w' hg hk hd => ?_) (AllFrom.cons (fun a' w' hg hk hd => ?_) (AllFrom.cons (fun a' w' hg hk hd => ?_) (AllFrom.cons (fun a' w' hg hk hd => ?_) (AllFrom.cons (fun a' w' hg hk hd => ?_) (AllFrom.cons (fun a' w' hg hk hd => ?_) AllFrom.nil)))))))))))))))))))))))))))
    · -- 0: Op.move (Operand.tmp 0)
      intro Q
      have e0 := hk.at 0 (by decide +kernel)
      exact wp_value _ (by simp only [execOp, e0]; rfl) (SV_mk rfl rfl)
    · -- 1: Op.call ( callee := Callee.value (Operand.func 16), args := 
      intro Q
      have xe40 := SV_val (hd.val 0 40 (by decide +kernel)) rfl
      have e40 : a'.eval (.tmp 40) = .slice a l.length cap := xe40
      refine wp_call 16 _ (run_enter 16 _ _ rfl (by kernel_rfl)) ?_
      simp only [List.map_toArray, List.map_nil, List.map_cons, e40]
      refine (frame_any _ l _ (hT2.kept hg) (hr2.kept hg) (by omega)).mono ?_
      rintro e w5 ⟨v5, rfl, ho5, hb5⟩
      exact ⟨v5, rfl, SV_mko rfl _ ho5, hb5⟩
    · -- 2: Op.convert 22 9 (Operand.tmp 41)
      intro Q
      obtain ⟨B1, e41⟩ := SV_own (hd.val 1 41 (by decide +kernel)) rfl
      exact wp_value _ (by simp [execOp, own_conv e41 rfl]) (SV_mk rfl rfl)
    · -- 3: Op.move (Operand.tmp 0)
      intro Q
      have e0 := hk.at 0 (by decide +kernel)
      exact wp_value _ (by simp only [execOp, e0]; rfl) (SV_mk rfl rfl)
    · -- 4: Op.call ( callee := Callee.value (Operand.func 19), args := 
      intro Q
      have xe43 := SV_val (hd.val 3 43 (by decide +kernel)) rfl
      have e43 : a'.eval (.tmp 43) = .slice a l.length cap := xe43
      refine wp_call 19 _ (run_enter 19 _ _ rfl (by kernel_rfl)) ?_
      simp only [List.map_toArray, List.map_nil, List.map_cons, e43]
      refine (refFrame_any _ l _ (hr2.kept hg) (by omega)).mono ?_
      rintro e w5 ⟨v5, rfl, ho5, hb5⟩
      exact ⟨v5, rfl, SV_mko rfl _ ho5, hb5⟩
    · -- 5: Op.convert 22 9 (Operand.tmp 44)
      intro Q
      obtain ⟨B4, e44⟩ := SV_own (hd.val 4 44 (by decide +kernel)) rfl
      exact wp_value _ (by simp [execOp, own_conv e44 rfl]) (SV_mk rfl rfl)
    · -- 6: Op.binOp BinOp.eql 9 (Operand.tmp 42) (Operand.tmp 45) 9
      intro Q
      have xe42 := SV_val (hd.val 2 42 (by decide +kernel)) rfl
      have e42 : a'.eval (.tmp 42) = .string ⟨(framed l).toArray⟩ := xe42
      have xe45 := SV_val (hd.val 5 45 (by decide +kernel)) rfl
      have e45 : a'.eval (.tmp 45) = .string ⟨(framed l).toArray⟩ := xe45
      clear hd hk xe42 xe45
      exact wp_value (.bool true) (by simp only [execOp, e42, e45]; go_simp) (SV_mk rfl rfl)
    · -- 7: Op.move (Operand.tmp 46)
      intro Q
      have xe46 := SV_val (hd.val 6 46 (by decide +kernel)) rfl
      have e46 : a'.eval (.tmp 46) = .bool true := xe46
      exact wp_value _ (by simp only [execOp, e46]; rfl) (SV_mk rfl rfl)
    · -- 8: Op.move (Operand.tmp 3)
      have eg : a'.eval (.tmp 47) = .bool true := SV_val (hd.val 7 47 (by decide +kernel)) rfl
      refine ⟨47, true, rfl, eg, fun _ Q => ?_, fun h => absurd rfl h⟩
      have e3 := hk.at 3 (by decide +kernel)
      exact wp_value _ (by simp only [execOp, e3]; rfl) (SV_mk rfl rfl)
    · -- 9: Op.convert 22 9 (Operand.tmp 48)
      have eg : a'.eval (.tmp 47) = .bool true := SV_val (hd.val 7 47 (by decide +kernel)) rfl
      refine ⟨47, true, rfl, eg, fun _ Q => ?_, fun h => absurd rfl h⟩
      have xe48 := SV_val (hd.val 8 48 (by decide +kernel)) rfl
      have e48 : a'.eval (.tmp 48) = vx := xe48
      have cv := (hvx.kept hg).conv (P := Tryd.prog) 22 9 Tryd.underlying22 Tryd.underlying5 Tryd.underlying9
      clear hd hk
      exact wp_value _ (by simp [execOp, e48, cv]) (SV_mk rfl rfl)
    · -- 10: Op.move (Operand.tmp 6)
      have eg : a'.eval (.tmp 47) = .bool true := SV_val (hd.val 7 47 (by decide +kernel)) rfl
      refine ⟨47, true, rfl, eg, fun _ Q => ?_, fun h => absurd rfl h⟩
      have e6 := hk.at 6 (by decide +kernel)
      exact wp_value _ (by simp only [execOp, e6]; rfl) (SV_mk rfl rfl)
    · -- 11: Op.convert 22 9 (Operand.tmp 50)
      have eg : a'.eval (.tmp 47) = .bool true := SV_val (hd.val 7 47 (by decide +kernel)) rfl
      refine ⟨47, true, rfl, eg, fun _ Q => ?_, fun h => absurd rfl h⟩
      have xe50 := SV_val (hd.val 10 50 (by decide +kernel)) rfl
      have e50 : a'.eval (.tmp 50) = vy := xe50
      have cv := (hvy.kept hg).conv (P := Tryd.prog) 22 9 Tryd.underlying22 Tryd.underlying5 Tryd.underlying9
      clear hd hk
      exact wp_value _ (by simp [execOp, e50, cv]) (SV_mk rfl rfl)
    · -- 12: Op.binOp BinOp.eql 9 (Operand.tmp 49) (Operand.tmp 51) 9
      have eg : a'.eval (.tmp 47) = .bool true := SV_val (hd.val 7 47 (by decide +kernel)) rfl
      refine ⟨47, true, rfl, eg, fun _ Q => ?_, fun h => absurd rfl h⟩
      have xe49 := SV_val (hd.val 9 49 (by decide +kernel)) rfl
      have e49 : a'.eval (.tmp 49) = .string ⟨O.toArray⟩ := xe49
      have xe51 := SV_val (hd.val 11 51 (by decide +kernel)) rfl
      have e51 : a'.eval (.tmp 51) = .string ⟨O.toArray⟩ := xe51
      clear hd hk xe49 xe51
      exact wp_value (.bool true) (by simp only [execOp, e49, e51]; go_simp) (SV_mk rfl rfl)
    · -- 13: Op.pick (Operand.tmp 47) (Operand.tmp 52) (Operand.const (Va
      intro Q
      have xe47 := SV_val (hd.val 7 47 (by decide +kernel)) rfl
      have e47 : a'.eval (.tmp 47) = .bool true := xe47
      have xe52 := SV_val (hd.val 12 52 (by decide +kernel)) rfl
      have e52 : a'.eval (.tmp 52) = .bool true := xe52
      clear hd hk xe47 xe52
      exact wp_value (.bool true) (by simp only [execOp, e47, e52]; go_simp) (SV_mk rfl rfl)
    · -- 14: Op.move (Operand.tmp 53)
      intro Q
      have xe53 := SV_val (hd.val 13 53 (by decide +kernel)) rfl
      have e53 : a'.eval (.tmp 53) = .bool true := xe53
      exact wp_value _ (by simp only [execOp, e53]; rfl) (SV_mk rfl rfl)
    · -- 15: Op.move (Operand.tmp 4)
      have eg : a'.eval (.tmp 54) = .bool true := SV_val (hd.val 14 54 (by decide +kernel)) rfl
      refine ⟨54, true, rfl, eg, fun _ Q => ?_, fun h => absurd rfl h⟩
      have e4 := hk.at 4 (by decide +kernel)
      exact wp_value _ (by simp only [execOp, e4]; rfl) (SV_mk rfl rfl)
    · -- 16: Op.move (Operand.tmp 7)
      have eg : a'.eval (.tmp 54) = .bool true := SV_val (hd.val 14 54 (by decide +kernel)) rfl
      refine ⟨54, true, rfl, eg, fun _ Q => ?_, fun h => absurd rfl h⟩
      have e7 := hk.at 7 (by decide +kernel)
      exact wp_value _ (by simp only [execOp, e7]; rfl) (SV_mk rfl rfl)
    · -- 17: Op.binOp BinOp.eql 3 (Operand.tmp 55) (Operand.tmp 56) 3
      have eg : a'.eval (.tmp 54) = .bool true := SV_val (hd.val 14 54 (by decide +kernel)) rfl
      refine ⟨54, true, rfl, eg, fun _ Q => ?_, fun h => absurd rfl h⟩
      have xe55 := SV_val (hd.val 15 55 (by decide +kernel)) rfl
      have e55 : a'.eval (.tmp 55) = .int .i64 (X : Int) := xe55
      have xe56 := SV_val (hd.val 16 56 (by decide +kernel)) rfl
      have e56 : a'.eval (.tmp 56) = .int .i64 (X : Int) := xe56
      clear hd hk xe55 xe56
      exact wp_value (.bool true) (by simp only [execOp, e55, e56]; go_simp) (SV_mk rfl rfl)
    · -- 18: Op.pick (Operand.tmp 54) (Operand.tmp 57) (Operand.const (Va
      intro Q
      have xe54 := SV_val (hd.val 14 54 (by decide +kernel)) rfl
      have e54 : a'.eval (.tmp 54) = .bool true := xe54
      have xe57 := SV_val (hd.val 17 57 (by decide +kernel)) rfl
      have e57 : a'.eval (.tmp 57) = .bool true := xe57
      clear hd hk xe54 xe57
      exact wp_value (.bool true) (by simp only [execOp, e54, e57]; go_simp) (SV_mk rfl rfl)
    · -- 19: Op.move (Operand.tmp 58)
      intro Q
      have xe58 := SV_val (hd.val 18 58 (by decide +kernel)) rfl
      have e58 : a'.eval (.tmp 58) = .bool true := xe58
      exact wp_value _ (by simp only [execOp, e58]; rfl) (SV_mk rfl rfl)
    · -- 20: Op.move (Operand.tmp 5)
      have eg : a'.eval (.tmp 59) = .bool true := SV_val (hd.val 19 59 (by decide +kernel)) rfl
      refine ⟨59, true, rfl, eg, fun _ Q => ?_, fun h => absurd rfl h⟩
      have e5 := hk.at 5 (by decide +kernel)
      exact wp_value _ (by simp only [execOp, e5]; rfl) (SV_mk rfl rfl)
    · -- 21: Op.move (Operand.tmp 8)
      have eg : a'.eval (.tmp 59) = .bool true := SV_val (hd.val 19 59 (by decide +kernel)) rfl
      refine ⟨59, true, rfl, eg, fun _ Q => ?_, fun h => absurd rfl h⟩
      have e8 := hk.at 8 (by decide +kernel)
      exact wp_value _ (by simp only [execOp, e8]; rfl) (SV_mk rfl rfl)
    · -- 22: Op.binOp BinOp.eql 4 (Operand.tmp 60) (Operand.tmp 61) 4
      have eg : a'.eval (.tmp 59) = .bool true := SV_val (hd.val 19 59 (by decide +kernel)) rfl
      refine ⟨59, true, rfl, eg, fun _ Q => ?_, fun h => absurd rfl h⟩
      have xe60 := SV_val (hd.val 20 60 (by decide +kernel)) rfl
      have e60 : a'.eval (.tmp 60) = .bool q := xe60
      have xe61 := SV_val (hd.val 21 61 (by decide +kernel)) rfl
      have e61 : a'.eval (.tmp 61) = .bool q := xe61
      clear hd hk xe60 xe61
      exact wp_value (.bool true) (by simp only [execOp, e60, e61]; go_simp) (SV_mk rfl rfl)
    · -- 23: Op.pick (Operand.tmp 59) (Operand.tmp 62) (Operand.const (Va
      intro Q
      have xe59 := SV_val (hd.val 19 59 (by decide +kernel)) rfl
      have e59 : a'.eval (.tmp 59) = .bool true := xe59
      have xe62 := SV_val (hd.val 22 62 (by decide +kernel)) rfl
      have e62 : a'.eval (.tmp 62) = .bool true := xe62
      clear hd hk xe59 xe62
      exact wp_value (.bool true) (by simp only [execOp, e59, e62]; go_simp) (SV_mk rfl rfl)
    · -- 24: Op.move (Operand.tmp 63)
      intro Q
      have xe63 := SV_val (hd.val 23 63 (by decide +kernel)) rfl
      have e63 : a'.eval (.tmp 63) = .bool true := xe63
      exact wp_value _ (by simp only [execOp, e63]; rfl) (SV_mk rfl rfl)
    · -- 25: Op.call ( callee := Callee.value (Operand.func 9), args := #
      have eg : a'.eval (.tmp 64) = .bool true := SV_val (hd.val 24 64 (by decide +kernel)) rfl
      refine ⟨64, true, rfl, eg, fun _ Q => ?_, fun h => absurd rfl h⟩
      refine wp_call 9 _ (run_enter 9 _ _ rfl (by kernel_rfl)) ?_
      simp only [List.map_toArray, List.map_nil]
      refine (lives_any _ (hT2.kept hg)).mono ?_
      rintro e w5 ⟨rfl, hb5⟩
      exact ⟨_, rfl, SV_mk rfl rfl, hb5⟩
    · -- 26: Op.pick (Operand.tmp 64) (Operand.tmp 65) (Operand.const (Va
      intro Q
      have xe64 := SV_val (hd.val 24 64 (by decide +kernel)) rfl
      have e64 : a'.eval (.tmp 64) = .bool true := xe64
      have xe65 := SV_val (hd.val 25 65 (by decide +kernel)) rfl
      have e65 : a'.eval (.tmp 65) = .bool true := xe65
      clear hd hk xe64 xe65
      exact wp_value (.bool true) (by simp only [execOp, e64, e65]; go_simp) (SV_mk rfl rfl)
    · -- 27: Op.assign (Operand.tmp 66)
      intro Q
      have xe66 := SV_val (hd.val 26 66 (by decide +kernel)) rfl
      have e66 : a'.eval (.tmp 66) = .bool true := xe66
      exact wp_value _ (by simp only [execOp, e66]; rfl) (SV_mk rfl rfl)
  · intro a' w' hsz hdf hk hS hg
    have e2 : a'.eval (.tmp 2) = .bool true := SV_val (hS 27 _ 2 rfl rfl) rfl
    go_wp2
    exact bodyPost_ret (results_tmp Tryd.results4 _ _ _) hdf ⟨congrArg Ending.returned e2, hbw.trans (Below.mono hg hbw.size)⟩
#print axioms sumFrames_any
end Go.Proofs.YtmopfipkbjfhoaaDoor
