/-
  indenturelaw01.PackTexts: the walk: the call returns true and makes new memory alone.
-/
import Derived.Test.YtcfakmjkbgcbhaaLives
import Derived.Test.YtcfakmjkbgcbhaaRegion
import Derived.Test.YtcfakmjkbgcbhaaStr
import Derived.Test.YtcfakmjkbgcbhaaMixed
namespace Go.Proofs.Ytcfakmjkbgcbhaa
open Go.RowKit

set_option maxRecDepth 100000 in
set_option maxHeartbeats 2000000 in
theorem packTexts_core (v : Value) (l : List UInt8) (s : ByteArray) (m : Int) (w : World) (hr : Rd w v l) (hlb : l.length ≤ 140737488351232) (hs : s.size ≤ 140737488351232) (hm : (Lit.int .i64 m).wf = true) :
    Calls Try.prog 4 #[v, .string s, .int .i64 m] w fun e w' => e = .returned (.bool true) ∧ Below w.heap.size w w' := by
  have hr0 := hr
  obtain ⟨a, cap, rfl, h1, h2, -⟩ := hr
  have hs' : (s.size : Int) ≤ 140737488351232 := by omega
  have hlb' : (l.length : Int) ≤ 140737488351232 := by omega
  by_cases hl : 4000 < l.length + s.size
  · have hl' : (4000 : Int) < l.length + s.size := by omega
    go_enter Try.func4, Try.ntmps4
    go_wp2_with fail
    refine (lives_any _).mono ?_
    rintro e w1 ⟨rfl, hb1⟩
    go_wp2_with fail
    go_ret
    exact ⟨rfl, hb1⟩
  · have hl' : ¬ (4000 : Int) < l.length + s.size := by omega
    have hl2 : ¬ (4000 : Int) < l.length := by omega
    go_enter Try.func4, Try.ntmps4
    go_wp2_with fail
    refine (getStr_any _ l m _ hr0 (by omega) hm).mono ?_
    rintro e w1 ⟨rfl, hb1⟩
    have hr1 := hr0.kept hb1
    clear hr0
    go_wp2_with fail
    refine (refGetStr_any _ l m _ hr1 (by omega) hm).mono ?_
    rintro e w2 ⟨rfl, hb2⟩
    have hr2 := hr1.kept hb2
    have hbw : Below w.heap.size w w2 := hb1.trans (hb2.mono hb1.size)
    clear hr1 hb1 hb2
    generalize (gs l m.toNat).1 = X at *
    generalize (gs l m.toNat).2.1 = Y at *
    generalize (gs l m.toNat).2.2 = Z at *
    go_wp2_with fail
    refine (getFlag_any _ l _ hr2).mono ?_
    rintro e w3 ⟨rfl, rfl⟩
    go_wp2_with fail
    refine (refGetFlag_any _ l _ hr2).mono ?_
    rintro e w4 ⟨rfl, rfl⟩
    generalize (gf l).1 = F at *
    generalize (gf l).2.1 = I at *
    generalize (gf l).2.2 = J at *
    go_wp2_with fail
    refine wp_region_inv Try.mixed (SV (fun i => match i with
        | 0 | 4 | 40 | 45 => .slice a l.length cap
        | 1 | 5 => .string s
        | 3 | 7 => .string ⟨(l ++ encS (sl s)).toArray⟩
        | 10 | 11 => .string ⟨X.toArray⟩
        | 15 | 16 => .int .i64 Y
        | 20 | 21 => .bool Z
        | 25 | 26 => .bool F
        | 30 | 31 => .int .i64 I
        | 35 | 36 => .bool J
        | 41 | 46 => .int .i64 m
        | 42 | 47 => .bool (decide (0 < m))
        | 44 | 49 => .string ⟨(l ++ [if decide (0 < m) = true then 1 else 0]).toArray⟩
        | _ => .bool true) (fun i => match i with
        | 2 | 6 => some (l ++ encS (sl s))
        | 43 | 48 => some (l ++ [if decide (0 < m) = true then 1 else 0])
        | _ => none)) 112 rfl (by decide +kernel) (SV_mono _ _) ?_ ?_
    · refine AllFrom.cons (fun a' w' hg hk hd => ?_) (AllFrom.cons (fun a' w' hg hk hd => ?_) (AllFrom.cons (fun a' w' hg hk hd => ?_) (AllFrom.cons (fun a' w' hg hk hd => ?_) (AllFrom.cons (fun a' w' hg hk hd => ?_) (AllFrom.cons (fun a' w' hg hk hd => ?_) (AllFrom.cons (fun a' w' hg hk hd => ?_) (AllFrom.cons (fun a' w' hg hk hd => ?_) (AllFrom.cons (fun a' w' hg hk hd => ?_) (AllFrom.cons (fun a' w' hg hk hd => ?_) (AllFrom.cons (fun a' w' hg hk hd => ?_) (AllFrom.cons (fun a' w' hg hk hd => ?_) (AllFrom.cons (fun a' w' hg hk hd => ?_) (AllFrom.cons (fun a' w' hg hk hd => ?_) (AllFrom.cons (fun a' w' hg hk hd => ?_) (AllFrom.cons (fun a' w' hg hk hd => ?_) (AllFrom.cons (fun a' w' hg hk hd => ?_) (AllFrom.cons (fun a' w' hg hk hd => ?_) (AllFrom.cons (fun a' w' hg hk hd => ?_) (AllFrom.cons (fun a' w' hg hk hd => ?_) (AllFrom.cons (fun a' w' hg hk hd => ?_) (AllFrom.cons (fun a' w' hg hk hd => ?_) (AllFrom.cons (fun a' w' hg hk hd => ?_) (AllFrom.cons (fun a' w' hg hk hd => ?_) (AllFrom.cons (fun a' w' hg hk hd => ?_) (AllFrom.cons (fun a' w' hg hk hd => ?_) (AllFrom.cons (fun a' w' hg hk hd => ?_) (AllFrom.cons (fun a' w' hg hk hd => ?_) (AllFrom.cons (fun a' w' hg hk hd => ?_) (AllFrom.cons (fun a' w' hg hk hd => ?_) (AllFrom.cons (fun a' w' hg hk hd => ?_) (AllFrom.cons (fun a' w' hg hk hd => ?_) (AllFrom.cons (fun a' w' hg hk hd => ?_) (AllFrom.cons (fun a' w' hg hk hd => ?_) (AllFrom.cons (fun a' w' hg hk hd => ?_) (AllFrom.cons (fun a' w' hg hk hd => ?_) (AllFrom.cons (fun a' w' hg hk hd => ?_) (AllFrom.cons (fun a' w' hg hk hd => ?_) (AllFrom.cons (fun a' w' hg hk hd => ?_) (AllFrom.cons (fun a' w' hg hk hd => ?_) (AllFrom.cons (fun a' w' hg hk hd => ?_) (AllFrom.cons (fun a' w' hg hk hd => ?_) (AllFrom.cons (fun a' w' hg hk hd => ?_) (AllFrom.cons (fun a' w' hg hk hd => ?_) (AllFrom.cons (fun a' w' hg hk hd => ?_) (AllFrom.cons (fun a' w' hg hk hd => ?_) (AllFrom.cons (fun a' w' hg hk hd => ?_) (AllFrom.cons (fun a' w' hg hk hd => ?_) (AllFrom.cons (fun a' w' hg hk hd => ?_) (AllFrom.cons (fun a' w' hg hk hd => ?_) (AllFrom.cons (fun a' w' hg hk hd => ?_) (AllFrom.cons (fun a' w' hg hk hd => ?_) (AllFrom.cons (fun a' w' hg hk hd => ?_) (AllFrom.cons (fun a' w' hg hk hd => ?_) (AllFrom.cons (fun a' w' hg hk hd => ?_) (AllFrom.cons (fun a' w' hg hk hd => ?_) AllFrom.nil)))))))))))))))))))))))))))))))))))))))))))))))))))))))
      · -- 0: Op.move (Operand.tmp 0)
        intro Q
        have e0 := hk.at 0 (by decide +kernel)
        exact wp_value _ (by simp only [execOp, e0]; rfl) (SV_mk rfl rfl)
      · -- 1: Op.move (Operand.tmp 1)
        intro Q
        have e1 := hk.at 1 (by decide +kernel)
        exact wp_value _ (by simp only [execOp, e1]; rfl) (SV_mk rfl rfl)
      · -- 2: Op.call ( callee := Callee.value (Operand.func 18), args := 
        intro Q
        have xe57 := SV_val (hd.val 0 57 (by decide +kernel)) rfl
        have e57 : a'.eval (.tmp 57) = .slice a l.length cap := xe57
        have xe58 := SV_val (hd.val 1 58 (by decide +kernel)) rfl
        have e58 : a'.eval (.tmp 58) = .string s := xe58
        refine wp_call 18 _ (run_enter 18 _ _ rfl (by kernel_rfl)) ?_
        simp only [List.map_toArray, List.map_nil, List.map_cons, e57, e58]
        refine (str_any _ l s _ (hr2.kept hg) (by omega)).mono ?_
        rintro e w3 ⟨v3, rfl, ho3, hb3⟩
        exact ⟨v3, rfl, SV_mko rfl _ ho3, hb3⟩
      · -- 3: Op.convert 22 9 (Operand.tmp 59)
        intro Q
        obtain ⟨B2, e59⟩ := SV_own (hd.val 2 59 (by decide +kernel)) rfl
        exact wp_value _ (by simp [execOp, own_conv e59 rfl]) (SV_mk rfl rfl)
      · -- 4: Op.move (Operand.tmp 0)
        intro Q
        have e0 := hk.at 0 (by decide +kernel)
        exact wp_value _ (by simp only [execOp, e0]; rfl) (SV_mk rfl rfl)
      · -- 5: Op.move (Operand.tmp 1)
        intro Q
        have e1 := hk.at 1 (by decide +kernel)
        exact wp_value _ (by simp only [execOp, e1]; rfl) (SV_mk rfl rfl)
      · -- 6: Op.call ( callee := Callee.value (Operand.func 19), args := 
        intro Q
        have xe61 := SV_val (hd.val 4 61 (by decide +kernel)) rfl
        have e61 : a'.eval (.tmp 61) = .slice a l.length cap := xe61
        have xe62 := SV_val (hd.val 5 62 (by decide +kernel)) rfl
        have e62 : a'.eval (.tmp 62) = .string s := xe62
        refine wp_call 19 _ (run_enter 19 _ _ rfl (by kernel_rfl)) ?_
        simp only [List.map_toArray, List.map_nil, List.map_cons, e61, e62]
        refine (refStr_any _ l s _ (hr2.kept hg) (by omega)).mono ?_
        rintro e w3 ⟨v3, rfl, ho3, hb3⟩
        exact ⟨v3, rfl, SV_mko rfl _ ho3, hb3⟩
      · -- 7: Op.convert 22 9 (Operand.tmp 63)
        intro Q
        obtain ⟨B6, e63⟩ := SV_own (hd.val 6 63 (by decide +kernel)) rfl
        exact wp_value _ (by simp [execOp, own_conv e63 rfl]) (SV_mk rfl rfl)
      · -- 8: Op.binOp BinOp.eql 9 (Operand.tmp 60) (Operand.tmp 64) 9
        intro Q
        have xe60 := SV_val (hd.val 3 60 (by decide +kernel)) rfl
        have e60 : a'.eval (.tmp 60) = .string ⟨(l ++ encS (sl s)).toArray⟩ := xe60
        have xe64 := SV_val (hd.val 7 64 (by decide +kernel)) rfl
        have e64 : a'.eval (.tmp 64) = .string ⟨(l ++ encS (sl s)).toArray⟩ := xe64
        clear hd hk xe60 xe64
        exact wp_value (.bool true) (by simp only [execOp, e60, e64]; go_simp) (SV_mk rfl rfl)
      · -- 9: Op.move (Operand.tmp 65)
        intro Q
        have xe65 := SV_val (hd.val 8 65 (by decide +kernel)) rfl
        have e65 : a'.eval (.tmp 65) = .bool true := xe65
        exact wp_value _ (by simp only [execOp, e65]; rfl) (SV_mk rfl rfl)
      · -- 10: Op.move (Operand.tmp 7)
        have eg : a'.eval (.tmp 66) = .bool true := SV_val (hd.val 9 66 (by decide +kernel)) rfl
        refine ⟨66, true, rfl, eg, fun _ Q => ?_, fun h => absurd rfl h⟩
        have e7 := hk.at 7 (by decide +kernel)
        exact wp_value _ (by simp only [execOp, e7]; rfl) (SV_mk rfl rfl)
      · -- 11: Op.move (Operand.tmp 10)
        have eg : a'.eval (.tmp 66) = .bool true := SV_val (hd.val 9 66 (by decide +kernel)) rfl
        refine ⟨66, true, rfl, eg, fun _ Q => ?_, fun h => absurd rfl h⟩
        have e10 := hk.at 10 (by decide +kernel)
        exact wp_value _ (by simp only [execOp, e10]; rfl) (SV_mk rfl rfl)
      · -- 12: Op.binOp BinOp.eql 9 (Operand.tmp 67) (Operand.tmp 68) 9
        have eg : a'.eval (.tmp 66) = .bool true := SV_val (hd.val 9 66 (by decide +kernel)) rfl
        refine ⟨66, true, rfl, eg, fun _ Q => ?_, fun h => absurd rfl h⟩
        have xe67 := SV_val (hd.val 10 67 (by decide +kernel)) rfl
        have e67 : a'.eval (.tmp 67) = .string ⟨X.toArray⟩ := xe67
        have xe68 := SV_val (hd.val 11 68 (by decide +kernel)) rfl
        have e68 : a'.eval (.tmp 68) = .string ⟨X.toArray⟩ := xe68
        clear hd hk xe67 xe68
        exact wp_value (.bool true) (by simp only [execOp, e67, e68]; go_simp) (SV_mk rfl rfl)
      · -- 13: Op.pick (Operand.tmp 66) (Operand.tmp 69) (Operand.const (Va
        intro Q
        have xe66 := SV_val (hd.val 9 66 (by decide +kernel)) rfl
        have e66 : a'.eval (.tmp 66) = .bool true := xe66
        have xe69 := SV_val (hd.val 12 69 (by decide +kernel)) rfl
        have e69 : a'.eval (.tmp 69) = .bool true := xe69
        clear hd hk xe66 xe69
        exact wp_value (.bool true) (by simp only [execOp, e66, e69]; go_simp) (SV_mk rfl rfl)
      · -- 14: Op.move (Operand.tmp 70)
        intro Q
        have xe70 := SV_val (hd.val 13 70 (by decide +kernel)) rfl
        have e70 : a'.eval (.tmp 70) = .bool true := xe70
        exact wp_value _ (by simp only [execOp, e70]; rfl) (SV_mk rfl rfl)
      · -- 15: Op.move (Operand.tmp 8)
        have eg : a'.eval (.tmp 71) = .bool true := SV_val (hd.val 14 71 (by decide +kernel)) rfl
        refine ⟨71, true, rfl, eg, fun _ Q => ?_, fun h => absurd rfl h⟩
        have e8 := hk.at 8 (by decide +kernel)
        exact wp_value _ (by simp only [execOp, e8]; rfl) (SV_mk rfl rfl)
      · -- 16: Op.move (Operand.tmp 11)
        have eg : a'.eval (.tmp 71) = .bool true := SV_val (hd.val 14 71 (by decide +kernel)) rfl
        refine ⟨71, true, rfl, eg, fun _ Q => ?_, fun h => absurd rfl h⟩
        have e11 := hk.at 11 (by decide +kernel)
        exact wp_value _ (by simp only [execOp, e11]; rfl) (SV_mk rfl rfl)
      · -- 17: Op.binOp BinOp.eql 3 (Operand.tmp 72) (Operand.tmp 73) 3
        have eg : a'.eval (.tmp 71) = .bool true := SV_val (hd.val 14 71 (by decide +kernel)) rfl
        refine ⟨71, true, rfl, eg, fun _ Q => ?_, fun h => absurd rfl h⟩
        have xe72 := SV_val (hd.val 15 72 (by decide +kernel)) rfl
        have e72 : a'.eval (.tmp 72) = .int .i64 Y := xe72
        have xe73 := SV_val (hd.val 16 73 (by decide +kernel)) rfl
        have e73 : a'.eval (.tmp 73) = .int .i64 Y := xe73
        clear hd hk xe72 xe73
        exact wp_value (.bool true) (by simp only [execOp, e72, e73]; go_simp) (SV_mk rfl rfl)
      · -- 18: Op.pick (Operand.tmp 71) (Operand.tmp 74) (Operand.const (Va
        intro Q
        have xe71 := SV_val (hd.val 14 71 (by decide +kernel)) rfl
        have e71 : a'.eval (.tmp 71) = .bool true := xe71
        have xe74 := SV_val (hd.val 17 74 (by decide +kernel)) rfl
        have e74 : a'.eval (.tmp 74) = .bool true := xe74
        clear hd hk xe71 xe74
        exact wp_value (.bool true) (by simp only [execOp, e71, e74]; go_simp) (SV_mk rfl rfl)
      · -- 19: Op.move (Operand.tmp 75)
        intro Q
        have xe75 := SV_val (hd.val 18 75 (by decide +kernel)) rfl
        have e75 : a'.eval (.tmp 75) = .bool true := xe75
        exact wp_value _ (by simp only [execOp, e75]; rfl) (SV_mk rfl rfl)
      · -- 20: Op.move (Operand.tmp 9)
        have eg : a'.eval (.tmp 76) = .bool true := SV_val (hd.val 19 76 (by decide +kernel)) rfl
        refine ⟨76, true, rfl, eg, fun _ Q => ?_, fun h => absurd rfl h⟩
        have e9 := hk.at 9 (by decide +kernel)
        exact wp_value _ (by simp only [execOp, e9]; rfl) (SV_mk rfl rfl)
      · -- 21: Op.move (Operand.tmp 12)
        have eg : a'.eval (.tmp 76) = .bool true := SV_val (hd.val 19 76 (by decide +kernel)) rfl
        refine ⟨76, true, rfl, eg, fun _ Q => ?_, fun h => absurd rfl h⟩
        have e12 := hk.at 12 (by decide +kernel)
        exact wp_value _ (by simp only [execOp, e12]; rfl) (SV_mk rfl rfl)
      · -- 22: Op.binOp BinOp.eql 4 (Operand.tmp 77) (Operand.tmp 78) 4
        have eg : a'.eval (.tmp 76) = .bool true := SV_val (hd.val 19 76 (by decide +kernel)) rfl
        refine ⟨76, true, rfl, eg, fun _ Q => ?_, fun h => absurd rfl h⟩
        have xe77 := SV_val (hd.val 20 77 (by decide +kernel)) rfl
        have e77 : a'.eval (.tmp 77) = .bool Z := xe77
        have xe78 := SV_val (hd.val 21 78 (by decide +kernel)) rfl
        have e78 : a'.eval (.tmp 78) = .bool Z := xe78
        clear hd hk xe77 xe78
        exact wp_value (.bool true) (by simp only [execOp, e77, e78]; go_simp) (SV_mk rfl rfl)
      · -- 23: Op.pick (Operand.tmp 76) (Operand.tmp 79) (Operand.const (Va
        intro Q
        have xe76 := SV_val (hd.val 19 76 (by decide +kernel)) rfl
        have e76 : a'.eval (.tmp 76) = .bool true := xe76
        have xe79 := SV_val (hd.val 22 79 (by decide +kernel)) rfl
        have e79 : a'.eval (.tmp 79) = .bool true := xe79
        clear hd hk xe76 xe79
        exact wp_value (.bool true) (by simp only [execOp, e76, e79]; go_simp) (SV_mk rfl rfl)
      · -- 24: Op.move (Operand.tmp 80)
        intro Q
        have xe80 := SV_val (hd.val 23 80 (by decide +kernel)) rfl
        have e80 : a'.eval (.tmp 80) = .bool true := xe80
        exact wp_value _ (by simp only [execOp, e80]; rfl) (SV_mk rfl rfl)
      · -- 25: Op.move (Operand.tmp 13)
        have eg : a'.eval (.tmp 81) = .bool true := SV_val (hd.val 24 81 (by decide +kernel)) rfl
        refine ⟨81, true, rfl, eg, fun _ Q => ?_, fun h => absurd rfl h⟩
        have e13 := hk.at 13 (by decide +kernel)
        exact wp_value _ (by simp only [execOp, e13]; rfl) (SV_mk rfl rfl)
      · -- 26: Op.move (Operand.tmp 16)
        have eg : a'.eval (.tmp 81) = .bool true := SV_val (hd.val 24 81 (by decide +kernel)) rfl
        refine ⟨81, true, rfl, eg, fun _ Q => ?_, fun h => absurd rfl h⟩
        have e16 := hk.at 16 (by decide +kernel)
        exact wp_value _ (by simp only [execOp, e16]; rfl) (SV_mk rfl rfl)
      · -- 27: Op.binOp BinOp.eql 4 (Operand.tmp 82) (Operand.tmp 83) 4
        have eg : a'.eval (.tmp 81) = .bool true := SV_val (hd.val 24 81 (by decide +kernel)) rfl
        refine ⟨81, true, rfl, eg, fun _ Q => ?_, fun h => absurd rfl h⟩
        have xe82 := SV_val (hd.val 25 82 (by decide +kernel)) rfl
        have e82 : a'.eval (.tmp 82) = .bool F := xe82
        have xe83 := SV_val (hd.val 26 83 (by decide +kernel)) rfl
        have e83 : a'.eval (.tmp 83) = .bool F := xe83
        clear hd hk xe82 xe83
        exact wp_value (.bool true) (by simp only [execOp, e82, e83]; go_simp) (SV_mk rfl rfl)
      · -- 28: Op.pick (Operand.tmp 81) (Operand.tmp 84) (Operand.const (Va
        intro Q
        have xe81 := SV_val (hd.val 24 81 (by decide +kernel)) rfl
        have e81 : a'.eval (.tmp 81) = .bool true := xe81
        have xe84 := SV_val (hd.val 27 84 (by decide +kernel)) rfl
        have e84 : a'.eval (.tmp 84) = .bool true := xe84
        clear hd hk xe81 xe84
        exact wp_value (.bool true) (by simp only [execOp, e81, e84]; go_simp) (SV_mk rfl rfl)
      · -- 29: Op.move (Operand.tmp 85)
        intro Q
        have xe85 := SV_val (hd.val 28 85 (by decide +kernel)) rfl
        have e85 : a'.eval (.tmp 85) = .bool true := xe85
        exact wp_value _ (by simp only [execOp, e85]; rfl) (SV_mk rfl rfl)
      · -- 30: Op.move (Operand.tmp 14)
        have eg : a'.eval (.tmp 86) = .bool true := SV_val (hd.val 29 86 (by decide +kernel)) rfl
        refine ⟨86, true, rfl, eg, fun _ Q => ?_, fun h => absurd rfl h⟩
        have e14 := hk.at 14 (by decide +kernel)
        exact wp_value _ (by simp only [execOp, e14]; rfl) (SV_mk rfl rfl)
      · -- 31: Op.move (Operand.tmp 17)
        have eg : a'.eval (.tmp 86) = .bool true := SV_val (hd.val 29 86 (by decide +kernel)) rfl
        refine ⟨86, true, rfl, eg, fun _ Q => ?_, fun h => absurd rfl h⟩
        have e17 := hk.at 17 (by decide +kernel)
        exact wp_value _ (by simp only [execOp, e17]; rfl) (SV_mk rfl rfl)
      · -- 32: Op.binOp BinOp.eql 3 (Operand.tmp 87) (Operand.tmp 88) 3
        have eg : a'.eval (.tmp 86) = .bool true := SV_val (hd.val 29 86 (by decide +kernel)) rfl
        refine ⟨86, true, rfl, eg, fun _ Q => ?_, fun h => absurd rfl h⟩
        have xe87 := SV_val (hd.val 30 87 (by decide +kernel)) rfl
        have e87 : a'.eval (.tmp 87) = .int .i64 I := xe87
        have xe88 := SV_val (hd.val 31 88 (by decide +kernel)) rfl
        have e88 : a'.eval (.tmp 88) = .int .i64 I := xe88
        clear hd hk xe87 xe88
        exact wp_value (.bool true) (by simp only [execOp, e87, e88]; go_simp) (SV_mk rfl rfl)
      · -- 33: Op.pick (Operand.tmp 86) (Operand.tmp 89) (Operand.const (Va
        intro Q
        have xe86 := SV_val (hd.val 29 86 (by decide +kernel)) rfl
        have e86 : a'.eval (.tmp 86) = .bool true := xe86
        have xe89 := SV_val (hd.val 32 89 (by decide +kernel)) rfl
        have e89 : a'.eval (.tmp 89) = .bool true := xe89
        clear hd hk xe86 xe89
        exact wp_value (.bool true) (by simp only [execOp, e86, e89]; go_simp) (SV_mk rfl rfl)
      · -- 34: Op.move (Operand.tmp 90)
        intro Q
        have xe90 := SV_val (hd.val 33 90 (by decide +kernel)) rfl
        have e90 : a'.eval (.tmp 90) = .bool true := xe90
        exact wp_value _ (by simp only [execOp, e90]; rfl) (SV_mk rfl rfl)
      · -- 35: Op.move (Operand.tmp 15)
        have eg : a'.eval (.tmp 91) = .bool true := SV_val (hd.val 34 91 (by decide +kernel)) rfl
        refine ⟨91, true, rfl, eg, fun _ Q => ?_, fun h => absurd rfl h⟩
        have e15 := hk.at 15 (by decide +kernel)
        exact wp_value _ (by simp only [execOp, e15]; rfl) (SV_mk rfl rfl)
      · -- 36: Op.move (Operand.tmp 18)
        have eg : a'.eval (.tmp 91) = .bool true := SV_val (hd.val 34 91 (by decide +kernel)) rfl
        refine ⟨91, true, rfl, eg, fun _ Q => ?_, fun h => absurd rfl h⟩
        have e18 := hk.at 18 (by decide +kernel)
        exact wp_value _ (by simp only [execOp, e18]; rfl) (SV_mk rfl rfl)
      · -- 37: Op.binOp BinOp.eql 4 (Operand.tmp 92) (Operand.tmp 93) 4
        have eg : a'.eval (.tmp 91) = .bool true := SV_val (hd.val 34 91 (by decide +kernel)) rfl
        refine ⟨91, true, rfl, eg, fun _ Q => ?_, fun h => absurd rfl h⟩
        have xe92 := SV_val (hd.val 35 92 (by decide +kernel)) rfl
        have e92 : a'.eval (.tmp 92) = .bool J := xe92
        have xe93 := SV_val (hd.val 36 93 (by decide +kernel)) rfl
        have e93 : a'.eval (.tmp 93) = .bool J := xe93
        clear hd hk xe92 xe93
        exact wp_value (.bool true) (by simp only [execOp, e92, e93]; go_simp) (SV_mk rfl rfl)
      · -- 38: Op.pick (Operand.tmp 91) (Operand.tmp 94) (Operand.const (Va
        intro Q
        have xe91 := SV_val (hd.val 34 91 (by decide +kernel)) rfl
        have e91 : a'.eval (.tmp 91) = .bool true := xe91
        have xe94 := SV_val (hd.val 37 94 (by decide +kernel)) rfl
        have e94 : a'.eval (.tmp 94) = .bool true := xe94
        clear hd hk xe91 xe94
        exact wp_value (.bool true) (by simp only [execOp, e91, e94]; go_simp) (SV_mk rfl rfl)
      · -- 39: Op.move (Operand.tmp 95)
        intro Q
        have xe95 := SV_val (hd.val 38 95 (by decide +kernel)) rfl
        have e95 : a'.eval (.tmp 95) = .bool true := xe95
        exact wp_value _ (by simp only [execOp, e95]; rfl) (SV_mk rfl rfl)
      · -- 40: Op.move (Operand.tmp 0)
        have eg : a'.eval (.tmp 96) = .bool true := SV_val (hd.val 39 96 (by decide +kernel)) rfl
        refine ⟨96, true, rfl, eg, fun _ Q => ?_, fun h => absurd rfl h⟩
        have e0 := hk.at 0 (by decide +kernel)
        exact wp_value _ (by simp only [execOp, e0]; rfl) (SV_mk rfl rfl)
      · -- 41: Op.move (Operand.tmp 2)
        have eg : a'.eval (.tmp 96) = .bool true := SV_val (hd.val 39 96 (by decide +kernel)) rfl
        refine ⟨96, true, rfl, eg, fun _ Q => ?_, fun h => absurd rfl h⟩
        have e2 := hk.at 2 (by decide +kernel)
        exact wp_value _ (by simp only [execOp, e2]; rfl) (SV_mk rfl rfl)
      · -- 42: Op.binOp BinOp.gtr 3 (Operand.tmp 98) (Operand.const (Value.
        have eg : a'.eval (.tmp 96) = .bool true := SV_val (hd.val 39 96 (by decide +kernel)) rfl
        refine ⟨96, true, rfl, eg, fun _ Q => ?_, fun h => absurd rfl h⟩
        have xe98 := SV_val (hd.val 41 98 (by decide +kernel)) rfl
        have e98 : a'.eval (.tmp 98) = .int .i64 m := xe98
        clear hd hk xe98
        exact wp_value (.bool (decide (0 < m))) (by simp only [execOp, e98]; go_simp) (SV_mk rfl rfl)
      · -- 43: Op.call ( callee := Callee.value (Operand.func 20), args := 
        have eg : a'.eval (.tmp 96) = .bool true := SV_val (hd.val 39 96 (by decide +kernel)) rfl
        refine ⟨96, true, rfl, eg, fun _ Q => ?_, fun h => absurd rfl h⟩
        have xe97 := SV_val (hd.val 40 97 (by decide +kernel)) rfl
        have e97 : a'.eval (.tmp 97) = .slice a l.length cap := xe97
        have xe99 := SV_val (hd.val 42 99 (by decide +kernel)) rfl
        have e99 : a'.eval (.tmp 99) = .bool (decide (0 < m)) := xe99
        refine wp_call 20 _ (run_enter 20 _ _ rfl (by kernel_rfl)) ?_
        simp only [List.map_toArray, List.map_nil, List.map_cons, e97, e99]
        refine (flag_any _ l (decide (0 < m)) _ (hr2.kept hg) (by omega)).mono ?_
        rintro e w3 ⟨v3, rfl, ho3, hb3⟩
        exact ⟨v3, rfl, SV_mko rfl _ ho3, hb3⟩
      · -- 44: Op.convert 22 9 (Operand.tmp 100)
        have eg : a'.eval (.tmp 96) = .bool true := SV_val (hd.val 39 96 (by decide +kernel)) rfl
        refine ⟨96, true, rfl, eg, fun _ Q => ?_, fun h => absurd rfl h⟩
        obtain ⟨B43, e100⟩ := SV_own (hd.val 43 100 (by decide +kernel)) rfl
        exact wp_value _ (by simp [execOp, own_conv e100 rfl]) (SV_mk rfl rfl)
      · -- 45: Op.move (Operand.tmp 0)
        have eg : a'.eval (.tmp 96) = .bool true := SV_val (hd.val 39 96 (by decide +kernel)) rfl
        refine ⟨96, true, rfl, eg, fun _ Q => ?_, fun h => absurd rfl h⟩
        have e0 := hk.at 0 (by decide +kernel)
        exact wp_value _ (by simp only [execOp, e0]; rfl) (SV_mk rfl rfl)
      · -- 46: Op.move (Operand.tmp 2)
        have eg : a'.eval (.tmp 96) = .bool true := SV_val (hd.val 39 96 (by decide +kernel)) rfl
        refine ⟨96, true, rfl, eg, fun _ Q => ?_, fun h => absurd rfl h⟩
        have e2 := hk.at 2 (by decide +kernel)
        exact wp_value _ (by simp only [execOp, e2]; rfl) (SV_mk rfl rfl)
      · -- 47: Op.binOp BinOp.gtr 3 (Operand.tmp 103) (Operand.const (Value
        have eg : a'.eval (.tmp 96) = .bool true := SV_val (hd.val 39 96 (by decide +kernel)) rfl
        refine ⟨96, true, rfl, eg, fun _ Q => ?_, fun h => absurd rfl h⟩
        have xe103 := SV_val (hd.val 46 103 (by decide +kernel)) rfl
        have e103 : a'.eval (.tmp 103) = .int .i64 m := xe103
        clear hd hk xe103
        exact wp_value (.bool (decide (0 < m))) (by simp only [execOp, e103]; go_simp) (SV_mk rfl rfl)
      · -- 48: Op.call ( callee := Callee.value (Operand.func 21), args := 
        have eg : a'.eval (.tmp 96) = .bool true := SV_val (hd.val 39 96 (by decide +kernel)) rfl
        refine ⟨96, true, rfl, eg, fun _ Q => ?_, fun h => absurd rfl h⟩
        have xe102 := SV_val (hd.val 45 102 (by decide +kernel)) rfl
        have e102 : a'.eval (.tmp 102) = .slice a l.length cap := xe102
        have xe104 := SV_val (hd.val 47 104 (by decide +kernel)) rfl
        have e104 : a'.eval (.tmp 104) = .bool (decide (0 < m)) := xe104
        refine wp_call 21 _ (run_enter 21 _ _ rfl (by kernel_rfl)) ?_
        simp only [List.map_toArray, List.map_nil, List.map_cons, e102, e104]
        refine (refFlag_any _ l (decide (0 < m)) _ (hr2.kept hg) (by omega)).mono ?_
        rintro e w3 ⟨v3, rfl, ho3, hb3⟩
        exact ⟨v3, rfl, SV_mko rfl _ ho3, hb3⟩
      · -- 49: Op.convert 22 9 (Operand.tmp 105)
        have eg : a'.eval (.tmp 96) = .bool true := SV_val (hd.val 39 96 (by decide +kernel)) rfl
        refine ⟨96, true, rfl, eg, fun _ Q => ?_, fun h => absurd rfl h⟩
        obtain ⟨B48, e105⟩ := SV_own (hd.val 48 105 (by decide +kernel)) rfl
        exact wp_value _ (by simp [execOp, own_conv e105 rfl]) (SV_mk rfl rfl)
      · -- 50: Op.binOp BinOp.eql 9 (Operand.tmp 101) (Operand.tmp 106) 9
        have eg : a'.eval (.tmp 96) = .bool true := SV_val (hd.val 39 96 (by decide +kernel)) rfl
        refine ⟨96, true, rfl, eg, fun _ Q => ?_, fun h => absurd rfl h⟩
        have xe101 := SV_val (hd.val 44 101 (by decide +kernel)) rfl
        have e101 : a'.eval (.tmp 101) = .string ⟨(l ++ [if decide (0 < m) = true then 1 else 0]).toArray⟩ := xe101
        have xe106 := SV_val (hd.val 49 106 (by decide +kernel)) rfl
        have e106 : a'.eval (.tmp 106) = .string ⟨(l ++ [if decide (0 < m) = true then 1 else 0]).toArray⟩ := xe106
        clear hd hk xe101 xe106
        exact wp_value (.bool true) (by simp only [execOp, e101, e106]; go_simp) (SV_mk rfl rfl)
      · -- 51: Op.pick (Operand.tmp 96) (Operand.tmp 107) (Operand.const (V
        intro Q
        have xe96 := SV_val (hd.val 39 96 (by decide +kernel)) rfl
        have e96 : a'.eval (.tmp 96) = .bool true := xe96
        have xe107 := SV_val (hd.val 50 107 (by decide +kernel)) rfl
        have e107 : a'.eval (.tmp 107) = .bool true := xe107
        clear hd hk xe96 xe107
        exact wp_value (.bool true) (by simp only [execOp, e96, e107]; go_simp) (SV_mk rfl rfl)
      · -- 52: Op.move (Operand.tmp 108)
        intro Q
        have xe108 := SV_val (hd.val 51 108 (by decide +kernel)) rfl
        have e108 : a'.eval (.tmp 108) = .bool true := xe108
        exact wp_value _ (by simp only [execOp, e108]; rfl) (SV_mk rfl rfl)
      · -- 53: Op.call ( callee := Callee.value (Operand.func 9), args := #
        have eg : a'.eval (.tmp 109) = .bool true := SV_val (hd.val 52 109 (by decide +kernel)) rfl
        refine ⟨109, true, rfl, eg, fun _ Q => ?_, fun h => absurd rfl h⟩
        refine wp_call 9 _ (run_enter 9 _ _ rfl (by kernel_rfl)) ?_
        simp only [List.map_toArray, List.map_nil]
        refine (lives_any _).mono ?_
        rintro e w3 ⟨rfl, hb3⟩
        exact ⟨_, rfl, SV_mk rfl rfl, hb3⟩
      · -- 54: Op.pick (Operand.tmp 109) (Operand.tmp 110) (Operand.const (
        intro Q
        have xe109 := SV_val (hd.val 52 109 (by decide +kernel)) rfl
        have e109 : a'.eval (.tmp 109) = .bool true := xe109
        have xe110 := SV_val (hd.val 53 110 (by decide +kernel)) rfl
        have e110 : a'.eval (.tmp 110) = .bool true := xe110
        clear hd hk xe109 xe110
        exact wp_value (.bool true) (by simp only [execOp, e109, e110]; go_simp) (SV_mk rfl rfl)
      · -- 55: Op.assign (Operand.tmp 111)
        intro Q
        have xe111 := SV_val (hd.val 54 111 (by decide +kernel)) rfl
        have e111 : a'.eval (.tmp 111) = .bool true := xe111
        exact wp_value _ (by simp only [execOp, e111]; rfl) (SV_mk rfl rfl)
    · intro a' w' hsz hdf hk hS hg
      have x6 := SV_val (hS 55 _ 6 rfl rfl) rfl
      have e6 : a'.eval (.tmp 6) = .bool true := x6
      go_wp2
      exact bodyPost_ret (results_tmp Try.results4 _ _ _) hdf ⟨congrArg Ending.returned e6, hbw.trans (Below.mono hg hbw.size)⟩
#print axioms packTexts_core
end Go.Proofs.Ytcfakmjkbgcbhaa
