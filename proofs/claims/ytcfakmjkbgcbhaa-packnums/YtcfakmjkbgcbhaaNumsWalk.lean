/-
  indenturelaw01.PackNums: the walk: the call returns true and makes new memory alone.
-/
import Derived.Test.YtcfakmjkbgcbhaaLives
import Derived.Test.YtcfakmjkbgcbhaaRegion
import Derived.Test.YtcfakmjkbgcbhaaMixed
namespace Go.Proofs.Ytcfakmjkbgcbhaa
open Go.RowKit

set_option maxRecDepth 100000 in
set_option maxHeartbeats 1000000 in
theorem packNums_core (v : Value) (l : List UInt8) (n : Nat) (w : World) (hr : Rd w v l) (h2 : Hid (n < 256 ^ 8)) :
    Calls Try.prog 3 #[v, .int .u64 n] w fun e w' => e = .returned (.bool true) ∧ Below w.heap.size w w' := by
  have hr0 := hr
  obtain ⟨a, cap, rfl, h1, -⟩ := hr
  by_cases hl : 3000 < l.length
  · have hl' : (3000 : Int) < l.length := by omega
    go_enter Try.func3, Try.ntmps3
    go_wp2_with fail
    refine (lives_any _).mono ?_
    rintro e w1 ⟨rfl, hb1⟩
    go_wp2_with fail
    go_ret
    exact ⟨rfl, hb1⟩
  · have hl' : ¬ (3000 : Int) < l.length := by omega
    go_enter Try.func3, Try.ntmps3
    go_wp2_with fail
    refine (getNum_any _ l _ hr0 (by omega)).mono ?_
    rintro e w1 ⟨rfl, hb1⟩
    have hr1 := hr0.kept hb1
    clear hr0
    go_wp2_with fail
    refine (refGetNum_any _ l _ hr1 (by omega)).mono ?_
    rintro e w2 ⟨rfl, hb2⟩
    have hr2 := hr1.kept hb2
    have hbw : Below w.heap.size w w2 := hb1.trans (hb2.mono hb1.size)
    clear hr1 hb1 hb2
    generalize (gn l).1 = X at *
    generalize (gn l).2.1 = Y at *
    generalize (gn l).2.2 = Z at *
    go_wp2_with fail
    refine wp_region_inv Try.mixed (SV (fun i => match i with
        | 0 | 4 => .slice a l.length cap
        | 1 | 5 => .int .u64 n
        | 3 | 7 => .string ⟨(l ++ enc n).toArray⟩
        | 10 | 11 => .int .u64 X
        | 15 | 16 => .int .i64 Y
        | 20 | 21 => .bool Z
        | _ => .bool true) (fun i => match i with
        | 2 | 6 => some (l ++ enc n)
        | _ => none)) 54 rfl (by decide +kernel) (SV_mono _ _) ?_ ?_
    · refine AllFrom.cons (fun a' w' hg hk hd => ?_) (AllFrom.cons (fun a' w' hg hk hd => ?_) (AllFrom.cons (fun a' w' hg hk hd => ?_) (AllFrom.cons (fun a' w' hg hk hd => ?_) (AllFrom.cons (fun a' w' hg hk hd => ?_) (AllFrom.cons (fun a' w' hg hk hd => ?_) (AllFrom.cons (fun a' w' hg hk hd => ?_) (AllFrom.cons (fun a' w' hg hk hd => ?_) (AllFrom.cons (fun a' w' hg hk hd => ?_) (AllFrom.cons (fun a' w' hg hk hd => ?_) (AllFrom.cons (fun a' w' hg hk hd => ?_) (AllFrom.cons (fun a' w' hg hk hd => ?_) (AllFrom.cons (fun a' w' hg hk hd => ?_) (AllFrom.cons (fun a' w' hg hk hd => ?_) (AllFrom.cons (fun a' w' hg hk hd => ?_) (AllFrom.cons (fun a' w' hg hk hd => ?_) (AllFrom.cons (fun a' w' hg hk hd => ?_) (AllFrom.cons (fun a' w' hg hk hd => ?_) (AllFrom.cons (fun a' w' hg hk hd => ?_) (AllFrom.cons (fun a' w' hg hk hd => ?_) (AllFrom.cons (fun a' w' hg hk hd => ?_) (AllFrom.cons (fun a' w' hg hk hd => ?_) (AllFrom.cons (fun a' w' hg hk hd => ?_) (AllFrom.cons (fun a' w' hg hk hd => ?_) (AllFrom.cons (fun a' w' hg hk hd => ?_) (AllFrom.cons (fun a' w' hg hk hd => ?_) (AllFrom.cons (fun a' w' hg hk hd => ?_) (AllFrom.cons (fun a' w' hg hk hd => ?_) AllFrom.nil)))))))))))))))))))))))))))
      · -- 0: Op.move (Operand.tmp 0)
        intro Q
        have e0 := hk.at 0 (by decide +kernel)
        exact wp_value _ (by simp only [execOp, e0]; rfl) (SV_mk rfl rfl)
      · -- 1: Op.move (Operand.tmp 1)
        intro Q
        have e1 := hk.at 1 (by decide +kernel)
        exact wp_value _ (by simp only [execOp, e1]; rfl) (SV_mk rfl rfl)
      · -- 2: Op.call ( callee := Callee.value (Operand.func 12), args := 
        intro Q
        have xe27 := SV_val (hd.val 0 27 (by decide +kernel)) rfl
        have e27 : a'.eval (.tmp 27) = .slice a l.length cap := xe27
        have xe28 := SV_val (hd.val 1 28 (by decide +kernel)) rfl
        have e28 : a'.eval (.tmp 28) = .int .u64 n := xe28
        refine wp_call 12 _ (run_enter 12 _ _ rfl (by kernel_rfl)) ?_
        simp only [List.map_toArray, List.map_nil, List.map_cons, e27, e28]
        refine (num_any _ l n _ (hr2.kept hg) h2 (by omega)).mono ?_
        rintro e w3 ⟨v3, rfl, ho3, hb3⟩
        exact ⟨v3, rfl, SV_mko rfl _ ho3, hb3⟩
      · -- 3: Op.convert 22 9 (Operand.tmp 29)
        intro Q
        obtain ⟨B2, e29⟩ := SV_own (hd.val 2 29 (by decide +kernel)) rfl
        exact wp_value _ (by simp [execOp, own_conv e29 rfl]) (SV_mk rfl rfl)
      · -- 4: Op.move (Operand.tmp 0)
        intro Q
        have e0 := hk.at 0 (by decide +kernel)
        exact wp_value _ (by simp only [execOp, e0]; rfl) (SV_mk rfl rfl)
      · -- 5: Op.move (Operand.tmp 1)
        intro Q
        have e1 := hk.at 1 (by decide +kernel)
        exact wp_value _ (by simp only [execOp, e1]; rfl) (SV_mk rfl rfl)
      · -- 6: Op.call ( callee := Callee.value (Operand.func 13), args := 
        intro Q
        have xe31 := SV_val (hd.val 4 31 (by decide +kernel)) rfl
        have e31 : a'.eval (.tmp 31) = .slice a l.length cap := xe31
        have xe32 := SV_val (hd.val 5 32 (by decide +kernel)) rfl
        have e32 : a'.eval (.tmp 32) = .int .u64 n := xe32
        refine wp_call 13 _ (run_enter 13 _ _ rfl (by kernel_rfl)) ?_
        simp only [List.map_toArray, List.map_nil, List.map_cons, e31, e32]
        refine (refNum_any _ l n _ (hr2.kept hg) h2 (by omega)).mono ?_
        rintro e w3 ⟨v3, rfl, ho3, hb3⟩
        exact ⟨v3, rfl, SV_mko rfl _ ho3, hb3⟩
      · -- 7: Op.convert 22 9 (Operand.tmp 33)
        intro Q
        obtain ⟨B6, e33⟩ := SV_own (hd.val 6 33 (by decide +kernel)) rfl
        exact wp_value _ (by simp [execOp, own_conv e33 rfl]) (SV_mk rfl rfl)
      · -- 8: Op.binOp BinOp.eql 9 (Operand.tmp 30) (Operand.tmp 34) 9
        intro Q
        have xe30 := SV_val (hd.val 3 30 (by decide +kernel)) rfl
        have e30 : a'.eval (.tmp 30) = .string ⟨(l ++ enc n).toArray⟩ := xe30
        have xe34 := SV_val (hd.val 7 34 (by decide +kernel)) rfl
        have e34 : a'.eval (.tmp 34) = .string ⟨(l ++ enc n).toArray⟩ := xe34
        clear hd hk xe30 xe34
        exact wp_value (.bool true) (by simp only [execOp, e30, e34]; go_simp) (SV_mk rfl rfl)
      · -- 9: Op.move (Operand.tmp 35)
        intro Q
        have xe35 := SV_val (hd.val 8 35 (by decide +kernel)) rfl
        have e35 : a'.eval (.tmp 35) = .bool true := xe35
        exact wp_value _ (by simp only [execOp, e35]; rfl) (SV_mk rfl rfl)
      · -- 10: Op.move (Operand.tmp 5)
        have eg : a'.eval (.tmp 36) = .bool true := SV_val (hd.val 9 36 (by decide +kernel)) rfl
        refine ⟨36, true, rfl, eg, fun _ Q => ?_, fun h => absurd rfl h⟩
        have e5 := hk.at 5 (by decide +kernel)
        exact wp_value _ (by simp only [execOp, e5]; rfl) (SV_mk rfl rfl)
      · -- 11: Op.move (Operand.tmp 8)
        have eg : a'.eval (.tmp 36) = .bool true := SV_val (hd.val 9 36 (by decide +kernel)) rfl
        refine ⟨36, true, rfl, eg, fun _ Q => ?_, fun h => absurd rfl h⟩
        have e8 := hk.at 8 (by decide +kernel)
        exact wp_value _ (by simp only [execOp, e8]; rfl) (SV_mk rfl rfl)
      · -- 12: Op.binOp BinOp.eql 23 (Operand.tmp 37) (Operand.tmp 38) 23
        have eg : a'.eval (.tmp 36) = .bool true := SV_val (hd.val 9 36 (by decide +kernel)) rfl
        refine ⟨36, true, rfl, eg, fun _ Q => ?_, fun h => absurd rfl h⟩
        have xe37 := SV_val (hd.val 10 37 (by decide +kernel)) rfl
        have e37 : a'.eval (.tmp 37) = .int .u64 X := xe37
        have xe38 := SV_val (hd.val 11 38 (by decide +kernel)) rfl
        have e38 : a'.eval (.tmp 38) = .int .u64 X := xe38
        clear hd hk xe37 xe38
        exact wp_value (.bool true) (by simp only [execOp, e37, e38]; go_simp) (SV_mk rfl rfl)
      · -- 13: Op.pick (Operand.tmp 36) (Operand.tmp 39) (Operand.const (Va
        intro Q
        have xe36 := SV_val (hd.val 9 36 (by decide +kernel)) rfl
        have e36 : a'.eval (.tmp 36) = .bool true := xe36
        have xe39 := SV_val (hd.val 12 39 (by decide +kernel)) rfl
        have e39 : a'.eval (.tmp 39) = .bool true := xe39
        clear hd hk xe36 xe39
        exact wp_value (.bool true) (by simp only [execOp, e36, e39]; go_simp) (SV_mk rfl rfl)
      · -- 14: Op.move (Operand.tmp 40)
        intro Q
        have xe40 := SV_val (hd.val 13 40 (by decide +kernel)) rfl
        have e40 : a'.eval (.tmp 40) = .bool true := xe40
        exact wp_value _ (by simp only [execOp, e40]; rfl) (SV_mk rfl rfl)
      · -- 15: Op.move (Operand.tmp 6)
        have eg : a'.eval (.tmp 41) = .bool true := SV_val (hd.val 14 41 (by decide +kernel)) rfl
        refine ⟨41, true, rfl, eg, fun _ Q => ?_, fun h => absurd rfl h⟩
        have e6 := hk.at 6 (by decide +kernel)
        exact wp_value _ (by simp only [execOp, e6]; rfl) (SV_mk rfl rfl)
      · -- 16: Op.move (Operand.tmp 9)
        have eg : a'.eval (.tmp 41) = .bool true := SV_val (hd.val 14 41 (by decide +kernel)) rfl
        refine ⟨41, true, rfl, eg, fun _ Q => ?_, fun h => absurd rfl h⟩
        have e9 := hk.at 9 (by decide +kernel)
        exact wp_value _ (by simp only [execOp, e9]; rfl) (SV_mk rfl rfl)
      · -- 17: Op.binOp BinOp.eql 3 (Operand.tmp 42) (Operand.tmp 43) 3
        have eg : a'.eval (.tmp 41) = .bool true := SV_val (hd.val 14 41 (by decide +kernel)) rfl
        refine ⟨41, true, rfl, eg, fun _ Q => ?_, fun h => absurd rfl h⟩
        have xe42 := SV_val (hd.val 15 42 (by decide +kernel)) rfl
        have e42 : a'.eval (.tmp 42) = .int .i64 Y := xe42
        have xe43 := SV_val (hd.val 16 43 (by decide +kernel)) rfl
        have e43 : a'.eval (.tmp 43) = .int .i64 Y := xe43
        clear hd hk xe42 xe43
        exact wp_value (.bool true) (by simp only [execOp, e42, e43]; go_simp) (SV_mk rfl rfl)
      · -- 18: Op.pick (Operand.tmp 41) (Operand.tmp 44) (Operand.const (Va
        intro Q
        have xe41 := SV_val (hd.val 14 41 (by decide +kernel)) rfl
        have e41 : a'.eval (.tmp 41) = .bool true := xe41
        have xe44 := SV_val (hd.val 17 44 (by decide +kernel)) rfl
        have e44 : a'.eval (.tmp 44) = .bool true := xe44
        clear hd hk xe41 xe44
        exact wp_value (.bool true) (by simp only [execOp, e41, e44]; go_simp) (SV_mk rfl rfl)
      · -- 19: Op.move (Operand.tmp 45)
        intro Q
        have xe45 := SV_val (hd.val 18 45 (by decide +kernel)) rfl
        have e45 : a'.eval (.tmp 45) = .bool true := xe45
        exact wp_value _ (by simp only [execOp, e45]; rfl) (SV_mk rfl rfl)
      · -- 20: Op.move (Operand.tmp 7)
        have eg : a'.eval (.tmp 46) = .bool true := SV_val (hd.val 19 46 (by decide +kernel)) rfl
        refine ⟨46, true, rfl, eg, fun _ Q => ?_, fun h => absurd rfl h⟩
        have e7 := hk.at 7 (by decide +kernel)
        exact wp_value _ (by simp only [execOp, e7]; rfl) (SV_mk rfl rfl)
      · -- 21: Op.move (Operand.tmp 10)
        have eg : a'.eval (.tmp 46) = .bool true := SV_val (hd.val 19 46 (by decide +kernel)) rfl
        refine ⟨46, true, rfl, eg, fun _ Q => ?_, fun h => absurd rfl h⟩
        have e10 := hk.at 10 (by decide +kernel)
        exact wp_value _ (by simp only [execOp, e10]; rfl) (SV_mk rfl rfl)
      · -- 22: Op.binOp BinOp.eql 4 (Operand.tmp 47) (Operand.tmp 48) 4
        have eg : a'.eval (.tmp 46) = .bool true := SV_val (hd.val 19 46 (by decide +kernel)) rfl
        refine ⟨46, true, rfl, eg, fun _ Q => ?_, fun h => absurd rfl h⟩
        have xe47 := SV_val (hd.val 20 47 (by decide +kernel)) rfl
        have e47 : a'.eval (.tmp 47) = .bool Z := xe47
        have xe48 := SV_val (hd.val 21 48 (by decide +kernel)) rfl
        have e48 : a'.eval (.tmp 48) = .bool Z := xe48
        clear hd hk xe47 xe48
        exact wp_value (.bool true) (by simp only [execOp, e47, e48]; go_simp) (SV_mk rfl rfl)
      · -- 23: Op.pick (Operand.tmp 46) (Operand.tmp 49) (Operand.const (Va
        intro Q
        have xe46 := SV_val (hd.val 19 46 (by decide +kernel)) rfl
        have e46 : a'.eval (.tmp 46) = .bool true := xe46
        have xe49 := SV_val (hd.val 22 49 (by decide +kernel)) rfl
        have e49 : a'.eval (.tmp 49) = .bool true := xe49
        clear hd hk xe46 xe49
        exact wp_value (.bool true) (by simp only [execOp, e46, e49]; go_simp) (SV_mk rfl rfl)
      · -- 24: Op.move (Operand.tmp 50)
        intro Q
        have xe50 := SV_val (hd.val 23 50 (by decide +kernel)) rfl
        have e50 : a'.eval (.tmp 50) = .bool true := xe50
        exact wp_value _ (by simp only [execOp, e50]; rfl) (SV_mk rfl rfl)
      · -- 25: Op.call ( callee := Callee.value (Operand.func 9), args := #
        have eg : a'.eval (.tmp 51) = .bool true := SV_val (hd.val 24 51 (by decide +kernel)) rfl
        refine ⟨51, true, rfl, eg, fun _ Q => ?_, fun h => absurd rfl h⟩
        refine wp_call 9 _ (run_enter 9 _ _ rfl (by kernel_rfl)) ?_
        simp only [List.map_toArray, List.map_nil]
        refine (lives_any _).mono ?_
        rintro e w3 ⟨rfl, hb3⟩
        exact ⟨_, rfl, SV_mk rfl rfl, hb3⟩
      · -- 26: Op.pick (Operand.tmp 51) (Operand.tmp 52) (Operand.const (Va
        intro Q
        have xe51 := SV_val (hd.val 24 51 (by decide +kernel)) rfl
        have e51 : a'.eval (.tmp 51) = .bool true := xe51
        have xe52 := SV_val (hd.val 25 52 (by decide +kernel)) rfl
        have e52 : a'.eval (.tmp 52) = .bool true := xe52
        clear hd hk xe51 xe52
        exact wp_value (.bool true) (by simp only [execOp, e51, e52]; go_simp) (SV_mk rfl rfl)
      · -- 27: Op.assign (Operand.tmp 53)
        intro Q
        have xe53 := SV_val (hd.val 26 53 (by decide +kernel)) rfl
        have e53 : a'.eval (.tmp 53) = .bool true := xe53
        exact wp_value _ (by simp only [execOp, e53]; rfl) (SV_mk rfl rfl)
    · intro a' w' hsz hdf hk hS hg
      have e4 : a'.eval (.tmp 4) = .bool true := SV_val (hS 27 _ 4 rfl rfl) rfl
      go_wp2
      exact bodyPost_ret (results_tmp Try.results3 _ _ _) hdf ⟨congrArg Ending.returned e4, hbw.trans (Below.mono hg hbw.size)⟩
#print axioms packNums_core
end Go.Proofs.Ytcfakmjkbgcbhaa
