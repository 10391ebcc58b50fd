/-
  indenturelaw01.PackOnce: the walk: the call returns true and makes new memory alone.
-/
import Derived.Test.YtcfakmjkbgcbhabBackWalk
namespace Go.Proofs.Ytcfakmjkbgcbhab
open Go.RowKit

theorem act_lit (a : Act) (n : Nat) (h : a.tmps.size = n) : a = { tmps := ((List.range n).map fun t => a.eval (.tmp t)).toArray, defers := a.defers } := by
  obtain ⟨tmps, defers⟩ := a
  congr 1
  apply Array.ext'
  apply List.ext_getElem?
  intro i
  simp only at h
  by_cases hi : i < n
  · have h1 : i < tmps.size := by omega
    simp [hi, h1, Act.eval]
  · have h1 : ¬ i < tmps.size := by omega
    simp [hi, h1]

/-- b[:k]. -/
theorem slice_to (b off n cap k : Nat) (hk : k ≤ n) (hc : n ≤ cap) (W : World) : (Instr.sliceAt 22 (.slice (some ⟨b, off, none⟩) n cap) none (some (.int .i64 (k : Int))) none).run Try.prog W = .ok (.slice (some ⟨b, off, none⟩) k cap) W := by
  have hu : Try.prog.underlying 22 = some (.slice (Try.prog.elem 22)) := by kernel_rfl
  have hs : (sizeOf (Try.prog.elem 22)).run Try.prog W = .ok 1 W := by
    have he : Try.prog.elem 22 = 5 := by kernel_rfl
    obtain ⟨i0, hi, hz0, hz1, hz2⟩ := info_parts Try.info5
    rw [he]
    simp [sizeOf, typeInfo, hi, hz1]
  rw [run_sliceAt_slice W 22 _ _ _ _ hu, run_slice_h W 22 _ _ _ hu .i64 (k : Int) (by omega) (by omega), hs]
  simp [Result.andThen, sliced, Addr.add_lit]

theorem sls_toS (ts : List (List UInt8)) : sls (toS ts) = ts := by
  unfold sls toS
  rw [List.map_map]
  conv => rhs; rw [← List.map_id ts]
  apply List.map_congr_left
  intro t _
  rfl

set_option maxRecDepth 100000 in
set_option maxHeartbeats 4000000 in
theorem once_fff (v : Value) (l : List UInt8) (w : World) (hr : Rd w v l) (hl : l.length ≤ 3000) (n k x y : Nat) (t : List UInt8) (ts : List (List UInt8)) (hgn : gn l = (n, k, false)) (hgs : gs l 3000 = (t, x, false)) (hgL : gL l 300 3000 = (ts, y, false)) :
    Calls Try.prog 3 #[v] w fun e w' => e = .returned (.bool true) ∧ Below w.heap.size w w' := by
  have hr0 := hr
  obtain ⟨a, cap, rfl, hcap, -, -, h4⟩ := hr
  have hl' : ¬ (3000 : Int) < l.length := by omega
  clear h4
  have HGS : Hid (gs l 3000 = (t, x, false)) := hgs
  have HGL : Hid (gL l 300 3000 = (ts, y, false)) := hgL
  clear hgs hgL
  go_enter Try.func3, Try.ntmps3
  go_wp2_with fail
  refine (getNum_any _ l _ hr0 (by omega)).mono ?_
  rw [hgn]
  rintro e w1 ⟨rfl, hb1⟩
  clear hgn
  go_wp2_with fail
  refine (getStr_k _ l 3000 _ t x false HGS (hr0.kept hb1) (by omega) (wf_small (by omega) (by omega))).mono ?_
  rintro e w2 ⟨rfl, hb2⟩
  have hb12 := hb1.trans (hb2.mono hb1.size)
  clear hb1 hb2
  go_wp2_with fail
  refine (getList_any _ l 300 3000 _ (hr0.kept hb12) (by omega) (wf_small (by omega) (by omega)) (wf_small (by omega) (by omega))).mono ?_
  rintro e w3 ⟨vl, ts3, y3, ok3, rfl, ho3, hg3, hb3⟩
  have e3 := HGL.out.symm.trans hg3
  simp only [Prod.mk.injEq] at e3
  obtain ⟨rfl, rfl, rfl⟩ := e3
  have hbw : Below w.heap.size w w3 := hb12.trans (hb3.mono hb12.size)
  have hr2 := hr0.kept hbw
  have hvl := ho3.rdS
  clear hg3 hb3 hb12 ho3 HGS HGL hr0
  go_wp2_with fail
  refine wp_region_inv Try.mixed (SV (fun i => match i with
      | 0 | 1 | 10 | 11 | 12 | 13 | 22 | 23 | 24 | 25 | 26 | 35 | 36 => .bool false
      | _ => undef) (fun i => match i with
      | _ => none)) 83 rfl (by decide +kernel) (SV_mono _ _) ?_ ?_
  · refine AllFrom.cons (fun a' w' hg hk hd => ?_) (AllFrom.cons (fun a' w' hg hk hd => ?_) (AllFrom.cons (fun a' w' hg hk hd => ?_) (AllFrom.cons (fun a' w' hg hk hd => ?_) (AllFrom.cons (fun a' w' hg hk hd => ?_) (AllFrom.cons (fun a' w' hg hk hd => ?_) (AllFrom.cons (fun a' w' hg hk hd => ?_) (AllFrom.cons (fun a' w' hg hk hd => ?_) (AllFrom.cons (fun a' w' hg hk hd => ?_) (AllFrom.cons (fun a' w' hg hk hd => ?_) (AllFrom.cons (fun a' w' hg hk hd => ?_) (AllFrom.cons (fun a' w' hg hk hd => ?_) (AllFrom.cons (fun a' w' hg hk hd => ?_) (AllFrom.cons (fun a' w' hg hk hd => ?_) (AllFrom.cons (fun a' w' hg hk hd => ?_) (AllFrom.cons (fun a' w' hg hk hd => ?_) (AllFrom.cons (fun a' w' hg hk hd => ?_) (AllFrom.cons (fun a' w' hg hk hd => ?_) (AllFrom.cons (fun a' w' hg hk hd => ?_) (AllFrom.cons (fun a' w' hg hk hd => ?_) (AllFrom.cons (fun a' w' hg hk hd => ?_) (AllFrom.cons (fun a' w' hg hk hd => ?_) (AllFrom.cons (fun a' w' hg hk hd => ?_) (AllFrom.cons (fun a' w' hg hk hd => ?_) (AllFrom.cons (fun a' w' hg hk hd => ?_) (AllFrom.cons (fun a' w' hg hk hd => ?_) (AllFrom.cons (fun a' w' hg hk hd => ?_) (AllFrom.cons (fun a' w' hg hk hd => ?_) (AllFrom.cons (fun a' w' hg hk hd => ?_) (AllFrom.cons (fun a' w' hg hk hd => ?_) (AllFrom.cons (fun a' w' hg hk hd => ?_) (AllFrom.cons (fun a' w' hg hk hd => ?_) (AllFrom.cons (fun a' w' hg hk hd => ?_) (AllFrom.cons (fun a' w' hg hk hd => ?_) (AllFrom.cons (fun a' w' hg hk hd => ?_) (AllFrom.cons (fun a' w' hg hk hd => ?_) (AllFrom.cons (fun a' w' hg hk hd => ?_) AllFrom.nil))))))))))))))))))))))))))))))))))))
    · -- 0: Op.move (Operand.tmp 5)
      intro Q
      have e5 := hk.at 5 (by decide +kernel)
      exact wp_value _ (by simp only [execOp, e5]; rfl) (SV_mk rfl rfl)
    · -- 1: Op.move (Operand.tmp 34)
      intro Q
      have xe34 := SV_val (hd.val 0 34 (by decide +kernel)) rfl
      have e34 : a'.eval (.tmp 34) = .bool false := xe34
      exact wp_value _ (by simp only [execOp, e34]; rfl) (SV_mk rfl rfl)
    · -- 2: Op.move (Operand.tmp 3)
      have eg : a'.eval (.tmp 35) = .bool false := SV_val (hd.val 1 35 (by decide +kernel)) rfl
      exact ⟨35, false, rfl, eg, fun h => absurd h (by decide), fun _ => SV_mk rfl rfl⟩
    · -- 3: Op.call ( callee := Callee.value (Operand.func 8), args := #
      have eg : a'.eval (.tmp 35) = .bool false := SV_val (hd.val 1 35 (by decide +kernel)) rfl
      exact ⟨35, false, rfl, eg, fun h => absurd h (by decide), fun _ => SV_mk rfl rfl⟩
    · -- 4: Op.convert 22 9 (Operand.tmp 37)
      have eg : a'.eval (.tmp 35) = .bool false := SV_val (hd.val 1 35 (by decide +kernel)) rfl
      exact ⟨35, false, rfl, eg, fun h => absurd h (by decide), fun _ => SV_mk rfl rfl⟩
    · -- 5: Op.move (Operand.tmp 0)
      have eg : a'.eval (.tmp 35) = .bool false := SV_val (hd.val 1 35 (by decide +kernel)) rfl
      exact ⟨35, false, rfl, eg, fun h => absurd h (by decide), fun _ => SV_mk rfl rfl⟩
    · -- 6: Op.move (Operand.tmp 4)
      have eg : a'.eval (.tmp 35) = .bool false := SV_val (hd.val 1 35 (by decide +kernel)) rfl
      exact ⟨35, false, rfl, eg, fun h => absurd h (by decide), fun _ => SV_mk rfl rfl⟩
    · -- 7: Op.slice 22 (Operand.tmp 39) none (some (Operand.tmp 40)) no
      have eg : a'.eval (.tmp 35) = .bool false := SV_val (hd.val 1 35 (by decide +kernel)) rfl
      exact ⟨35, false, rfl, eg, fun h => absurd h (by decide), fun _ => SV_mk rfl rfl⟩
    · -- 8: Op.convert 22 9 (Operand.tmp 41)
      have eg : a'.eval (.tmp 35) = .bool false := SV_val (hd.val 1 35 (by decide +kernel)) rfl
      exact ⟨35, false, rfl, eg, fun h => absurd h (by decide), fun _ => SV_mk rfl rfl⟩
    · -- 9: Op.binOp BinOp.neq 9 (Operand.tmp 38) (Operand.tmp 42) 9
      have eg : a'.eval (.tmp 35) = .bool false := SV_val (hd.val 1 35 (by decide +kernel)) rfl
      exact ⟨35, false, rfl, eg, fun h => absurd h (by decide), fun _ => SV_mk rfl rfl⟩
    · -- 10: Op.pick (Operand.tmp 35) (Operand.tmp 43) (Operand.const (Va
      intro Q
      have xe35 := SV_val (hd.val 1 35 (by decide +kernel)) rfl
      have e35 : a'.eval (.tmp 35) = .bool false := xe35
      have xe43 := SV_val (hd.val 9 43 (by decide +kernel)) rfl
      have e43 : a'.eval (.tmp 43) = undef := xe43
      clear hd hk xe35 xe43
      exact wp_value (.bool false) (by simp only [execOp, e35, e43]; go_simp) (SV_mk rfl rfl)
    · -- 11: Op.move (Operand.tmp 44)
      intro Q
      have xe44 := SV_val (hd.val 10 44 (by decide +kernel)) rfl
      have e44 : a'.eval (.tmp 44) = .bool false := xe44
      exact wp_value _ (by simp only [execOp, e44]; rfl) (SV_mk rfl rfl)
    · -- 12: Op.move (Operand.tmp 8)
      have eg : a'.eval (.tmp 45) = .bool false := SV_val (hd.val 11 45 (by decide +kernel)) rfl
      refine ⟨45, false, rfl, eg, fun _ Q => ?_, fun h => absurd rfl h⟩
      have e8 := hk.at 8 (by decide +kernel)
      exact wp_value _ (by simp only [execOp, e8]; rfl) (SV_mk rfl rfl)
    · -- 13: Op.move (Operand.tmp 46)
      have eg : a'.eval (.tmp 45) = .bool false := SV_val (hd.val 11 45 (by decide +kernel)) rfl
      refine ⟨45, false, rfl, eg, fun _ Q => ?_, fun h => absurd rfl h⟩
      have xe46 := SV_val (hd.val 12 46 (by decide +kernel)) rfl
      have e46 : a'.eval (.tmp 46) = .bool false := xe46
      exact wp_value _ (by simp only [execOp, e46]; rfl) (SV_mk rfl rfl)
    · -- 14: Op.move (Operand.tmp 6)
      have eg : a'.eval (.tmp 47) = .bool false := SV_val (hd.val 13 47 (by decide +kernel)) rfl
      exact ⟨47, false, rfl, eg, fun h => absurd h (by decide), fun _ => SV_mk rfl rfl⟩
    · -- 15: Op.call ( callee := Callee.value (Operand.func 9), args := #
      have eg : a'.eval (.tmp 47) = .bool false := SV_val (hd.val 13 47 (by decide +kernel)) rfl
      exact ⟨47, false, rfl, eg, fun h => absurd h (by decide), fun _ => SV_mk rfl rfl⟩
    · -- 16: Op.convert 22 9 (Operand.tmp 49)
      have eg : a'.eval (.tmp 47) = .bool false := SV_val (hd.val 13 47 (by decide +kernel)) rfl
      exact ⟨47, false, rfl, eg, fun h => absurd h (by decide), fun _ => SV_mk rfl rfl⟩
    · -- 17: Op.move (Operand.tmp 0)
      have eg : a'.eval (.tmp 47) = .bool false := SV_val (hd.val 13 47 (by decide +kernel)) rfl
      exact ⟨47, false, rfl, eg, fun h => absurd h (by decide), fun _ => SV_mk rfl rfl⟩
    · -- 18: Op.move (Operand.tmp 7)
      have eg : a'.eval (.tmp 47) = .bool false := SV_val (hd.val 13 47 (by decide +kernel)) rfl
      exact ⟨47, false, rfl, eg, fun h => absurd h (by decide), fun _ => SV_mk rfl rfl⟩
    · -- 19: Op.slice 22 (Operand.tmp 51) none (some (Operand.tmp 52)) no
      have eg : a'.eval (.tmp 47) = .bool false := SV_val (hd.val 13 47 (by decide +kernel)) rfl
      exact ⟨47, false, rfl, eg, fun h => absurd h (by decide), fun _ => SV_mk rfl rfl⟩
    · -- 20: Op.convert 22 9 (Operand.tmp 53)
      have eg : a'.eval (.tmp 47) = .bool false := SV_val (hd.val 13 47 (by decide +kernel)) rfl
      exact ⟨47, false, rfl, eg, fun h => absurd h (by decide), fun _ => SV_mk rfl rfl⟩
    · -- 21: Op.binOp BinOp.neq 9 (Operand.tmp 50) (Operand.tmp 54) 9
      have eg : a'.eval (.tmp 47) = .bool false := SV_val (hd.val 13 47 (by decide +kernel)) rfl
      exact ⟨47, false, rfl, eg, fun h => absurd h (by decide), fun _ => SV_mk rfl rfl⟩
    · -- 22: Op.pick (Operand.tmp 47) (Operand.tmp 55) (Operand.const (Va
      have eg : a'.eval (.tmp 45) = .bool false := SV_val (hd.val 11 45 (by decide +kernel)) rfl
      refine ⟨45, false, rfl, eg, fun _ Q => ?_, fun h => absurd rfl h⟩
      have xe47 := SV_val (hd.val 13 47 (by decide +kernel)) rfl
      have e47 : a'.eval (.tmp 47) = .bool false := xe47
      have xe55 := SV_val (hd.val 21 55 (by decide +kernel)) rfl
      have e55 : a'.eval (.tmp 55) = undef := xe55
      clear hd hk xe47 xe55
      exact wp_value (.bool false) (by simp only [execOp, e47, e55]; go_simp) (SV_mk rfl rfl)
    · -- 23: Op.pick (Operand.tmp 45) (Operand.const (Value.bool true)) (
      intro Q
      have xe45 := SV_val (hd.val 11 45 (by decide +kernel)) rfl
      have e45 : a'.eval (.tmp 45) = .bool false := xe45
      have xe56 := SV_val (hd.val 22 56 (by decide +kernel)) rfl
      have e56 : a'.eval (.tmp 56) = .bool false := xe56
      clear hd hk xe45 xe56
      exact wp_value (.bool false) (by simp only [execOp, e45, e56]; go_simp) (SV_mk rfl rfl)
    · -- 24: Op.move (Operand.tmp 57)
      intro Q
      have xe57 := SV_val (hd.val 23 57 (by decide +kernel)) rfl
      have e57 : a'.eval (.tmp 57) = .bool false := xe57
      exact wp_value _ (by simp only [execOp, e57]; rfl) (SV_mk rfl rfl)
    · -- 25: Op.move (Operand.tmp 11)
      have eg : a'.eval (.tmp 58) = .bool false := SV_val (hd.val 24 58 (by decide +kernel)) rfl
      refine ⟨58, false, rfl, eg, fun _ Q => ?_, fun h => absurd rfl h⟩
      have e11 := hk.at 11 (by decide +kernel)
      exact wp_value _ (by simp only [execOp, e11]; rfl) (SV_mk rfl rfl)
    · -- 26: Op.move (Operand.tmp 59)
      have eg : a'.eval (.tmp 58) = .bool false := SV_val (hd.val 24 58 (by decide +kernel)) rfl
      refine ⟨58, false, rfl, eg, fun _ Q => ?_, fun h => absurd rfl h⟩
      have xe59 := SV_val (hd.val 25 59 (by decide +kernel)) rfl
      have e59 : a'.eval (.tmp 59) = .bool false := xe59
      exact wp_value _ (by simp only [execOp, e59]; rfl) (SV_mk rfl rfl)
    · -- 27: Op.move (Operand.tmp 9)
      have eg : a'.eval (.tmp 60) = .bool false := SV_val (hd.val 26 60 (by decide +kernel)) rfl
      exact ⟨60, false, rfl, eg, fun h => absurd h (by decide), fun _ => SV_mk rfl rfl⟩
    · -- 28: Op.call ( callee := Callee.value (Operand.func 10), args := 
      have eg : a'.eval (.tmp 60) = .bool false := SV_val (hd.val 26 60 (by decide +kernel)) rfl
      exact ⟨60, false, rfl, eg, fun h => absurd h (by decide), fun _ => SV_mk rfl rfl⟩
    · -- 29: Op.convert 22 9 (Operand.tmp 62)
      have eg : a'.eval (.tmp 60) = .bool false := SV_val (hd.val 26 60 (by decide +kernel)) rfl
      exact ⟨60, false, rfl, eg, fun h => absurd h (by decide), fun _ => SV_mk rfl rfl⟩
    · -- 30: Op.move (Operand.tmp 0)
      have eg : a'.eval (.tmp 60) = .bool false := SV_val (hd.val 26 60 (by decide +kernel)) rfl
      exact ⟨60, false, rfl, eg, fun h => absurd h (by decide), fun _ => SV_mk rfl rfl⟩
    · -- 31: Op.move (Operand.tmp 10)
      have eg : a'.eval (.tmp 60) = .bool false := SV_val (hd.val 26 60 (by decide +kernel)) rfl
      exact ⟨60, false, rfl, eg, fun h => absurd h (by decide), fun _ => SV_mk rfl rfl⟩
    · -- 32: Op.slice 22 (Operand.tmp 64) none (some (Operand.tmp 65)) no
      have eg : a'.eval (.tmp 60) = .bool false := SV_val (hd.val 26 60 (by decide +kernel)) rfl
      exact ⟨60, false, rfl, eg, fun h => absurd h (by decide), fun _ => SV_mk rfl rfl⟩
    · -- 33: Op.convert 22 9 (Operand.tmp 66)
      have eg : a'.eval (.tmp 60) = .bool false := SV_val (hd.val 26 60 (by decide +kernel)) rfl
      exact ⟨60, false, rfl, eg, fun h => absurd h (by decide), fun _ => SV_mk rfl rfl⟩
    · -- 34: Op.binOp BinOp.neq 9 (Operand.tmp 63) (Operand.tmp 67) 9
      have eg : a'.eval (.tmp 60) = .bool false := SV_val (hd.val 26 60 (by decide +kernel)) rfl
      exact ⟨60, false, rfl, eg, fun h => absurd h (by decide), fun _ => SV_mk rfl rfl⟩
    · -- 35: Op.pick (Operand.tmp 60) (Operand.tmp 68) (Operand.const (Va
      have eg : a'.eval (.tmp 58) = .bool false := SV_val (hd.val 24 58 (by decide +kernel)) rfl
      refine ⟨58, false, rfl, eg, fun _ Q => ?_, fun h => absurd rfl h⟩
      have xe60 := SV_val (hd.val 26 60 (by decide +kernel)) rfl
      have e60 : a'.eval (.tmp 60) = .bool false := xe60
      have xe68 := SV_val (hd.val 34 68 (by decide +kernel)) rfl
      have e68 : a'.eval (.tmp 68) = undef := xe68
      clear hd hk xe60 xe68
      exact wp_value (.bool false) (by simp only [execOp, e60, e68]; go_simp) (SV_mk rfl rfl)
    · -- 36: Op.pick (Operand.tmp 58) (Operand.const (Value.bool true)) (
      intro Q
      have xe58 := SV_val (hd.val 24 58 (by decide +kernel)) rfl
      have e58 : a'.eval (.tmp 58) = .bool false := xe58
      have xe69 := SV_val (hd.val 35 69 (by decide +kernel)) rfl
      have e69 : a'.eval (.tmp 69) = .bool false := xe69
      clear hd hk xe58 xe69
      exact wp_value (.bool false) (by simp only [execOp, e58, e69]; go_simp) (SV_mk rfl rfl)
  · intro a' w' hsz' hdf hk hS hg
    have x70 := SV_val (hS 36 _ 70 rfl rfl) rfl
    have e70 : a'.eval (.tmp 70) = .bool false := x70
    have e5 : a'.eval (.tmp 5) = .bool false := hk.at 5 (by decide +kernel)
    have e8 : a'.eval (.tmp 8) = .bool false := hk.at 8 (by decide +kernel)
    have e11 : a'.eval (.tmp 11) = .bool false := hk.at 11 (by decide +kernel)
    obtain ⟨f, hf⟩ : ∃ f : Nat → Value, ∀ t, f t = a'.eval (.tmp t) := ⟨_, fun _ => rfl⟩
    have ha : a' = { tmps := #[f 0, f 1, f 2, f 3, f 4, f 5, f 6, f 7, f 8, f 9, f 10, f 11, f 12, f 13, f 14, f 15, f 16, f 17, f 18, f 19, f 20, f 21, f 22, f 23, f 24, f 25, f 26, f 27, f 28, f 29, f 30, f 31, f 32, f 33, f 34, f 35, f 36, f 37, f 38, f 39, f 40, f 41, f 42, f 43, f 44, f 45, f 46, f 47, f 48, f 49, f 50, f 51, f 52, f 53, f 54, f 55, f 56, f 57, f 58, f 59, f 60, f 61, f 62, f 63, f 64, f 65, f 66, f 67, f 68, f 69, f 70, f 71, f 72, f 73, f 74, f 75, f 76, f 77, f 78, f 79, f 80, f 81, f 82], defers := [] } := (act_lit a' 83 hsz').trans (by rw [hdf]; simp only [← hf]; rfl)
    rw [← hf] at e70 e5 e8 e11
    rw [e70, e5, e8, e11] at ha
    have hbg : Below w.heap.size w w' := hbw.trans (Below.mono hg hbw.size)
    clear hf hk hS hsz' hdf hg x70
    subst ha
    go_wp2_with fail
    refine (lives_any _).mono ?_
    rintro e w5 ⟨rfl, hb5⟩
    go_wp2_with fail
    go_ret
    exact ⟨rfl, hbg.trans (hb5.mono hbg.size)⟩

set_option maxRecDepth 100000 in
set_option maxHeartbeats 4000000 in
theorem once_tff (v : Value) (l : List UInt8) (w : World) (hr : Rd w v l) (hl : l.length ≤ 3000) (n k x y : Nat) (t : List UInt8) (ts : List (List UInt8)) (hgn : gn l = (n, k, true)) (hgs : gs l 3000 = (t, x, false)) (hgL : gL l 300 3000 = (ts, y, false)) (hn8 : Hid (n < 256 ^ 8)) (hkl : k ≤ l.length) (hek : l.take k = enc n) :
    Calls Try.prog 3 #[v] w fun e w' => e = .returned (.bool true) ∧ Below w.heap.size w w' := by
  have hr0 := hr
  obtain ⟨a, cap, rfl, hcap, -, -, h4⟩ := hr
  have hl' : ¬ (3000 : Int) < l.length := by omega
  obtain ⟨hk1, -, -, -, -⟩ := gn_ok hgn
  obtain ⟨b, off, rfl, -⟩ := h4 (by omega)
  clear h4
  have HGS : Hid (gs l 3000 = (t, x, false)) := hgs
  have HGL : Hid (gL l 300 3000 = (ts, y, false)) := hgL
  clear hgs hgL
  go_enter Try.func3, Try.ntmps3
  go_wp2_with fail
  refine (getNum_any _ l _ hr0 (by omega)).mono ?_
  rw [hgn]
  rintro e w1 ⟨rfl, hb1⟩
  clear hgn
  go_wp2_with fail
  refine (getStr_k _ l 3000 _ t x false HGS (hr0.kept hb1) (by omega) (wf_small (by omega) (by omega))).mono ?_
  rintro e w2 ⟨rfl, hb2⟩
  have hb12 := hb1.trans (hb2.mono hb1.size)
  clear hb1 hb2
  go_wp2_with fail
  refine (getList_any _ l 300 3000 _ (hr0.kept hb12) (by omega) (wf_small (by omega) (by omega)) (wf_small (by omega) (by omega))).mono ?_
  rintro e w3 ⟨vl, ts3, y3, ok3, rfl, ho3, hg3, hb3⟩
  have e3 := HGL.out.symm.trans hg3
  simp only [Prod.mk.injEq] at e3
  obtain ⟨rfl, rfl, rfl⟩ := e3
  have hbw : Below w.heap.size w w3 := hb12.trans (hb3.mono hb12.size)
  have hr2 := hr0.kept hbw
  have hvl := ho3.rdS
  clear hg3 hb3 hb12 ho3 HGS HGL hr0
  go_wp2_with fail
  refine wp_region_inv Try.mixed (SV (fun i => match i with
      | 0 | 1 => .bool true
      | 2 => .int .u64 n
      | 4 | 8 => .string ⟨(enc n).toArray⟩
      | 5 => .slice (some ⟨b, off, none⟩) l.length cap
      | 6 => .int .i64 (k : Int)
      | 7 => .slice (some ⟨b, off, none⟩) k cap
      | 9 | 10 | 11 | 12 | 13 | 22 | 23 | 24 | 25 | 26 | 35 | 36 => .bool false
      | _ => undef) (fun i => match i with
      | 3 => some (enc n)
      | _ => none)) 83 rfl (by decide +kernel) (SV_mono _ _) ?_ ?_
  · refine AllFrom.cons (fun a' w' hg hk hd => ?_) (AllFrom.cons (fun a' w' hg hk hd => ?_) (AllFrom.cons (fun a' w' hg hk hd => ?_) (AllFrom.cons (fun a' w' hg hk hd => ?_) (AllFrom.cons (fun a' w' hg hk hd => ?_) (AllFrom.cons (fun a' w' hg hk hd => ?_) (AllFrom.cons (fun a' w' hg hk hd => ?_) (AllFrom.cons (fun a' w' hg hk hd => ?_) (AllFrom.cons (fun a' w' hg hk hd => ?_) (AllFrom.cons (fun a' w' hg hk hd => ?_) (AllFrom.cons (fun a' w' hg hk hd => ?_) (AllFrom.cons (fun a' w' hg hk hd => ?_) (AllFrom.cons (fun a' w' hg hk hd => ?_) (AllFrom.cons (fun a' w' hg hk hd => ?_) (AllFrom.cons (fun a' w' hg hk hd => ?_) (AllFrom.cons (fun a' w' hg hk hd => ?_) (AllFrom.cons (fun a' w' hg hk hd => ?_) (AllFrom.cons (fun a' w' hg hk hd => ?_) (AllFrom.cons (fun a' w' hg hk hd => ?_) (AllFrom.cons (fun a' w' hg hk hd => ?_) (AllFrom.cons (fun a' w' hg hk hd => ?_) (AllFrom.cons (fun a' w' hg hk hd => ?_) (AllFrom.cons (fun a' w' hg hk hd => ?_) (AllFrom.cons (fun a' w' hg hk hd => ?_) (AllFrom.cons (fun a' w' hg hk hd => ?_) (AllFrom.cons (fun a' w' hg hk hd => ?_) (AllFrom.cons (fun a' w' hg hk hd => ?_) (AllFrom.cons (fun a' w' hg hk hd => ?_) (AllFrom.cons (fun a' w' hg hk hd => ?_) (AllFrom.cons (fun a' w' hg hk hd => ?_) (AllFrom.cons (fun a' w' hg hk hd => ?_) (AllFrom.cons (fun a' w' hg hk hd => ?_) (AllFrom.cons (fun a' w' hg hk hd => ?_) (AllFrom.cons (fun a' w' hg hk hd => ?_) (AllFrom.cons (fun a' w' hg hk hd => ?_) (AllFrom.cons (fun a' w' hg hk hd => ?_) (AllFrom.cons (fun a' w' hg hk hd => ?_) AllFrom.nil))))))))))))))))))))))))))))))))))))
    · -- 0: Op.move (Operand.tmp 5)
      intro Q
      have e5 := hk.at 5 (by decide +kernel)
      exact wp_value _ (by simp only [execOp, e5]; rfl) (SV_mk rfl rfl)
    · -- 1: Op.move (Operand.tmp 34)
      intro Q
      have xe34 := SV_val (hd.val 0 34 (by decide +kernel)) rfl
      have e34 : a'.eval (.tmp 34) = .bool true := xe34
      exact wp_value _ (by simp only [execOp, e34]; rfl) (SV_mk rfl rfl)
    · -- 2: Op.move (Operand.tmp 3)
      have eg : a'.eval (.tmp 35) = .bool true := SV_val (hd.val 1 35 (by decide +kernel)) rfl
      refine ⟨35, true, rfl, eg, fun _ Q => ?_, fun h => absurd rfl h⟩
      have e3 := hk.at 3 (by decide +kernel)
      exact wp_value _ (by simp only [execOp, e3]; rfl) (SV_mk rfl rfl)
    · -- 3: Op.call ( callee := Callee.value (Operand.func 8), args := #
      have eg : a'.eval (.tmp 35) = .bool true := SV_val (hd.val 1 35 (by decide +kernel)) rfl
      refine ⟨35, true, rfl, eg, fun _ Q => ?_, fun h => absurd rfl h⟩
      have xe36 := SV_val (hd.val 2 36 (by decide +kernel)) rfl
      have e36 : a'.eval (.tmp 36) = .int .u64 n := xe36
      refine wp_call 8 _ (run_enter 8 _ _ rfl (by kernel_rfl)) ?_
      simp only [List.map_toArray, List.map_nil, List.map_cons, e36]
      refine (num_any _ [] n _ (Rd_nil _) hn8 (by simp)).mono ?_
      rintro e w5 ⟨v5, rfl, ho5, hb5⟩
      exact ⟨v5, rfl, SV_mko rfl _ ho5, hb5⟩
    · -- 4: Op.convert 22 9 (Operand.tmp 37)
      have eg : a'.eval (.tmp 35) = .bool true := SV_val (hd.val 1 35 (by decide +kernel)) rfl
      refine ⟨35, true, rfl, eg, fun _ Q => ?_, fun h => absurd rfl h⟩
      obtain ⟨B3, e37⟩ := SV_own (hd.val 3 37 (by decide +kernel)) rfl
      exact wp_value _ (by simp [execOp, own_conv e37 rfl]) (SV_mk rfl rfl)
    · -- 5: Op.move (Operand.tmp 0)
      have eg : a'.eval (.tmp 35) = .bool true := SV_val (hd.val 1 35 (by decide +kernel)) rfl
      refine ⟨35, true, rfl, eg, fun _ Q => ?_, fun h => absurd rfl h⟩
      have e0 := hk.at 0 (by decide +kernel)
      exact wp_value _ (by simp only [execOp, e0]; rfl) (SV_mk rfl rfl)
    · -- 6: Op.move (Operand.tmp 4)
      have eg : a'.eval (.tmp 35) = .bool true := SV_val (hd.val 1 35 (by decide +kernel)) rfl
      refine ⟨35, true, rfl, eg, fun _ Q => ?_, fun h => absurd rfl h⟩
      have e4 := hk.at 4 (by decide +kernel)
      exact wp_value _ (by simp only [execOp, e4]; rfl) (SV_mk rfl rfl)
    · -- 7: Op.slice 22 (Operand.tmp 39) none (some (Operand.tmp 40)) no
      have eg : a'.eval (.tmp 35) = .bool true := SV_val (hd.val 1 35 (by decide +kernel)) rfl
      refine ⟨35, true, rfl, eg, fun _ Q => ?_, fun h => absurd rfl h⟩
      have xe39 := SV_val (hd.val 5 39 (by decide +kernel)) rfl
      have e39 : a'.eval (.tmp 39) = .slice (some ⟨b, off, none⟩) l.length cap := xe39
      have xe40 := SV_val (hd.val 6 40 (by decide +kernel)) rfl
      have e40 : a'.eval (.tmp 40) = .int .i64 (k : Int) := xe40
      clear hd hk
      exact wp_value (.slice (some ⟨b, off, none⟩) k cap) (by simp [execOp, e39, e40, slice_to b off l.length cap k hkl hcap]) (SV_mk rfl rfl)
    · -- 8: Op.convert 22 9 (Operand.tmp 41)
      have eg : a'.eval (.tmp 35) = .bool true := SV_val (hd.val 1 35 (by decide +kernel)) rfl
      refine ⟨35, true, rfl, eg, fun _ Q => ?_, fun h => absurd rfl h⟩
      have xe41 := SV_val (hd.val 7 41 (by decide +kernel)) rfl
      have e41 : a'.eval (.tmp 41) = .slice (some ⟨b, off, none⟩) k cap := xe41
      have cv := ((hr2.kept hg).take k hkl).conv (P := Try.prog) 22 9 Try.underlying22 Try.underlying5 Try.underlying9
      rw [hek] at cv
      clear hd hk
      exact wp_value _ (by simp [execOp, e41, cv]) (SV_mk rfl rfl)
    · -- 9: Op.binOp BinOp.neq 9 (Operand.tmp 38) (Operand.tmp 42) 9
      have eg : a'.eval (.tmp 35) = .bool true := SV_val (hd.val 1 35 (by decide +kernel)) rfl
      refine ⟨35, true, rfl, eg, fun _ Q => ?_, fun h => absurd rfl h⟩
      have xe38 := SV_val (hd.val 4 38 (by decide +kernel)) rfl
      have e38 : a'.eval (.tmp 38) = .string ⟨(enc n).toArray⟩ := xe38
      have xe42 := SV_val (hd.val 8 42 (by decide +kernel)) rfl
      have e42 : a'.eval (.tmp 42) = .string ⟨(enc n).toArray⟩ := xe42
      clear hd hk xe38 xe42
      exact wp_value (.bool false) (by simp only [execOp, e38, e42]; go_simp) (SV_mk rfl rfl)
    · -- 10: Op.pick (Operand.tmp 35) (Operand.tmp 43) (Operand.const (Va
      intro Q
      have xe35 := SV_val (hd.val 1 35 (by decide +kernel)) rfl
      have e35 : a'.eval (.tmp 35) = .bool true := xe35
      have xe43 := SV_val (hd.val 9 43 (by decide +kernel)) rfl
      have e43 : a'.eval (.tmp 43) = .bool false := xe43
      clear hd hk xe35 xe43
      exact wp_value (.bool false) (by simp only [execOp, e35, e43]; go_simp) (SV_mk rfl rfl)
    · -- 11: Op.move (Operand.tmp 44)
      intro Q
      have xe44 := SV_val (hd.val 10 44 (by decide +kernel)) rfl
      have e44 : a'.eval (.tmp 44) = .bool false := xe44
      exact wp_value _ (by simp only [execOp, e44]; rfl) (SV_mk rfl rfl)
    · -- 12: Op.move (Operand.tmp 8)
      have eg : a'.eval (.tmp 45) = .bool false := SV_val (hd.val 11 45 (by decide +kernel)) rfl
      refine ⟨45, false, rfl, eg, fun _ Q => ?_, fun h => absurd rfl h⟩
      have e8 := hk.at 8 (by decide +kernel)
      exact wp_value _ (by simp only [execOp, e8]; rfl) (SV_mk rfl rfl)
    · -- 13: Op.move (Operand.tmp 46)
      have eg : a'.eval (.tmp 45) = .bool false := SV_val (hd.val 11 45 (by decide +kernel)) rfl
      refine ⟨45, false, rfl, eg, fun _ Q => ?_, fun h => absurd rfl h⟩
      have xe46 := SV_val (hd.val 12 46 (by decide +kernel)) rfl
      have e46 : a'.eval (.tmp 46) = .bool false := xe46
      exact wp_value _ (by simp only [execOp, e46]; rfl) (SV_mk rfl rfl)
    · -- 14: Op.move (Operand.tmp 6)
      have eg : a'.eval (.tmp 47) = .bool false := SV_val (hd.val 13 47 (by decide +kernel)) rfl
      exact ⟨47, false, rfl, eg, fun h => absurd h (by decide), fun _ => SV_mk rfl rfl⟩
    · -- 15: Op.call ( callee := Callee.value (Operand.func 9), args := #
      have eg : a'.eval (.tmp 47) = .bool false := SV_val (hd.val 13 47 (by decide +kernel)) rfl
      exact ⟨47, false, rfl, eg, fun h => absurd h (by decide), fun _ => SV_mk rfl rfl⟩
    · -- 16: Op.convert 22 9 (Operand.tmp 49)
      have eg : a'.eval (.tmp 47) = .bool false := SV_val (hd.val 13 47 (by decide +kernel)) rfl
      exact ⟨47, false, rfl, eg, fun h => absurd h (by decide), fun _ => SV_mk rfl rfl⟩
    · -- 17: Op.move (Operand.tmp 0)
      have eg : a'.eval (.tmp 47) = .bool false := SV_val (hd.val 13 47 (by decide +kernel)) rfl
      exact ⟨47, false, rfl, eg, fun h => absurd h (by decide), fun _ => SV_mk rfl rfl⟩
    · -- 18: Op.move (Operand.tmp 7)
      have eg : a'.eval (.tmp 47) = .bool false := SV_val (hd.val 13 47 (by decide +kernel)) rfl
      exact ⟨47, false, rfl, eg, fun h => absurd h (by decide), fun _ => SV_mk rfl rfl⟩
    · -- 19: Op.slice 22 (Operand.tmp 51) none (some (Operand.tmp 52)) no
      have eg : a'.eval (.tmp 47) = .bool false := SV_val (hd.val 13 47 (by decide +kernel)) rfl
      exact ⟨47, false, rfl, eg, fun h => absurd h (by decide), fun _ => SV_mk rfl rfl⟩
    · -- 20: Op.convert 22 9 (Operand.tmp 53)
      have eg : a'.eval (.tmp 47) = .bool false := SV_val (hd.val 13 47 (by decide +kernel)) rfl
      exact ⟨47, false, rfl, eg, fun h => absurd h (by decide), fun _ => SV_mk rfl rfl⟩
    · -- 21: Op.binOp BinOp.neq 9 (Operand.tmp 50) (Operand.tmp 54) 9
      have eg : a'.eval (.tmp 47) = .bool false := SV_val (hd.val 13 47 (by decide +kernel)) rfl
      exact ⟨47, false, rfl, eg, fun h => absurd h (by decide), fun _ => SV_mk rfl rfl⟩
    · -- 22: Op.pick (Operand.tmp 47) (Operand.tmp 55) (Operand.const (Va
      have eg : a'.eval (.tmp 45) = .bool false := SV_val (hd.val 11 45 (by decide +kernel)) rfl
      refine ⟨45, false, rfl, eg, fun _ Q => ?_, fun h => absurd rfl h⟩
      have xe47 := SV_val (hd.val 13 47 (by decide +kernel)) rfl
      have e47 : a'.eval (.tmp 47) = .bool false := xe47
      have xe55 := SV_val (hd.val 21 55 (by decide +kernel)) rfl
      have e55 : a'.eval (.tmp 55) = undef := xe55
      clear hd hk xe47 xe55
      exact wp_value (.bool false) (by simp only [execOp, e47, e55]; go_simp) (SV_mk rfl rfl)
    · -- 23: Op.pick (Operand.tmp 45) (Operand.const (Value.bool true)) (
      intro Q
      have xe45 := SV_val (hd.val 11 45 (by decide +kernel)) rfl
      have e45 : a'.eval (.tmp 45) = .bool false := xe45
      have xe56 := SV_val (hd.val 22 56 (by decide +kernel)) rfl
      have e56 : a'.eval (.tmp 56) = .bool false := xe56
      clear hd hk xe45 xe56
      exact wp_value (.bool false) (by simp only [execOp, e45, e56]; go_simp) (SV_mk rfl rfl)
    · -- 24: Op.move (Operand.tmp 57)
      intro Q
      have xe57 := SV_val (hd.val 23 57 (by decide +kernel)) rfl
      have e57 : a'.eval (.tmp 57) = .bool false := xe57
      exact wp_value _ (by simp only [execOp, e57]; rfl) (SV_mk rfl rfl)
    · -- 25: Op.move (Operand.tmp 11)
      have eg : a'.eval (.tmp 58) = .bool false := SV_val (hd.val 24 58 (by decide +kernel)) rfl
      refine ⟨58, false, rfl, eg, fun _ Q => ?_, fun h => absurd rfl h⟩
      have e11 := hk.at 11 (by decide +kernel)
      exact wp_value _ (by simp only [execOp, e11]; rfl) (SV_mk rfl rfl)
    · -- 26: Op.move (Operand.tmp 59)
      have eg : a'.eval (.tmp 58) = .bool false := SV_val (hd.val 24 58 (by decide +kernel)) rfl
      refine ⟨58, false, rfl, eg, fun _ Q => ?_, fun h => absurd rfl h⟩
      have xe59 := SV_val (hd.val 25 59 (by decide +kernel)) rfl
      have e59 : a'.eval (.tmp 59) = .bool false := xe59
      exact wp_value _ (by simp only [execOp, e59]; rfl) (SV_mk rfl rfl)
    · -- 27: Op.move (Operand.tmp 9)
      have eg : a'.eval (.tmp 60) = .bool false := SV_val (hd.val 26 60 (by decide +kernel)) rfl
      exact ⟨60, false, rfl, eg, fun h => absurd h (by decide), fun _ => SV_mk rfl rfl⟩
    · -- 28: Op.call ( callee := Callee.value (Operand.func 10), args := 
      have eg : a'.eval (.tmp 60) = .bool false := SV_val (hd.val 26 60 (by decide +kernel)) rfl
      exact ⟨60, false, rfl, eg, fun h => absurd h (by decide), fun _ => SV_mk rfl rfl⟩
    · -- 29: Op.convert 22 9 (Operand.tmp 62)
      have eg : a'.eval (.tmp 60) = .bool false := SV_val (hd.val 26 60 (by decide +kernel)) rfl
      exact ⟨60, false, rfl, eg, fun h => absurd h (by decide), fun _ => SV_mk rfl rfl⟩
    · -- 30: Op.move (Operand.tmp 0)
      have eg : a'.eval (.tmp 60) = .bool false := SV_val (hd.val 26 60 (by decide +kernel)) rfl
      exact ⟨60, false, rfl, eg, fun h => absurd h (by decide), fun _ => SV_mk rfl rfl⟩
    · -- 31: Op.move (Operand.tmp 10)
      have eg : a'.eval (.tmp 60) = .bool false := SV_val (hd.val 26 60 (by decide +kernel)) rfl
      exact ⟨60, false, rfl, eg, fun h => absurd h (by decide), fun _ => SV_mk rfl rfl⟩
    · -- 32: Op.slice 22 (Operand.tmp 64) none (some (Operand.tmp 65)) no
      have eg : a'.eval (.tmp 60) = .bool false := SV_val (hd.val 26 60 (by decide +kernel)) rfl
      exact ⟨60, false, rfl, eg, fun h => absurd h (by decide), fun _ => SV_mk rfl rfl⟩
    · -- 33: Op.convert 22 9 (Operand.tmp 66)
      have eg : a'.eval (.tmp 60) = .bool false := SV_val (hd.val 26 60 (by decide +kernel)) rfl
      exact ⟨60, false, rfl, eg, fun h => absurd h (by decide), fun _ => SV_mk rfl rfl⟩
    · -- 34: Op.binOp BinOp.neq 9 (Operand.tmp 63) (Operand.tmp 67) 9
      have eg : a'.eval (.tmp 60) = .bool false := SV_val (hd.val 26 60 (by decide +kernel)) rfl
      exact ⟨60, false, rfl, eg, fun h => absurd h (by decide), fun _ => SV_mk rfl rfl⟩
    · -- 35: Op.pick (Operand.tmp 60) (Operand.tmp 68) (Operand.const (Va
      have eg : a'.eval (.tmp 58) = .bool false := SV_val (hd.val 24 58 (by decide +kernel)) rfl
      refine ⟨58, false, rfl, eg, fun _ Q => ?_, fun h => absurd rfl h⟩
      have xe60 := SV_val (hd.val 26 60 (by decide +kernel)) rfl
      have e60 : a'.eval (.tmp 60) = .bool false := xe60
      have xe68 := SV_val (hd.val 34 68 (by decide +kernel)) rfl
      have e68 : a'.eval (.tmp 68) = undef := xe68
      clear hd hk xe60 xe68
      exact wp_value (.bool false) (by simp only [execOp, e60, e68]; go_simp) (SV_mk rfl rfl)
    · -- 36: Op.pick (Operand.tmp 58) (Operand.const (Value.bool true)) (
      intro Q
      have xe58 := SV_val (hd.val 24 58 (by decide +kernel)) rfl
      have e58 : a'.eval (.tmp 58) = .bool false := xe58
      have xe69 := SV_val (hd.val 35 69 (by decide +kernel)) rfl
      have e69 : a'.eval (.tmp 69) = .bool false := xe69
      clear hd hk xe58 xe69
      exact wp_value (.bool false) (by simp only [execOp, e58, e69]; go_simp) (SV_mk rfl rfl)
  · intro a' w' hsz' hdf hk hS hg
    have x70 := SV_val (hS 36 _ 70 rfl rfl) rfl
    have e70 : a'.eval (.tmp 70) = .bool false := x70
    have e5 : a'.eval (.tmp 5) = .bool true := hk.at 5 (by decide +kernel)
    have e8 : a'.eval (.tmp 8) = .bool false := hk.at 8 (by decide +kernel)
    have e11 : a'.eval (.tmp 11) = .bool false := hk.at 11 (by decide +kernel)
    obtain ⟨f, hf⟩ : ∃ f : Nat → Value, ∀ t, f t = a'.eval (.tmp t) := ⟨_, fun _ => rfl⟩
    have ha : a' = { tmps := #[f 0, f 1, f 2, f 3, f 4, f 5, f 6, f 7, f 8, f 9, f 10, f 11, f 12, f 13, f 14, f 15, f 16, f 17, f 18, f 19, f 20, f 21, f 22, f 23, f 24, f 25, f 26, f 27, f 28, f 29, f 30, f 31, f 32, f 33, f 34, f 35, f 36, f 37, f 38, f 39, f 40, f 41, f 42, f 43, f 44, f 45, f 46, f 47, f 48, f 49, f 50, f 51, f 52, f 53, f 54, f 55, f 56, f 57, f 58, f 59, f 60, f 61, f 62, f 63, f 64, f 65, f 66, f 67, f 68, f 69, f 70, f 71, f 72, f 73, f 74, f 75, f 76, f 77, f 78, f 79, f 80, f 81, f 82], defers := [] } := (act_lit a' 83 hsz').trans (by rw [hdf]; simp only [← hf]; rfl)
    rw [← hf] at e70 e5 e8 e11
    rw [e70, e5, e8, e11] at ha
    have hbg : Below w.heap.size w w' := hbw.trans (Below.mono hg hbw.size)
    clear hf hk hS hsz' hdf hg x70
    subst ha
    go_wp2_with fail
    refine (lives_any _).mono ?_
    rintro e w5 ⟨rfl, hb5⟩
    go_wp2_with fail
    go_ret
    exact ⟨rfl, hbg.trans (hb5.mono hbg.size)⟩

set_option maxRecDepth 100000 in
set_option maxHeartbeats 4000000 in
theorem once_tft (v : Value) (l : List UInt8) (w : World) (hr : Rd w v l) (hl : l.length ≤ 3000) (n k x y : Nat) (t : List UInt8) (ts : List (List UInt8)) (hgn : gn l = (n, k, true)) (hgs : gs l 3000 = (t, x, false)) (hgL : gL l 300 3000 = (ts, y, true)) (hn8 : Hid (n < 256 ^ 8)) (hkl : k ≤ l.length) (hek : l.take k = enc n) (hyl : y ≤ l.length) (hey : l.take y = encL ts) :
    Calls Try.prog 3 #[v] w fun e w' => e = .returned (.bool true) ∧ Below w.heap.size w w' := by
  have hr0 := hr
  obtain ⟨a, cap, rfl, hcap, -, -, h4⟩ := hr
  have hl' : ¬ (3000 : Int) < l.length := by omega
  obtain ⟨hk1, -, -, -, -⟩ := gn_ok hgn
  obtain ⟨b, off, rfl, -⟩ := h4 (by omega)
  clear h4
  have hyc : (enc ts.length).length + (encT ts).length = y := by
    have := congrArg List.length hey
    simp only [encL, List.length_append, List.length_take] at this
    omega
  obtain ⟨htsl, -⟩ := gL_len hgL
  have HGS : Hid (gs l 3000 = (t, x, false)) := hgs
  have HGL : Hid (gL l 300 3000 = (ts, y, true)) := hgL
  clear hgs hgL
  go_enter Try.func3, Try.ntmps3
  go_wp2_with fail
  refine (getNum_any _ l _ hr0 (by omega)).mono ?_
  rw [hgn]
  rintro e w1 ⟨rfl, hb1⟩
  clear hgn
  go_wp2_with fail
  refine (getStr_k _ l 3000 _ t x false HGS (hr0.kept hb1) (by omega) (wf_small (by omega) (by omega))).mono ?_
  rintro e w2 ⟨rfl, hb2⟩
  have hb12 := hb1.trans (hb2.mono hb1.size)
  clear hb1 hb2
  go_wp2_with fail
  refine (getList_any _ l 300 3000 _ (hr0.kept hb12) (by omega) (wf_small (by omega) (by omega)) (wf_small (by omega) (by omega))).mono ?_
  rintro e w3 ⟨vl, ts3, y3, ok3, rfl, ho3, hg3, hb3⟩
  have e3 := HGL.out.symm.trans hg3
  simp only [Prod.mk.injEq] at e3
  obtain ⟨rfl, rfl, rfl⟩ := e3
  have hbw : Below w.heap.size w w3 := hb12.trans (hb3.mono hb12.size)
  have hr2 := hr0.kept hbw
  have hvl := ho3.rdS
  clear hg3 hb3 hb12 ho3 HGS HGL hr0
  go_wp2_with fail
  refine wp_region_inv Try.mixed (SV (fun i => match i with
      | 0 | 1 | 25 | 26 => .bool true
      | 2 => .int .u64 n
      | 4 | 8 => .string ⟨(enc n).toArray⟩
      | 5 | 30 => .slice (some ⟨b, off, none⟩) l.length cap
      | 6 => .int .i64 (k : Int)
      | 7 => .slice (some ⟨b, off, none⟩) k cap
      | 14 | 15 | 16 | 17 | 18 | 19 | 20 | 21 => undef
      | 27 => vl
      | 29 | 33 => .string ⟨(encL ts).toArray⟩
      | 31 => .int .i64 (y : Int)
      | 32 => .slice (some ⟨b, off, none⟩) y cap
      | _ => .bool false) (fun i => match i with
      | 3 => some (enc n)
      | 28 => some (encL ts)
      | _ => none)) 83 rfl (by decide +kernel) (SV_mono _ _) ?_ ?_
  · refine AllFrom.cons (fun a' w' hg hk hd => ?_) (AllFrom.cons (fun a' w' hg hk hd => ?_) (AllFrom.cons (fun a' w' hg hk hd => ?_) (AllFrom.cons (fun a' w' hg hk hd => ?_) (AllFrom.cons (fun a' w' hg hk hd => ?_) (AllFrom.cons (fun a' w' hg hk hd => ?_) (AllFrom.cons (fun a' w' hg hk hd => ?_) (AllFrom.cons (fun a' w' hg hk hd => ?_) (AllFrom.cons (fun a' w' hg hk hd => ?_) (AllFrom.cons (fun a' w' hg hk hd => ?_) (AllFrom.cons (fun a' w' hg hk hd => ?_) (AllFrom.cons (fun a' w' hg hk hd => ?_) (AllFrom.cons (fun a' w' hg hk hd => ?_) (AllFrom.cons (fun a' w' hg hk hd => ?_) (AllFrom.cons (fun a' w' hg hk hd => ?_) (AllFrom.cons (fun a' w' hg hk hd => ?_) (AllFrom.cons (fun a' w' hg hk hd => ?_) (AllFrom.cons (fun a' w' hg hk hd => ?_) (AllFrom.cons (fun a' w' hg hk hd => ?_) (AllFrom.cons (fun a' w' hg hk hd => ?_) (AllFrom.cons (fun a' w' hg hk hd => ?_) (AllFrom.cons (fun a' w' hg hk hd => ?_) (AllFrom.cons (fun a' w' hg hk hd => ?_) (AllFrom.cons (fun a' w' hg hk hd => ?_) (AllFrom.cons (fun a' w' hg hk hd => ?_) (AllFrom.cons (fun a' w' hg hk hd => ?_) (AllFrom.cons (fun a' w' hg hk hd => ?_) (AllFrom.cons (fun a' w' hg hk hd => ?_) (AllFrom.cons (fun a' w' hg hk hd => ?_) (AllFrom.cons (fun a' w' hg hk hd => ?_) (AllFrom.cons (fun a' w' hg hk hd => ?_) (AllFrom.cons (fun a' w' hg hk hd => ?_) (AllFrom.cons (fun a' w' hg hk hd => ?_) (AllFrom.cons (fun a' w' hg hk hd => ?_) (AllFrom.cons (fun a' w' hg hk hd => ?_) (AllFrom.cons (fun a' w' hg hk hd => ?_) (AllFrom.cons (fun a' w' hg hk hd => ?_) AllFrom.nil))))))))))))))))))))))))))))))))))))
    · -- 0: Op.move (Operand.tmp 5)
      intro Q
      have e5 := hk.at 5 (by decide +kernel)
      exact wp_value _ (by simp only [execOp, e5]; rfl) (SV_mk rfl rfl)
    · -- 1: Op.move (Operand.tmp 34)
      intro Q
      have xe34 := SV_val (hd.val 0 34 (by decide +kernel)) rfl
      have e34 : a'.eval (.tmp 34) = .bool true := xe34
      exact wp_value _ (by simp only [execOp, e34]; rfl) (SV_mk rfl rfl)
    · -- 2: Op.move (Operand.tmp 3)
      have eg : a'.eval (.tmp 35) = .bool true := SV_val (hd.val 1 35 (by decide +kernel)) rfl
      refine ⟨35, true, rfl, eg, fun _ Q => ?_, fun h => absurd rfl h⟩
      have e3 := hk.at 3 (by decide +kernel)
      exact wp_value _ (by simp only [execOp, e3]; rfl) (SV_mk rfl rfl)
    · -- 3: Op.call ( callee := Callee.value (Operand.func 8), args := #
      have eg : a'.eval (.tmp 35) = .bool true := SV_val (hd.val 1 35 (by decide +kernel)) rfl
      refine ⟨35, true, rfl, eg, fun _ Q => ?_, fun h => absurd rfl h⟩
      have xe36 := SV_val (hd.val 2 36 (by decide +kernel)) rfl
      have e36 : a'.eval (.tmp 36) = .int .u64 n := xe36
      refine wp_call 8 _ (run_enter 8 _ _ rfl (by kernel_rfl)) ?_
      simp only [List.map_toArray, List.map_nil, List.map_cons, e36]
      refine (num_any _ [] n _ (Rd_nil _) hn8 (by simp)).mono ?_
      rintro e w5 ⟨v5, rfl, ho5, hb5⟩
      exact ⟨v5, rfl, SV_mko rfl _ ho5, hb5⟩
    · -- 4: Op.convert 22 9 (Operand.tmp 37)
      have eg : a'.eval (.tmp 35) = .bool true := SV_val (hd.val 1 35 (by decide +kernel)) rfl
      refine ⟨35, true, rfl, eg, fun _ Q => ?_, fun h => absurd rfl h⟩
      obtain ⟨B3, e37⟩ := SV_own (hd.val 3 37 (by decide +kernel)) rfl
      exact wp_value _ (by simp [execOp, own_conv e37 rfl]) (SV_mk rfl rfl)
    · -- 5: Op.move (Operand.tmp 0)
      have eg : a'.eval (.tmp 35) = .bool true := SV_val (hd.val 1 35 (by decide +kernel)) rfl
      refine ⟨35, true, rfl, eg, fun _ Q => ?_, fun h => absurd rfl h⟩
      have e0 := hk.at 0 (by decide +kernel)
      exact wp_value _ (by simp only [execOp, e0]; rfl) (SV_mk rfl rfl)
    · -- 6: Op.move (Operand.tmp 4)
      have eg : a'.eval (.tmp 35) = .bool true := SV_val (hd.val 1 35 (by decide +kernel)) rfl
      refine ⟨35, true, rfl, eg, fun _ Q => ?_, fun h => absurd rfl h⟩
      have e4 := hk.at 4 (by decide +kernel)
      exact wp_value _ (by simp only [execOp, e4]; rfl) (SV_mk rfl rfl)
    · -- 7: Op.slice 22 (Operand.tmp 39) none (some (Operand.tmp 40)) no
      have eg : a'.eval (.tmp 35) = .bool true := SV_val (hd.val 1 35 (by decide +kernel)) rfl
      refine ⟨35, true, rfl, eg, fun _ Q => ?_, fun h => absurd rfl h⟩
      have xe39 := SV_val (hd.val 5 39 (by decide +kernel)) rfl
      have e39 : a'.eval (.tmp 39) = .slice (some ⟨b, off, none⟩) l.length cap := xe39
      have xe40 := SV_val (hd.val 6 40 (by decide +kernel)) rfl
      have e40 : a'.eval (.tmp 40) = .int .i64 (k : Int) := xe40
      clear hd hk
      exact wp_value (.slice (some ⟨b, off, none⟩) k cap) (by simp [execOp, e39, e40, slice_to b off l.length cap k hkl hcap]) (SV_mk rfl rfl)
    · -- 8: Op.convert 22 9 (Operand.tmp 41)
      have eg : a'.eval (.tmp 35) = .bool true := SV_val (hd.val 1 35 (by decide +kernel)) rfl
      refine ⟨35, true, rfl, eg, fun _ Q => ?_, fun h => absurd rfl h⟩
      have xe41 := SV_val (hd.val 7 41 (by decide +kernel)) rfl
      have e41 : a'.eval (.tmp 41) = .slice (some ⟨b, off, none⟩) k cap := xe41
      have cv := ((hr2.kept hg).take k hkl).conv (P := Try.prog) 22 9 Try.underlying22 Try.underlying5 Try.underlying9
      rw [hek] at cv
      clear hd hk
      exact wp_value _ (by simp [execOp, e41, cv]) (SV_mk rfl rfl)
    · -- 9: Op.binOp BinOp.neq 9 (Operand.tmp 38) (Operand.tmp 42) 9
      have eg : a'.eval (.tmp 35) = .bool true := SV_val (hd.val 1 35 (by decide +kernel)) rfl
      refine ⟨35, true, rfl, eg, fun _ Q => ?_, fun h => absurd rfl h⟩
      have xe38 := SV_val (hd.val 4 38 (by decide +kernel)) rfl
      have e38 : a'.eval (.tmp 38) = .string ⟨(enc n).toArray⟩ := xe38
      have xe42 := SV_val (hd.val 8 42 (by decide +kernel)) rfl
      have e42 : a'.eval (.tmp 42) = .string ⟨(enc n).toArray⟩ := xe42
      clear hd hk xe38 xe42
      exact wp_value (.bool false) (by simp only [execOp, e38, e42]; go_simp) (SV_mk rfl rfl)
    · -- 10: Op.pick (Operand.tmp 35) (Operand.tmp 43) (Operand.const (Va
      intro Q
      have xe35 := SV_val (hd.val 1 35 (by decide +kernel)) rfl
      have e35 : a'.eval (.tmp 35) = .bool true := xe35
      have xe43 := SV_val (hd.val 9 43 (by decide +kernel)) rfl
      have e43 : a'.eval (.tmp 43) = .bool false := xe43
      clear hd hk xe35 xe43
      exact wp_value (.bool false) (by simp only [execOp, e35, e43]; go_simp) (SV_mk rfl rfl)
    · -- 11: Op.move (Operand.tmp 44)
      intro Q
      have xe44 := SV_val (hd.val 10 44 (by decide +kernel)) rfl
      have e44 : a'.eval (.tmp 44) = .bool false := xe44
      exact wp_value _ (by simp only [execOp, e44]; rfl) (SV_mk rfl rfl)
    · -- 12: Op.move (Operand.tmp 8)
      have eg : a'.eval (.tmp 45) = .bool false := SV_val (hd.val 11 45 (by decide +kernel)) rfl
      refine ⟨45, false, rfl, eg, fun _ Q => ?_, fun h => absurd rfl h⟩
      have e8 := hk.at 8 (by decide +kernel)
      exact wp_value _ (by simp only [execOp, e8]; rfl) (SV_mk rfl rfl)
    · -- 13: Op.move (Operand.tmp 46)
      have eg : a'.eval (.tmp 45) = .bool false := SV_val (hd.val 11 45 (by decide +kernel)) rfl
      refine ⟨45, false, rfl, eg, fun _ Q => ?_, fun h => absurd rfl h⟩
      have xe46 := SV_val (hd.val 12 46 (by decide +kernel)) rfl
      have e46 : a'.eval (.tmp 46) = .bool false := xe46
      exact wp_value _ (by simp only [execOp, e46]; rfl) (SV_mk rfl rfl)
    · -- 14: Op.move (Operand.tmp 6)
      have eg : a'.eval (.tmp 47) = .bool false := SV_val (hd.val 13 47 (by decide +kernel)) rfl
      exact ⟨47, false, rfl, eg, fun h => absurd h (by decide), fun _ => SV_mk rfl rfl⟩
    · -- 15: Op.call ( callee := Callee.value (Operand.func 9), args := #
      have eg : a'.eval (.tmp 47) = .bool false := SV_val (hd.val 13 47 (by decide +kernel)) rfl
      exact ⟨47, false, rfl, eg, fun h => absurd h (by decide), fun _ => SV_mk rfl rfl⟩
    · -- 16: Op.convert 22 9 (Operand.tmp 49)
      have eg : a'.eval (.tmp 47) = .bool false := SV_val (hd.val 13 47 (by decide +kernel)) rfl
      exact ⟨47, false, rfl, eg, fun h => absurd h (by decide), fun _ => SV_mk rfl rfl⟩
    · -- 17: Op.move (Operand.tmp 0)
      have eg : a'.eval (.tmp 47) = .bool false := SV_val (hd.val 13 47 (by decide +kernel)) rfl
      exact ⟨47, false, rfl, eg, fun h => absurd h (by decide), fun _ => SV_mk rfl rfl⟩
    · -- 18: Op.move (Operand.tmp 7)
      have eg : a'.eval (.tmp 47) = .bool false := SV_val (hd.val 13 47 (by decide +kernel)) rfl
      exact ⟨47, false, rfl, eg, fun h => absurd h (by decide), fun _ => SV_mk rfl rfl⟩
    · -- 19: Op.slice 22 (Operand.tmp 51) none (some (Operand.tmp 52)) no
      have eg : a'.eval (.tmp 47) = .bool false := SV_val (hd.val 13 47 (by decide +kernel)) rfl
      exact ⟨47, false, rfl, eg, fun h => absurd h (by decide), fun _ => SV_mk rfl rfl⟩
    · -- 20: Op.convert 22 9 (Operand.tmp 53)
      have eg : a'.eval (.tmp 47) = .bool false := SV_val (hd.val 13 47 (by decide +kernel)) rfl
      exact ⟨47, false, rfl, eg, fun h => absurd h (by decide), fun _ => SV_mk rfl rfl⟩
    · -- 21: Op.binOp BinOp.neq 9 (Operand.tmp 50) (Operand.tmp 54) 9
      have eg : a'.eval (.tmp 47) = .bool false := SV_val (hd.val 13 47 (by decide +kernel)) rfl
      exact ⟨47, false, rfl, eg, fun h => absurd h (by decide), fun _ => SV_mk rfl rfl⟩
    · -- 22: Op.pick (Operand.tmp 47) (Operand.tmp 55) (Operand.const (Va
      have eg : a'.eval (.tmp 45) = .bool false := SV_val (hd.val 11 45 (by decide +kernel)) rfl
      refine ⟨45, false, rfl, eg, fun _ Q => ?_, fun h => absurd rfl h⟩
      have xe47 := SV_val (hd.val 13 47 (by decide +kernel)) rfl
      have e47 : a'.eval (.tmp 47) = .bool false := xe47
      have xe55 := SV_val (hd.val 21 55 (by decide +kernel)) rfl
      have e55 : a'.eval (.tmp 55) = undef := xe55
      clear hd hk xe47 xe55
      exact wp_value (.bool false) (by simp only [execOp, e47, e55]; go_simp) (SV_mk rfl rfl)
    · -- 23: Op.pick (Operand.tmp 45) (Operand.const (Value.bool true)) (
      intro Q
      have xe45 := SV_val (hd.val 11 45 (by decide +kernel)) rfl
      have e45 : a'.eval (.tmp 45) = .bool false := xe45
      have xe56 := SV_val (hd.val 22 56 (by decide +kernel)) rfl
      have e56 : a'.eval (.tmp 56) = .bool false := xe56
      clear hd hk xe45 xe56
      exact wp_value (.bool false) (by simp only [execOp, e45, e56]; go_simp) (SV_mk rfl rfl)
    · -- 24: Op.move (Operand.tmp 57)
      intro Q
      have xe57 := SV_val (hd.val 23 57 (by decide +kernel)) rfl
      have e57 : a'.eval (.tmp 57) = .bool false := xe57
      exact wp_value _ (by simp only [execOp, e57]; rfl) (SV_mk rfl rfl)
    · -- 25: Op.move (Operand.tmp 11)
      have eg : a'.eval (.tmp 58) = .bool false := SV_val (hd.val 24 58 (by decide +kernel)) rfl
      refine ⟨58, false, rfl, eg, fun _ Q => ?_, fun h => absurd rfl h⟩
      have e11 := hk.at 11 (by decide +kernel)
      exact wp_value _ (by simp only [execOp, e11]; rfl) (SV_mk rfl rfl)
    · -- 26: Op.move (Operand.tmp 59)
      have eg : a'.eval (.tmp 58) = .bool false := SV_val (hd.val 24 58 (by decide +kernel)) rfl
      refine ⟨58, false, rfl, eg, fun _ Q => ?_, fun h => absurd rfl h⟩
      have xe59 := SV_val (hd.val 25 59 (by decide +kernel)) rfl
      have e59 : a'.eval (.tmp 59) = .bool true := xe59
      exact wp_value _ (by simp only [execOp, e59]; rfl) (SV_mk rfl rfl)
    · -- 27: Op.move (Operand.tmp 9)
      have eg : a'.eval (.tmp 60) = .bool true := SV_val (hd.val 26 60 (by decide +kernel)) rfl
      refine ⟨60, true, rfl, eg, fun _ Q => ?_, fun h => absurd rfl h⟩
      have e9 := hk.at 9 (by decide +kernel)
      exact wp_value _ (by simp only [execOp, e9]; rfl) (SV_mk rfl rfl)
    · -- 28: Op.call ( callee := Callee.value (Operand.func 10), args := 
      have eg : a'.eval (.tmp 60) = .bool true := SV_val (hd.val 26 60 (by decide +kernel)) rfl
      refine ⟨60, true, rfl, eg, fun _ Q => ?_, fun h => absurd rfl h⟩
      have xe61 := SV_val (hd.val 27 61 (by decide +kernel)) rfl
      have e61 : a'.eval (.tmp 61) = vl := xe61
      refine wp_call 10 _ (run_enter 10 _ _ rfl (by kernel_rfl)) ?_
      simp only [List.map_toArray, List.map_nil, List.map_cons, e61]
      refine (list_any _ _ [] (toS ts) _ (Rd_nil _) (hvl.kept hg) (by rw [sls_toS, toS_length]; simp; omega)).mono ?_
      rintro e w5 ⟨v5, rfl, ho5, hb5⟩
      rw [sls_toS] at ho5
      exact ⟨v5, rfl, SV_mko rfl _ ho5, hb5⟩
    · -- 29: Op.convert 22 9 (Operand.tmp 62)
      have eg : a'.eval (.tmp 60) = .bool true := SV_val (hd.val 26 60 (by decide +kernel)) rfl
      refine ⟨60, true, rfl, eg, fun _ Q => ?_, fun h => absurd rfl h⟩
      obtain ⟨B28, e62⟩ := SV_own (hd.val 28 62 (by decide +kernel)) rfl
      exact wp_value _ (by simp [execOp, own_conv e62 rfl]) (SV_mk rfl rfl)
    · -- 30: Op.move (Operand.tmp 0)
      have eg : a'.eval (.tmp 60) = .bool true := SV_val (hd.val 26 60 (by decide +kernel)) rfl
      refine ⟨60, true, rfl, eg, fun _ Q => ?_, fun h => absurd rfl h⟩
      have e0 := hk.at 0 (by decide +kernel)
      exact wp_value _ (by simp only [execOp, e0]; rfl) (SV_mk rfl rfl)
    · -- 31: Op.move (Operand.tmp 10)
      have eg : a'.eval (.tmp 60) = .bool true := SV_val (hd.val 26 60 (by decide +kernel)) rfl
      refine ⟨60, true, rfl, eg, fun _ Q => ?_, fun h => absurd rfl h⟩
      have e10 := hk.at 10 (by decide +kernel)
      exact wp_value _ (by simp only [execOp, e10]; rfl) (SV_mk rfl rfl)
    · -- 32: Op.slice 22 (Operand.tmp 64) none (some (Operand.tmp 65)) no
      have eg : a'.eval (.tmp 60) = .bool true := SV_val (hd.val 26 60 (by decide +kernel)) rfl
      refine ⟨60, true, rfl, eg, fun _ Q => ?_, fun h => absurd rfl h⟩
      have xe64 := SV_val (hd.val 30 64 (by decide +kernel)) rfl
      have e64 : a'.eval (.tmp 64) = .slice (some ⟨b, off, none⟩) l.length cap := xe64
      have xe65 := SV_val (hd.val 31 65 (by decide +kernel)) rfl
      have e65 : a'.eval (.tmp 65) = .int .i64 (y : Int) := xe65
      clear hd hk
      exact wp_value (.slice (some ⟨b, off, none⟩) y cap) (by simp [execOp, e64, e65, slice_to b off l.length cap y hyl hcap]) (SV_mk rfl rfl)
    · -- 33: Op.convert 22 9 (Operand.tmp 66)
      have eg : a'.eval (.tmp 60) = .bool true := SV_val (hd.val 26 60 (by decide +kernel)) rfl
      refine ⟨60, true, rfl, eg, fun _ Q => ?_, fun h => absurd rfl h⟩
      have xe66 := SV_val (hd.val 32 66 (by decide +kernel)) rfl
      have e66 : a'.eval (.tmp 66) = .slice (some ⟨b, off, none⟩) y cap := xe66
      have cv := ((hr2.kept hg).take y hyl).conv (P := Try.prog) 22 9 Try.underlying22 Try.underlying5 Try.underlying9
      rw [hey] at cv
      clear hd hk
      exact wp_value _ (by simp [execOp, e66, cv]) (SV_mk rfl rfl)
    · -- 34: Op.binOp BinOp.neq 9 (Operand.tmp 63) (Operand.tmp 67) 9
      have eg : a'.eval (.tmp 60) = .bool true := SV_val (hd.val 26 60 (by decide +kernel)) rfl
      refine ⟨60, true, rfl, eg, fun _ Q => ?_, fun h => absurd rfl h⟩
      have xe63 := SV_val (hd.val 29 63 (by decide +kernel)) rfl
      have e63 : a'.eval (.tmp 63) = .string ⟨(encL ts).toArray⟩ := xe63
      have xe67 := SV_val (hd.val 33 67 (by decide +kernel)) rfl
      have e67 : a'.eval (.tmp 67) = .string ⟨(encL ts).toArray⟩ := xe67
      clear hd hk xe63 xe67
      exact wp_value (.bool false) (by simp only [execOp, e63, e67]; go_simp) (SV_mk rfl rfl)
    · -- 35: Op.pick (Operand.tmp 60) (Operand.tmp 68) (Operand.const (Va
      have eg : a'.eval (.tmp 58) = .bool false := SV_val (hd.val 24 58 (by decide +kernel)) rfl
      refine ⟨58, false, rfl, eg, fun _ Q => ?_, fun h => absurd rfl h⟩
      have xe60 := SV_val (hd.val 26 60 (by decide +kernel)) rfl
      have e60 : a'.eval (.tmp 60) = .bool true := xe60
      have xe68 := SV_val (hd.val 34 68 (by decide +kernel)) rfl
      have e68 : a'.eval (.tmp 68) = .bool false := xe68
      clear hd hk xe60 xe68
      exact wp_value (.bool false) (by simp only [execOp, e60, e68]; go_simp) (SV_mk rfl rfl)
    · -- 36: Op.pick (Operand.tmp 58) (Operand.const (Value.bool true)) (
      intro Q
      have xe58 := SV_val (hd.val 24 58 (by decide +kernel)) rfl
      have e58 : a'.eval (.tmp 58) = .bool false := xe58
      have xe69 := SV_val (hd.val 35 69 (by decide +kernel)) rfl
      have e69 : a'.eval (.tmp 69) = .bool false := xe69
      clear hd hk xe58 xe69
      exact wp_value (.bool false) (by simp only [execOp, e58, e69]; go_simp) (SV_mk rfl rfl)
  · intro a' w' hsz' hdf hk hS hg
    have x70 := SV_val (hS 36 _ 70 rfl rfl) rfl
    have e70 : a'.eval (.tmp 70) = .bool false := x70
    have e5 : a'.eval (.tmp 5) = .bool true := hk.at 5 (by decide +kernel)
    have e8 : a'.eval (.tmp 8) = .bool false := hk.at 8 (by decide +kernel)
    have e11 : a'.eval (.tmp 11) = .bool true := hk.at 11 (by decide +kernel)
    obtain ⟨f, hf⟩ : ∃ f : Nat → Value, ∀ t, f t = a'.eval (.tmp t) := ⟨_, fun _ => rfl⟩
    have ha : a' = { tmps := #[f 0, f 1, f 2, f 3, f 4, f 5, f 6, f 7, f 8, f 9, f 10, f 11, f 12, f 13, f 14, f 15, f 16, f 17, f 18, f 19, f 20, f 21, f 22, f 23, f 24, f 25, f 26, f 27, f 28, f 29, f 30, f 31, f 32, f 33, f 34, f 35, f 36, f 37, f 38, f 39, f 40, f 41, f 42, f 43, f 44, f 45, f 46, f 47, f 48, f 49, f 50, f 51, f 52, f 53, f 54, f 55, f 56, f 57, f 58, f 59, f 60, f 61, f 62, f 63, f 64, f 65, f 66, f 67, f 68, f 69, f 70, f 71, f 72, f 73, f 74, f 75, f 76, f 77, f 78, f 79, f 80, f 81, f 82], defers := [] } := (act_lit a' 83 hsz').trans (by rw [hdf]; simp only [← hf]; rfl)
    rw [← hf] at e70 e5 e8 e11
    rw [e70, e5, e8, e11] at ha
    have hbg : Below w.heap.size w w' := hbw.trans (Below.mono hg hbw.size)
    clear hf hk hS hsz' hdf hg x70
    subst ha
    go_wp2_with fail
    refine (lives_any _).mono ?_
    rintro e w5 ⟨rfl, hb5⟩
    go_wp2_with fail
    go_ret
    exact ⟨rfl, hbg.trans (hb5.mono hbg.size)⟩

set_option maxRecDepth 100000 in
set_option maxHeartbeats 4000000 in
theorem once_ttf (v : Value) (l : List UInt8) (w : World) (hr : Rd w v l) (hl : l.length ≤ 3000) (n k x y : Nat) (t : List UInt8) (ts : List (List UInt8)) (hgn : gn l = (n, k, true)) (hgs : gs l 3000 = (t, x, true)) (hgL : gL l 300 3000 = (ts, y, false)) (hn8 : Hid (n < 256 ^ 8)) (hkl : k ≤ l.length) (hek : l.take k = enc n) (htl : t.length ≤ 3000) (hxl : x ≤ l.length) (hex : l.take x = encS t) :
    Calls Try.prog 3 #[v] w fun e w' => e = .returned (.bool true) ∧ Below w.heap.size w w' := by
  have hr0 := hr
  obtain ⟨a, cap, rfl, hcap, -, -, h4⟩ := hr
  have hl' : ¬ (3000 : Int) < l.length := by omega
  obtain ⟨hk1, -, -, -, -⟩ := gn_ok hgn
  obtain ⟨b, off, rfl, -⟩ := h4 (by omega)
  clear h4
  have HGS : Hid (gs l 3000 = (t, x, true)) := hgs
  have HGL : Hid (gL l 300 3000 = (ts, y, false)) := hgL
  clear hgs hgL
  go_enter Try.func3, Try.ntmps3
  go_wp2_with fail
  refine (getNum_any _ l _ hr0 (by omega)).mono ?_
  rw [hgn]
  rintro e w1 ⟨rfl, hb1⟩
  clear hgn
  go_wp2_with fail
  refine (getStr_k _ l 3000 _ t x true HGS (hr0.kept hb1) (by omega) (wf_small (by omega) (by omega))).mono ?_
  rintro e w2 ⟨rfl, hb2⟩
  have hb12 := hb1.trans (hb2.mono hb1.size)
  clear hb1 hb2
  go_wp2_with fail
  refine (getList_any _ l 300 3000 _ (hr0.kept hb12) (by omega) (wf_small (by omega) (by omega)) (wf_small (by omega) (by omega))).mono ?_
  rintro e w3 ⟨vl, ts3, y3, ok3, rfl, ho3, hg3, hb3⟩
  have e3 := HGL.out.symm.trans hg3
  simp only [Prod.mk.injEq] at e3
  obtain ⟨rfl, rfl, rfl⟩ := e3
  have hbw : Below w.heap.size w w3 := hb12.trans (hb3.mono hb12.size)
  have hr2 := hr0.kept hbw
  have hvl := ho3.rdS
  clear hg3 hb3 hb12 ho3 HGS HGL hr0
  go_wp2_with fail
  refine wp_region_inv Try.mixed (SV (fun i => match i with
      | 0 | 1 | 12 | 13 => .bool true
      | 2 => .int .u64 n
      | 4 | 8 => .string ⟨(enc n).toArray⟩
      | 5 | 17 => .slice (some ⟨b, off, none⟩) l.length cap
      | 6 => .int .i64 (k : Int)
      | 7 => .slice (some ⟨b, off, none⟩) k cap
      | 14 => .string ⟨t.toArray⟩
      | 16 | 20 => .string ⟨(encS t).toArray⟩
      | 18 => .int .i64 (x : Int)
      | 19 => .slice (some ⟨b, off, none⟩) x cap
      | 27 | 28 | 29 | 30 | 31 | 32 | 33 | 34 => undef
      | _ => .bool false) (fun i => match i with
      | 3 => some (enc n)
      | 15 => some (encS t)
      | _ => none)) 83 rfl (by decide +kernel) (SV_mono _ _) ?_ ?_
  · refine AllFrom.cons (fun a' w' hg hk hd => ?_) (AllFrom.cons (fun a' w' hg hk hd => ?_) (AllFrom.cons (fun a' w' hg hk hd => ?_) (AllFrom.cons (fun a' w' hg hk hd => ?_) (AllFrom.cons (fun a' w' hg hk hd => ?_) (AllFrom.cons (fun a' w' hg hk hd => ?_) (AllFrom.cons (fun a' w' hg hk hd => ?_) (AllFrom.cons (fun a' w' hg hk hd => ?_) (AllFrom.cons (fun a' w' hg hk hd => ?_) (AllFrom.cons (fun a' w' hg hk hd => ?_) (AllFrom.cons (fun a' w' hg hk hd => ?_) (AllFrom.cons (fun a' w' hg hk hd => ?_) (AllFrom.cons (fun a' w' hg hk hd => ?_) (AllFrom.cons (fun a' w' hg hk hd => ?_) (AllFrom.cons (fun a' w' hg hk hd => ?_) (AllFrom.cons (fun a' w' hg hk hd => ?_) (AllFrom.cons (fun a' w' hg hk hd => ?_) (AllFrom.cons (fun a' w' hg hk hd => ?_) (AllFrom.cons (fun a' w' hg hk hd => ?_) (AllFrom.cons (fun a' w' hg hk hd => ?_) (AllFrom.cons (fun a' w' hg hk hd => ?_) (AllFrom.cons (fun a' w' hg hk hd => ?_) (AllFrom.cons (fun a' w' hg hk hd => ?_) (AllFrom.cons (fun a' w' hg hk hd => ?_) (AllFrom.cons (fun a' w' hg hk hd => ?_) (AllFrom.cons (fun a' w' hg hk hd => ?_) (AllFrom.cons (fun a' w' hg hk hd => ?_) (AllFrom.cons (fun a' w' hg hk hd => ?_) (AllFrom.cons (fun a' w' hg hk hd => ?_) (AllFrom.cons (fun a' w' hg hk hd => ?_) (AllFrom.cons (fun a' w' hg hk hd => ?_) (AllFrom.cons (fun a' w' hg hk hd => ?_) (AllFrom.cons (fun a' w' hg hk hd => ?_) (AllFrom.cons (fun a' w' hg hk hd => ?_) (AllFrom.cons (fun a' w' hg hk hd => ?_) (AllFrom.cons (fun a' w' hg hk hd => ?_) (AllFrom.cons (fun a' w' hg hk hd => ?_) AllFrom.nil))))))))))))))))))))))))))))))))))))
    · -- 0: Op.move (Operand.tmp 5)
      intro Q
      have e5 := hk.at 5 (by decide +kernel)
      exact wp_value _ (by simp only [execOp, e5]; rfl) (SV_mk rfl rfl)
    · -- 1: Op.move (Operand.tmp 34)
      intro Q
      have xe34 := SV_val (hd.val 0 34 (by decide +kernel)) rfl
      have e34 : a'.eval (.tmp 34) = .bool true := xe34
      exact wp_value _ (by simp only [execOp, e34]; rfl) (SV_mk rfl rfl)
    · -- 2: Op.move (Operand.tmp 3)
      have eg : a'.eval (.tmp 35) = .bool true := SV_val (hd.val 1 35 (by decide +kernel)) rfl
      refine ⟨35, true, rfl, eg, fun _ Q => ?_, fun h => absurd rfl h⟩
      have e3 := hk.at 3 (by decide +kernel)
      exact wp_value _ (by simp only [execOp, e3]; rfl) (SV_mk rfl rfl)
    · -- 3: Op.call ( callee := Callee.value (Operand.func 8), args := #
      have eg : a'.eval (.tmp 35) = .bool true := SV_val (hd.val 1 35 (by decide +kernel)) rfl
      refine ⟨35, true, rfl, eg, fun _ Q => ?_, fun h => absurd rfl h⟩
      have xe36 := SV_val (hd.val 2 36 (by decide +kernel)) rfl
      have e36 : a'.eval (.tmp 36) = .int .u64 n := xe36
      refine wp_call 8 _ (run_enter 8 _ _ rfl (by kernel_rfl)) ?_
      simp only [List.map_toArray, List.map_nil, List.map_cons, e36]
      refine (num_any _ [] n _ (Rd_nil _) hn8 (by simp)).mono ?_
      rintro e w5 ⟨v5, rfl, ho5, hb5⟩
      exact ⟨v5, rfl, SV_mko rfl _ ho5, hb5⟩
    · -- 4: Op.convert 22 9 (Operand.tmp 37)
      have eg : a'.eval (.tmp 35) = .bool true := SV_val (hd.val 1 35 (by decide +kernel)) rfl
      refine ⟨35, true, rfl, eg, fun _ Q => ?_, fun h => absurd rfl h⟩
      obtain ⟨B3, e37⟩ := SV_own (hd.val 3 37 (by decide +kernel)) rfl
      exact wp_value _ (by simp [execOp, own_conv e37 rfl]) (SV_mk rfl rfl)
    · -- 5: Op.move (Operand.tmp 0)
      have eg : a'.eval (.tmp 35) = .bool true := SV_val (hd.val 1 35 (by decide +kernel)) rfl
      refine ⟨35, true, rfl, eg, fun _ Q => ?_, fun h => absurd rfl h⟩
      have e0 := hk.at 0 (by decide +kernel)
      exact wp_value _ (by simp only [execOp, e0]; rfl) (SV_mk rfl rfl)
    · -- 6: Op.move (Operand.tmp 4)
      have eg : a'.eval (.tmp 35) = .bool true := SV_val (hd.val 1 35 (by decide +kernel)) rfl
      refine ⟨35, true, rfl, eg, fun _ Q => ?_, fun h => absurd rfl h⟩
      have e4 := hk.at 4 (by decide +kernel)
      exact wp_value _ (by simp only [execOp, e4]; rfl) (SV_mk rfl rfl)
    · -- 7: Op.slice 22 (Operand.tmp 39) none (some (Operand.tmp 40)) no
      have eg : a'.eval (.tmp 35) = .bool true := SV_val (hd.val 1 35 (by decide +kernel)) rfl
      refine ⟨35, true, rfl, eg, fun _ Q => ?_, fun h => absurd rfl h⟩
      have xe39 := SV_val (hd.val 5 39 (by decide +kernel)) rfl
      have e39 : a'.eval (.tmp 39) = .slice (some ⟨b, off, none⟩) l.length cap := xe39
      have xe40 := SV_val (hd.val 6 40 (by decide +kernel)) rfl
      have e40 : a'.eval (.tmp 40) = .int .i64 (k : Int) := xe40
      clear hd hk
      exact wp_value (.slice (some ⟨b, off, none⟩) k cap) (by simp [execOp, e39, e40, slice_to b off l.length cap k hkl hcap]) (SV_mk rfl rfl)
    · -- 8: Op.convert 22 9 (Operand.tmp 41)
      have eg : a'.eval (.tmp 35) = .bool true := SV_val (hd.val 1 35 (by decide +kernel)) rfl
      refine ⟨35, true, rfl, eg, fun _ Q => ?_, fun h => absurd rfl h⟩
      have xe41 := SV_val (hd.val 7 41 (by decide +kernel)) rfl
      have e41 : a'.eval (.tmp 41) = .slice (some ⟨b, off, none⟩) k cap := xe41
      have cv := ((hr2.kept hg).take k hkl).conv (P := Try.prog) 22 9 Try.underlying22 Try.underlying5 Try.underlying9
      rw [hek] at cv
      clear hd hk
      exact wp_value _ (by simp [execOp, e41, cv]) (SV_mk rfl rfl)
    · -- 9: Op.binOp BinOp.neq 9 (Operand.tmp 38) (Operand.tmp 42) 9
      have eg : a'.eval (.tmp 35) = .bool true := SV_val (hd.val 1 35 (by decide +kernel)) rfl
      refine ⟨35, true, rfl, eg, fun _ Q => ?_, fun h => absurd rfl h⟩
      have xe38 := SV_val (hd.val 4 38 (by decide +kernel)) rfl
      have e38 : a'.eval (.tmp 38) = .string ⟨(enc n).toArray⟩ := xe38
      have xe42 := SV_val (hd.val 8 42 (by decide +kernel)) rfl
      have e42 : a'.eval (.tmp 42) = .string ⟨(enc n).toArray⟩ := xe42
      clear hd hk xe38 xe42
      exact wp_value (.bool false) (by simp only [execOp, e38, e42]; go_simp) (SV_mk rfl rfl)
    · -- 10: Op.pick (Operand.tmp 35) (Operand.tmp 43) (Operand.const (Va
      intro Q
      have xe35 := SV_val (hd.val 1 35 (by decide +kernel)) rfl
      have e35 : a'.eval (.tmp 35) = .bool true := xe35
      have xe43 := SV_val (hd.val 9 43 (by decide +kernel)) rfl
      have e43 : a'.eval (.tmp 43) = .bool false := xe43
      clear hd hk xe35 xe43
      exact wp_value (.bool false) (by simp only [execOp, e35, e43]; go_simp) (SV_mk rfl rfl)
    · -- 11: Op.move (Operand.tmp 44)
      intro Q
      have xe44 := SV_val (hd.val 10 44 (by decide +kernel)) rfl
      have e44 : a'.eval (.tmp 44) = .bool false := xe44
      exact wp_value _ (by simp only [execOp, e44]; rfl) (SV_mk rfl rfl)
    · -- 12: Op.move (Operand.tmp 8)
      have eg : a'.eval (.tmp 45) = .bool false := SV_val (hd.val 11 45 (by decide +kernel)) rfl
      refine ⟨45, false, rfl, eg, fun _ Q => ?_, fun h => absurd rfl h⟩
      have e8 := hk.at 8 (by decide +kernel)
      exact wp_value _ (by simp only [execOp, e8]; rfl) (SV_mk rfl rfl)
    · -- 13: Op.move (Operand.tmp 46)
      have eg : a'.eval (.tmp 45) = .bool false := SV_val (hd.val 11 45 (by decide +kernel)) rfl
      refine ⟨45, false, rfl, eg, fun _ Q => ?_, fun h => absurd rfl h⟩
      have xe46 := SV_val (hd.val 12 46 (by decide +kernel)) rfl
      have e46 : a'.eval (.tmp 46) = .bool true := xe46
      exact wp_value _ (by simp only [execOp, e46]; rfl) (SV_mk rfl rfl)
    · -- 14: Op.move (Operand.tmp 6)
      have eg : a'.eval (.tmp 47) = .bool true := SV_val (hd.val 13 47 (by decide +kernel)) rfl
      refine ⟨47, true, rfl, eg, fun _ Q => ?_, fun h => absurd rfl h⟩
      have e6 := hk.at 6 (by decide +kernel)
      exact wp_value _ (by simp only [execOp, e6]; rfl) (SV_mk rfl rfl)
    · -- 15: Op.call ( callee := Callee.value (Operand.func 9), args := #
      have eg : a'.eval (.tmp 47) = .bool true := SV_val (hd.val 13 47 (by decide +kernel)) rfl
      refine ⟨47, true, rfl, eg, fun _ Q => ?_, fun h => absurd rfl h⟩
      have xe48 := SV_val (hd.val 14 48 (by decide +kernel)) rfl
      have e48 : a'.eval (.tmp 48) = .string ⟨t.toArray⟩ := xe48
      refine wp_call 9 _ (run_enter 9 _ _ rfl (by kernel_rfl)) ?_
      simp only [List.map_toArray, List.map_nil, List.map_cons, e48]
      refine (str_any _ [] ⟨t.toArray⟩ _ (Rd_nil _) (by simp [ByteArray.size]; omega)).mono ?_
      rintro e w5 ⟨v5, rfl, ho5, hb5⟩
      exact ⟨v5, rfl, SV_mko rfl _ ho5, hb5⟩
    · -- 16: Op.convert 22 9 (Operand.tmp 49)
      have eg : a'.eval (.tmp 47) = .bool true := SV_val (hd.val 13 47 (by decide +kernel)) rfl
      refine ⟨47, true, rfl, eg, fun _ Q => ?_, fun h => absurd rfl h⟩
      obtain ⟨B15, e49⟩ := SV_own (hd.val 15 49 (by decide +kernel)) rfl
      exact wp_value _ (by simp [execOp, own_conv e49 rfl]) (SV_mk rfl rfl)
    · -- 17: Op.move (Operand.tmp 0)
      have eg : a'.eval (.tmp 47) = .bool true := SV_val (hd.val 13 47 (by decide +kernel)) rfl
      refine ⟨47, true, rfl, eg, fun _ Q => ?_, fun h => absurd rfl h⟩
      have e0 := hk.at 0 (by decide +kernel)
      exact wp_value _ (by simp only [execOp, e0]; rfl) (SV_mk rfl rfl)
    · -- 18: Op.move (Operand.tmp 7)
      have eg : a'.eval (.tmp 47) = .bool true := SV_val (hd.val 13 47 (by decide +kernel)) rfl
      refine ⟨47, true, rfl, eg, fun _ Q => ?_, fun h => absurd rfl h⟩
      have e7 := hk.at 7 (by decide +kernel)
      exact wp_value _ (by simp only [execOp, e7]; rfl) (SV_mk rfl rfl)
    · -- 19: Op.slice 22 (Operand.tmp 51) none (some (Operand.tmp 52)) no
      have eg : a'.eval (.tmp 47) = .bool true := SV_val (hd.val 13 47 (by decide +kernel)) rfl
      refine ⟨47, true, rfl, eg, fun _ Q => ?_, fun h => absurd rfl h⟩
      have xe51 := SV_val (hd.val 17 51 (by decide +kernel)) rfl
      have e51 : a'.eval (.tmp 51) = .slice (some ⟨b, off, none⟩) l.length cap := xe51
      have xe52 := SV_val (hd.val 18 52 (by decide +kernel)) rfl
      have e52 : a'.eval (.tmp 52) = .int .i64 (x : Int) := xe52
      clear hd hk
      exact wp_value (.slice (some ⟨b, off, none⟩) x cap) (by simp [execOp, e51, e52, slice_to b off l.length cap x hxl hcap]) (SV_mk rfl rfl)
    · -- 20: Op.convert 22 9 (Operand.tmp 53)
      have eg : a'.eval (.tmp 47) = .bool true := SV_val (hd.val 13 47 (by decide +kernel)) rfl
      refine ⟨47, true, rfl, eg, fun _ Q => ?_, fun h => absurd rfl h⟩
      have xe53 := SV_val (hd.val 19 53 (by decide +kernel)) rfl
      have e53 : a'.eval (.tmp 53) = .slice (some ⟨b, off, none⟩) x cap := xe53
      have cv := ((hr2.kept hg).take x hxl).conv (P := Try.prog) 22 9 Try.underlying22 Try.underlying5 Try.underlying9
      rw [hex] at cv
      clear hd hk
      exact wp_value _ (by simp [execOp, e53, cv]) (SV_mk rfl rfl)
    · -- 21: Op.binOp BinOp.neq 9 (Operand.tmp 50) (Operand.tmp 54) 9
      have eg : a'.eval (.tmp 47) = .bool true := SV_val (hd.val 13 47 (by decide +kernel)) rfl
      refine ⟨47, true, rfl, eg, fun _ Q => ?_, fun h => absurd rfl h⟩
      have xe50 := SV_val (hd.val 16 50 (by decide +kernel)) rfl
      have e50 : a'.eval (.tmp 50) = .string ⟨(encS t).toArray⟩ := xe50
      have xe54 := SV_val (hd.val 20 54 (by decide +kernel)) rfl
      have e54 : a'.eval (.tmp 54) = .string ⟨(encS t).toArray⟩ := xe54
      clear hd hk xe50 xe54
      exact wp_value (.bool false) (by simp only [execOp, e50, e54]; go_simp) (SV_mk rfl rfl)
    · -- 22: Op.pick (Operand.tmp 47) (Operand.tmp 55) (Operand.const (Va
      have eg : a'.eval (.tmp 45) = .bool false := SV_val (hd.val 11 45 (by decide +kernel)) rfl
      refine ⟨45, false, rfl, eg, fun _ Q => ?_, fun h => absurd rfl h⟩
      have xe47 := SV_val (hd.val 13 47 (by decide +kernel)) rfl
      have e47 : a'.eval (.tmp 47) = .bool true := xe47
      have xe55 := SV_val (hd.val 21 55 (by decide +kernel)) rfl
      have e55 : a'.eval (.tmp 55) = .bool false := xe55
      clear hd hk xe47 xe55
      exact wp_value (.bool false) (by simp only [execOp, e47, e55]; go_simp) (SV_mk rfl rfl)
    · -- 23: Op.pick (Operand.tmp 45) (Operand.const (Value.bool true)) (
      intro Q
      have xe45 := SV_val (hd.val 11 45 (by decide +kernel)) rfl
      have e45 : a'.eval (.tmp 45) = .bool false := xe45
      have xe56 := SV_val (hd.val 22 56 (by decide +kernel)) rfl
      have e56 : a'.eval (.tmp 56) = .bool false := xe56
      clear hd hk xe45 xe56
      exact wp_value (.bool false) (by simp only [execOp, e45, e56]; go_simp) (SV_mk rfl rfl)
    · -- 24: Op.move (Operand.tmp 57)
      intro Q
      have xe57 := SV_val (hd.val 23 57 (by decide +kernel)) rfl
      have e57 : a'.eval (.tmp 57) = .bool false := xe57
      exact wp_value _ (by simp only [execOp, e57]; rfl) (SV_mk rfl rfl)
    · -- 25: Op.move (Operand.tmp 11)
      have eg : a'.eval (.tmp 58) = .bool false := SV_val (hd.val 24 58 (by decide +kernel)) rfl
      refine ⟨58, false, rfl, eg, fun _ Q => ?_, fun h => absurd rfl h⟩
      have e11 := hk.at 11 (by decide +kernel)
      exact wp_value _ (by simp only [execOp, e11]; rfl) (SV_mk rfl rfl)
    · -- 26: Op.move (Operand.tmp 59)
      have eg : a'.eval (.tmp 58) = .bool false := SV_val (hd.val 24 58 (by decide +kernel)) rfl
      refine ⟨58, false, rfl, eg, fun _ Q => ?_, fun h => absurd rfl h⟩
      have xe59 := SV_val (hd.val 25 59 (by decide +kernel)) rfl
      have e59 : a'.eval (.tmp 59) = .bool false := xe59
      exact wp_value _ (by simp only [execOp, e59]; rfl) (SV_mk rfl rfl)
    · -- 27: Op.move (Operand.tmp 9)
      have eg : a'.eval (.tmp 60) = .bool false := SV_val (hd.val 26 60 (by decide +kernel)) rfl
      exact ⟨60, false, rfl, eg, fun h => absurd h (by decide), fun _ => SV_mk rfl rfl⟩
    · -- 28: Op.call ( callee := Callee.value (Operand.func 10), args := 
      have eg : a'.eval (.tmp 60) = .bool false := SV_val (hd.val 26 60 (by decide +kernel)) rfl
      exact ⟨60, false, rfl, eg, fun h => absurd h (by decide), fun _ => SV_mk rfl rfl⟩
    · -- 29: Op.convert 22 9 (Operand.tmp 62)
      have eg : a'.eval (.tmp 60) = .bool false := SV_val (hd.val 26 60 (by decide +kernel)) rfl
      exact ⟨60, false, rfl, eg, fun h => absurd h (by decide), fun _ => SV_mk rfl rfl⟩
    · -- 30: Op.move (Operand.tmp 0)
      have eg : a'.eval (.tmp 60) = .bool false := SV_val (hd.val 26 60 (by decide +kernel)) rfl
      exact ⟨60, false, rfl, eg, fun h => absurd h (by decide), fun _ => SV_mk rfl rfl⟩
    · -- 31: Op.move (Operand.tmp 10)
      have eg : a'.eval (.tmp 60) = .bool false := SV_val (hd.val 26 60 (by decide +kernel)) rfl
      exact ⟨60, false, rfl, eg, fun h => absurd h (by decide), fun _ => SV_mk rfl rfl⟩
    · -- 32: Op.slice 22 (Operand.tmp 64) none (some (Operand.tmp 65)) no
      have eg : a'.eval (.tmp 60) = .bool false := SV_val (hd.val 26 60 (by decide +kernel)) rfl
      exact ⟨60, false, rfl, eg, fun h => absurd h (by decide), fun _ => SV_mk rfl rfl⟩
    · -- 33: Op.convert 22 9 (Operand.tmp 66)
      have eg : a'.eval (.tmp 60) = .bool false := SV_val (hd.val 26 60 (by decide +kernel)) rfl
      exact ⟨60, false, rfl, eg, fun h => absurd h (by decide), fun _ => SV_mk rfl rfl⟩
    · -- 34: Op.binOp BinOp.neq 9 (Operand.tmp 63) (Operand.tmp 67) 9
      have eg : a'.eval (.tmp 60) = .bool false := SV_val (hd.val 26 60 (by decide +kernel)) rfl
      exact ⟨60, false, rfl, eg, fun h => absurd h (by decide), fun _ => SV_mk rfl rfl⟩
    · -- 35: Op.pick (Operand.tmp 60) (Operand.tmp 68) (Operand.const (Va
      have eg : a'.eval (.tmp 58) = .bool false := SV_val (hd.val 24 58 (by decide +kernel)) rfl
      refine ⟨58, false, rfl, eg, fun _ Q => ?_, fun h => absurd rfl h⟩
      have xe60 := SV_val (hd.val 26 60 (by decide +kernel)) rfl
      have e60 : a'.eval (.tmp 60) = .bool false := xe60
      have xe68 := SV_val (hd.val 34 68 (by decide +kernel)) rfl
      have e68 : a'.eval (.tmp 68) = undef := xe68
      clear hd hk xe60 xe68
      exact wp_value (.bool false) (by simp only [execOp, e60, e68]; go_simp) (SV_mk rfl rfl)
    · -- 36: Op.pick (Operand.tmp 58) (Operand.const (Value.bool true)) (
      intro Q
      have xe58 := SV_val (hd.val 24 58 (by decide +kernel)) rfl
      have e58 : a'.eval (.tmp 58) = .bool false := xe58
      have xe69 := SV_val (hd.val 35 69 (by decide +kernel)) rfl
      have e69 : a'.eval (.tmp 69) = .bool false := xe69
      clear hd hk xe58 xe69
      exact wp_value (.bool false) (by simp only [execOp, e58, e69]; go_simp) (SV_mk rfl rfl)
  · intro a' w' hsz' hdf hk hS hg
    have x70 := SV_val (hS 36 _ 70 rfl rfl) rfl
    have e70 : a'.eval (.tmp 70) = .bool false := x70
    have e5 : a'.eval (.tmp 5) = .bool true := hk.at 5 (by decide +kernel)
    have e8 : a'.eval (.tmp 8) = .bool true := hk.at 8 (by decide +kernel)
    have e11 : a'.eval (.tmp 11) = .bool false := hk.at 11 (by decide +kernel)
    obtain ⟨f, hf⟩ : ∃ f : Nat → Value, ∀ t, f t = a'.eval (.tmp t) := ⟨_, fun _ => rfl⟩
    have ha : a' = { tmps := #[f 0, f 1, f 2, f 3, f 4, f 5, f 6, f 7, f 8, f 9, f 10, f 11, f 12, f 13, f 14, f 15, f 16, f 17, f 18, f 19, f 20, f 21, f 22, f 23, f 24, f 25, f 26, f 27, f 28, f 29, f 30, f 31, f 32, f 33, f 34, f 35, f 36, f 37, f 38, f 39, f 40, f 41, f 42, f 43, f 44, f 45, f 46, f 47, f 48, f 49, f 50, f 51, f 52, f 53, f 54, f 55, f 56, f 57, f 58, f 59, f 60, f 61, f 62, f 63, f 64, f 65, f 66, f 67, f 68, f 69, f 70, f 71, f 72, f 73, f 74, f 75, f 76, f 77, f 78, f 79, f 80, f 81, f 82], defers := [] } := (act_lit a' 83 hsz').trans (by rw [hdf]; simp only [← hf]; rfl)
    rw [← hf] at e70 e5 e8 e11
    rw [e70, e5, e8, e11] at ha
    have hbg : Below w.heap.size w w' := hbw.trans (Below.mono hg hbw.size)
    clear hf hk hS hsz' hdf hg x70
    subst ha
    go_wp2_with fail
    refine (lives_any _).mono ?_
    rintro e w5 ⟨rfl, hb5⟩
    go_wp2_with fail
    go_ret
    exact ⟨rfl, hbg.trans (hb5.mono hbg.size)⟩

set_option maxRecDepth 100000 in
set_option maxHeartbeats 4000000 in
theorem once_ttt (v : Value) (l : List UInt8) (w : World) (hr : Rd w v l) (hl : l.length ≤ 3000) (n k x y : Nat) (t : List UInt8) (ts : List (List UInt8)) (hgn : gn l = (n, k, true)) (hgs : gs l 3000 = (t, x, true)) (hgL : gL l 300 3000 = (ts, y, true)) (hn8 : Hid (n < 256 ^ 8)) (hkl : k ≤ l.length) (hek : l.take k = enc n) (htl : t.length ≤ 3000) (hxl : x ≤ l.length) (hex : l.take x = encS t) (hyl : y ≤ l.length) (hey : l.take y = encL ts) :
    Calls Try.prog 3 #[v] w fun e w' => e = .returned (.bool true) ∧ Below w.heap.size w w' := by
  have hr0 := hr
  obtain ⟨a, cap, rfl, hcap, -, -, h4⟩ := hr
  have hl' : ¬ (3000 : Int) < l.length := by omega
  obtain ⟨hk1, -, -, -, -⟩ := gn_ok hgn
  obtain ⟨b, off, rfl, -⟩ := h4 (by omega)
  clear h4
  have hyc : (enc ts.length).length + (encT ts).length = y := by
    have := congrArg List.length hey
    simp only [encL, List.length_append, List.length_take] at this
    omega
  obtain ⟨htsl, -⟩ := gL_len hgL
  have HGS : Hid (gs l 3000 = (t, x, true)) := hgs
  have HGL : Hid (gL l 300 3000 = (ts, y, true)) := hgL
  clear hgs hgL
  go_enter Try.func3, Try.ntmps3
  go_wp2_with fail
  refine (getNum_any _ l _ hr0 (by omega)).mono ?_
  rw [hgn]
  rintro e w1 ⟨rfl, hb1⟩
  clear hgn
  go_wp2_with fail
  refine (getStr_k _ l 3000 _ t x true HGS (hr0.kept hb1) (by omega) (wf_small (by omega) (by omega))).mono ?_
  rintro e w2 ⟨rfl, hb2⟩
  have hb12 := hb1.trans (hb2.mono hb1.size)
  clear hb1 hb2
  go_wp2_with fail
  refine (getList_any _ l 300 3000 _ (hr0.kept hb12) (by omega) (wf_small (by omega) (by omega)) (wf_small (by omega) (by omega))).mono ?_
  rintro e w3 ⟨vl, ts3, y3, ok3, rfl, ho3, hg3, hb3⟩
  have e3 := HGL.out.symm.trans hg3
  simp only [Prod.mk.injEq] at e3
  obtain ⟨rfl, rfl, rfl⟩ := e3
  have hbw : Below w.heap.size w w3 := hb12.trans (hb3.mono hb12.size)
  have hr2 := hr0.kept hbw
  have hvl := ho3.rdS
  clear hg3 hb3 hb12 ho3 HGS HGL hr0
  go_wp2_with fail
  refine wp_region_inv Try.mixed (SV (fun i => match i with
      | 0 | 1 | 12 | 13 | 25 | 26 => .bool true
      | 2 => .int .u64 n
      | 4 | 8 => .string ⟨(enc n).toArray⟩
      | 5 | 17 | 30 => .slice (some ⟨b, off, none⟩) l.length cap
      | 6 => .int .i64 (k : Int)
      | 7 => .slice (some ⟨b, off, none⟩) k cap
      | 14 => .string ⟨t.toArray⟩
      | 16 | 20 => .string ⟨(encS t).toArray⟩
      | 18 => .int .i64 (x : Int)
      | 19 => .slice (some ⟨b, off, none⟩) x cap
      | 27 => vl
      | 29 | 33 => .string ⟨(encL ts).toArray⟩
      | 31 => .int .i64 (y : Int)
      | 32 => .slice (some ⟨b, off, none⟩) y cap
      | _ => .bool false) (fun i => match i with
      | 3 => some (enc n)
      | 15 => some (encS t)
      | 28 => some (encL ts)
      | _ => none)) 83 rfl (by decide +kernel) (SV_mono _ _) ?_ ?_
  · refine AllFrom.cons (fun a' w' hg hk hd => ?_) (AllFrom.cons (fun a' w' hg hk hd => ?_) (AllFrom.cons (fun a' w' hg hk hd => ?_) (AllFrom.cons (fun a' w' hg hk hd => ?_) (AllFrom.cons (fun a' w' hg hk hd => ?_) (AllFrom.cons (fun a' w' hg hk hd => ?_) (AllFrom.cons (fun a' w' hg hk hd => ?_) (AllFrom.cons (fun a' w' hg hk hd => ?_) (AllFrom.cons (fun a' w' hg hk hd => ?_) (AllFrom.cons (fun a' w' hg hk hd => ?_) (AllFrom.cons (fun a' w' hg hk hd => ?_) (AllFrom.cons (fun a' w' hg hk hd => ?_) (AllFrom.cons (fun a' w' hg hk hd => ?_) (AllFrom.cons (fun a' w' hg hk hd => ?_) (AllFrom.cons (fun a' w' hg hk hd => ?_) (AllFrom.cons (fun a' w' hg hk hd => ?_) (AllFrom.cons (fun a' w' hg hk hd => ?_) (AllFrom.cons (fun a' w' hg hk hd => ?_) (AllFrom.cons (fun a' w' hg hk hd => ?_) (AllFrom.cons (fun a' w' hg hk hd => ?_) (AllFrom.cons (fun a' w' hg hk hd => ?_) (AllFrom.cons (fun a' w' hg hk hd => ?_) (AllFrom.cons (fun a' w' hg hk hd => ?_) (AllFrom.cons (fun a' w' hg hk hd => ?_) (AllFrom.cons (fun a' w' hg hk hd => ?_) (AllFrom.cons (fun a' w' hg hk hd => ?_) (AllFrom.cons (fun a' w' hg hk hd => ?_) (AllFrom.cons (fun a' w' hg hk hd => ?_) (AllFrom.cons (fun a' w' hg hk hd => ?_) (AllFrom.cons (fun a' w' hg hk hd => ?_) (AllFrom.cons (fun a' w' hg hk hd => ?_) (AllFrom.cons (fun a' w' hg hk hd => ?_) (AllFrom.cons (fun a' w' hg hk hd => ?_) (AllFrom.cons (fun a' w' hg hk hd => ?_) (AllFrom.cons (fun a' w' hg hk hd => ?_) (AllFrom.cons (fun a' w' hg hk hd => ?_) (AllFrom.cons (fun a' w' hg hk hd => ?_) AllFrom.nil))))))))))))))))))))))))))))))))))))
    · -- 0: Op.move (Operand.tmp 5)
      intro Q
      have e5 := hk.at 5 (by decide +kernel)
      exact wp_value _ (by simp only [execOp, e5]; rfl) (SV_mk rfl rfl)
    · -- 1: Op.move (Operand.tmp 34)
      intro Q
      have xe34 := SV_val (hd.val 0 34 (by decide +kernel)) rfl
      have e34 : a'.eval (.tmp 34) = .bool true := xe34
      exact wp_value _ (by simp only [execOp, e34]; rfl) (SV_mk rfl rfl)
    · -- 2: Op.move (Operand.tmp 3)
      have eg : a'.eval (.tmp 35) = .bool true := SV_val (hd.val 1 35 (by decide +kernel)) rfl
      refine ⟨35, true, rfl, eg, fun _ Q => ?_, fun h => absurd rfl h⟩
      have e3 := hk.at 3 (by decide +kernel)
      exact wp_value _ (by simp only [execOp, e3]; rfl) (SV_mk rfl rfl)
    · -- 3: Op.call ( callee := Callee.value (Operand.func 8), args := #
      have eg : a'.eval (.tmp 35) = .bool true := SV_val (hd.val 1 35 (by decide +kernel)) rfl
      refine ⟨35, true, rfl, eg, fun _ Q => ?_, fun h => absurd rfl h⟩
      have xe36 := SV_val (hd.val 2 36 (by decide +kernel)) rfl
      have e36 : a'.eval (.tmp 36) = .int .u64 n := xe36
      refine wp_call 8 _ (run_enter 8 _ _ rfl (by kernel_rfl)) ?_
      simp only [List.map_toArray, List.map_nil, List.map_cons, e36]
      refine (num_any _ [] n _ (Rd_nil _) hn8 (by simp)).mono ?_
      rintro e w5 ⟨v5, rfl, ho5, hb5⟩
      exact ⟨v5, rfl, SV_mko rfl _ ho5, hb5⟩
    · -- 4: Op.convert 22 9 (Operand.tmp 37)
      have eg : a'.eval (.tmp 35) = .bool true := SV_val (hd.val 1 35 (by decide +kernel)) rfl
      refine ⟨35, true, rfl, eg, fun _ Q => ?_, fun h => absurd rfl h⟩
      obtain ⟨B3, e37⟩ := SV_own (hd.val 3 37 (by decide +kernel)) rfl
      exact wp_value _ (by simp [execOp, own_conv e37 rfl]) (SV_mk rfl rfl)
    · -- 5: Op.move (Operand.tmp 0)
      have eg : a'.eval (.tmp 35) = .bool true := SV_val (hd.val 1 35 (by decide +kernel)) rfl
      refine ⟨35, true, rfl, eg, fun _ Q => ?_, fun h => absurd rfl h⟩
      have e0 := hk.at 0 (by decide +kernel)
      exact wp_value _ (by simp only [execOp, e0]; rfl) (SV_mk rfl rfl)
    · -- 6: Op.move (Operand.tmp 4)
      have eg : a'.eval (.tmp 35) = .bool true := SV_val (hd.val 1 35 (by decide +kernel)) rfl
      refine ⟨35, true, rfl, eg, fun _ Q => ?_, fun h => absurd rfl h⟩
      have e4 := hk.at 4 (by decide +kernel)
      exact wp_value _ (by simp only [execOp, e4]; rfl) (SV_mk rfl rfl)
    · -- 7: Op.slice 22 (Operand.tmp 39) none (some (Operand.tmp 40)) no
      have eg : a'.eval (.tmp 35) = .bool true := SV_val (hd.val 1 35 (by decide +kernel)) rfl
      refine ⟨35, true, rfl, eg, fun _ Q => ?_, fun h => absurd rfl h⟩
      have xe39 := SV_val (hd.val 5 39 (by decide +kernel)) rfl
      have e39 : a'.eval (.tmp 39) = .slice (some ⟨b, off, none⟩) l.length cap := xe39
      have xe40 := SV_val (hd.val 6 40 (by decide +kernel)) rfl
      have e40 : a'.eval (.tmp 40) = .int .i64 (k : Int) := xe40
      clear hd hk
      exact wp_value (.slice (some ⟨b, off, none⟩) k cap) (by simp [execOp, e39, e40, slice_to b off l.length cap k hkl hcap]) (SV_mk rfl rfl)
    · -- 8: Op.convert 22 9 (Operand.tmp 41)
      have eg : a'.eval (.tmp 35) = .bool true := SV_val (hd.val 1 35 (by decide +kernel)) rfl
      refine ⟨35, true, rfl, eg, fun _ Q => ?_, fun h => absurd rfl h⟩
      have xe41 := SV_val (hd.val 7 41 (by decide +kernel)) rfl
      have e41 : a'.eval (.tmp 41) = .slice (some ⟨b, off, none⟩) k cap := xe41
      have cv := ((hr2.kept hg).take k hkl).conv (P := Try.prog) 22 9 Try.underlying22 Try.underlying5 Try.underlying9
      rw [hek] at cv
      clear hd hk
      exact wp_value _ (by simp [execOp, e41, cv]) (SV_mk rfl rfl)
    · -- 9: Op.binOp BinOp.neq 9 (Operand.tmp 38) (Operand.tmp 42) 9
      have eg : a'.eval (.tmp 35) = .bool true := SV_val (hd.val 1 35 (by decide +kernel)) rfl
      refine ⟨35, true, rfl, eg, fun _ Q => ?_, fun h => absurd rfl h⟩
      have xe38 := SV_val (hd.val 4 38 (by decide +kernel)) rfl
      have e38 : a'.eval (.tmp 38) = .string ⟨(enc n).toArray⟩ := xe38
      have xe42 := SV_val (hd.val 8 42 (by decide +kernel)) rfl
      have e42 : a'.eval (.tmp 42) = .string ⟨(enc n).toArray⟩ := xe42
      clear hd hk xe38 xe42
      exact wp_value (.bool false) (by simp only [execOp, e38, e42]; go_simp) (SV_mk rfl rfl)
    · -- 10: Op.pick (Operand.tmp 35) (Operand.tmp 43) (Operand.const (Va
      intro Q
      have xe35 := SV_val (hd.val 1 35 (by decide +kernel)) rfl
      have e35 : a'.eval (.tmp 35) = .bool true := xe35
      have xe43 := SV_val (hd.val 9 43 (by decide +kernel)) rfl
      have e43 : a'.eval (.tmp 43) = .bool false := xe43
      clear hd hk xe35 xe43
      exact wp_value (.bool false) (by simp only [execOp, e35, e43]; go_simp) (SV_mk rfl rfl)
    · -- 11: Op.move (Operand.tmp 44)
      intro Q
      have xe44 := SV_val (hd.val 10 44 (by decide +kernel)) rfl
      have e44 : a'.eval (.tmp 44) = .bool false := xe44
      exact wp_value _ (by simp only [execOp, e44]; rfl) (SV_mk rfl rfl)
    · -- 12: Op.move (Operand.tmp 8)
      have eg : a'.eval (.tmp 45) = .bool false := SV_val (hd.val 11 45 (by decide +kernel)) rfl
      refine ⟨45, false, rfl, eg, fun _ Q => ?_, fun h => absurd rfl h⟩
      have e8 := hk.at 8 (by decide +kernel)
      exact wp_value _ (by simp only [execOp, e8]; rfl) (SV_mk rfl rfl)
    · -- 13: Op.move (Operand.tmp 46)
      have eg : a'.eval (.tmp 45) = .bool false := SV_val (hd.val 11 45 (by decide +kernel)) rfl
      refine ⟨45, false, rfl, eg, fun _ Q => ?_, fun h => absurd rfl h⟩
      have xe46 := SV_val (hd.val 12 46 (by decide +kernel)) rfl
      have e46 : a'.eval (.tmp 46) = .bool true := xe46
      exact wp_value _ (by simp only [execOp, e46]; rfl) (SV_mk rfl rfl)
    · -- 14: Op.move (Operand.tmp 6)
      have eg : a'.eval (.tmp 47) = .bool true := SV_val (hd.val 13 47 (by decide +kernel)) rfl
      refine ⟨47, true, rfl, eg, fun _ Q => ?_, fun h => absurd rfl h⟩
      have e6 := hk.at 6 (by decide +kernel)
      exact wp_value _ (by simp only [execOp, e6]; rfl) (SV_mk rfl rfl)
    · -- 15: Op.call ( callee := Callee.value (Operand.func 9), args := #
      have eg : a'.eval (.tmp 47) = .bool true := SV_val (hd.val 13 47 (by decide +kernel)) rfl
      refine ⟨47, true, rfl, eg, fun _ Q => ?_, fun h => absurd rfl h⟩
      have xe48 := SV_val (hd.val 14 48 (by decide +kernel)) rfl
      have e48 : a'.eval (.tmp 48) = .string ⟨t.toArray⟩ := xe48
      refine wp_call 9 _ (run_enter 9 _ _ rfl (by kernel_rfl)) ?_
      simp only [List.map_toArray, List.map_nil, List.map_cons, e48]
      refine (str_any _ [] ⟨t.toArray⟩ _ (Rd_nil _) (by simp [ByteArray.size]; omega)).mono ?_
      rintro e w5 ⟨v5, rfl, ho5, hb5⟩
      exact ⟨v5, rfl, SV_mko rfl _ ho5, hb5⟩
    · -- 16: Op.convert 22 9 (Operand.tmp 49)
      have eg : a'.eval (.tmp 47) = .bool true := SV_val (hd.val 13 47 (by decide +kernel)) rfl
      refine ⟨47, true, rfl, eg, fun _ Q => ?_, fun h => absurd rfl h⟩
      obtain ⟨B15, e49⟩ := SV_own (hd.val 15 49 (by decide +kernel)) rfl
      exact wp_value _ (by simp [execOp, own_conv e49 rfl]) (SV_mk rfl rfl)
    · -- 17: Op.move (Operand.tmp 0)
      have eg : a'.eval (.tmp 47) = .bool true := SV_val (hd.val 13 47 (by decide +kernel)) rfl
      refine ⟨47, true, rfl, eg, fun _ Q => ?_, fun h => absurd rfl h⟩
      have e0 := hk.at 0 (by decide +kernel)
      exact wp_value _ (by simp only [execOp, e0]; rfl) (SV_mk rfl rfl)
    · -- 18: Op.move (Operand.tmp 7)
      have eg : a'.eval (.tmp 47) = .bool true := SV_val (hd.val 13 47 (by decide +kernel)) rfl
      refine ⟨47, true, rfl, eg, fun _ Q => ?_, fun h => absurd rfl h⟩
      have e7 := hk.at 7 (by decide +kernel)
      exact wp_value _ (by simp only [execOp, e7]; rfl) (SV_mk rfl rfl)
    · -- 19: Op.slice 22 (Operand.tmp 51) none (some (Operand.tmp 52)) no
      have eg : a'.eval (.tmp 47) = .bool true := SV_val (hd.val 13 47 (by decide +kernel)) rfl
      refine ⟨47, true, rfl, eg, fun _ Q => ?_, fun h => absurd rfl h⟩
      have xe51 := SV_val (hd.val 17 51 (by decide +kernel)) rfl
      have e51 : a'.eval (.tmp 51) = .slice (some ⟨b, off, none⟩) l.length cap := xe51
      have xe52 := SV_val (hd.val 18 52 (by decide +kernel)) rfl
      have e52 : a'.eval (.tmp 52) = .int .i64 (x : Int) := xe52
      clear hd hk
      exact wp_value (.slice (some ⟨b, off, none⟩) x cap) (by simp [execOp, e51, e52, slice_to b off l.length cap x hxl hcap]) (SV_mk rfl rfl)
    · -- 20: Op.convert 22 9 (Operand.tmp 53)
      have eg : a'.eval (.tmp 47) = .bool true := SV_val (hd.val 13 47 (by decide +kernel)) rfl
      refine ⟨47, true, rfl, eg, fun _ Q => ?_, fun h => absurd rfl h⟩
      have xe53 := SV_val (hd.val 19 53 (by decide +kernel)) rfl
      have e53 : a'.eval (.tmp 53) = .slice (some ⟨b, off, none⟩) x cap := xe53
      have cv := ((hr2.kept hg).take x hxl).conv (P := Try.prog) 22 9 Try.underlying22 Try.underlying5 Try.underlying9
      rw [hex] at cv
      clear hd hk
      exact wp_value _ (by simp [execOp, e53, cv]) (SV_mk rfl rfl)
    · -- 21: Op.binOp BinOp.neq 9 (Operand.tmp 50) (Operand.tmp 54) 9
      have eg : a'.eval (.tmp 47) = .bool true := SV_val (hd.val 13 47 (by decide +kernel)) rfl
      refine ⟨47, true, rfl, eg, fun _ Q => ?_, fun h => absurd rfl h⟩
      have xe50 := SV_val (hd.val 16 50 (by decide +kernel)) rfl
      have e50 : a'.eval (.tmp 50) = .string ⟨(encS t).toArray⟩ := xe50
      have xe54 := SV_val (hd.val 20 54 (by decide +kernel)) rfl
      have e54 : a'.eval (.tmp 54) = .string ⟨(encS t).toArray⟩ := xe54
      clear hd hk xe50 xe54
      exact wp_value (.bool false) (by simp only [execOp, e50, e54]; go_simp) (SV_mk rfl rfl)
    · -- 22: Op.pick (Operand.tmp 47) (Operand.tmp 55) (Operand.const (Va
      have eg : a'.eval (.tmp 45) = .bool false := SV_val (hd.val 11 45 (by decide +kernel)) rfl
      refine ⟨45, false, rfl, eg, fun _ Q => ?_, fun h => absurd rfl h⟩
      have xe47 := SV_val (hd.val 13 47 (by decide +kernel)) rfl
      have e47 : a'.eval (.tmp 47) = .bool true := xe47
      have xe55 := SV_val (hd.val 21 55 (by decide +kernel)) rfl
      have e55 : a'.eval (.tmp 55) = .bool false := xe55
      clear hd hk xe47 xe55
      exact wp_value (.bool false) (by simp only [execOp, e47, e55]; go_simp) (SV_mk rfl rfl)
    · -- 23: Op.pick (Operand.tmp 45) (Operand.const (Value.bool true)) (
      intro Q
      have xe45 := SV_val (hd.val 11 45 (by decide +kernel)) rfl
      have e45 : a'.eval (.tmp 45) = .bool false := xe45
      have xe56 := SV_val (hd.val 22 56 (by decide +kernel)) rfl
      have e56 : a'.eval (.tmp 56) = .bool false := xe56
      clear hd hk xe45 xe56
      exact wp_value (.bool false) (by simp only [execOp, e45, e56]; go_simp) (SV_mk rfl rfl)
    · -- 24: Op.move (Operand.tmp 57)
      intro Q
      have xe57 := SV_val (hd.val 23 57 (by decide +kernel)) rfl
      have e57 : a'.eval (.tmp 57) = .bool false := xe57
      exact wp_value _ (by simp only [execOp, e57]; rfl) (SV_mk rfl rfl)
    · -- 25: Op.move (Operand.tmp 11)
      have eg : a'.eval (.tmp 58) = .bool false := SV_val (hd.val 24 58 (by decide +kernel)) rfl
      refine ⟨58, false, rfl, eg, fun _ Q => ?_, fun h => absurd rfl h⟩
      have e11 := hk.at 11 (by decide +kernel)
      exact wp_value _ (by simp only [execOp, e11]; rfl) (SV_mk rfl rfl)
    · -- 26: Op.move (Operand.tmp 59)
      have eg : a'.eval (.tmp 58) = .bool false := SV_val (hd.val 24 58 (by decide +kernel)) rfl
      refine ⟨58, false, rfl, eg, fun _ Q => ?_, fun h => absurd rfl h⟩
      have xe59 := SV_val (hd.val 25 59 (by decide +kernel)) rfl
      have e59 : a'.eval (.tmp 59) = .bool true := xe59
      exact wp_value _ (by simp only [execOp, e59]; rfl) (SV_mk rfl rfl)
    · -- 27: Op.move (Operand.tmp 9)
      have eg : a'.eval (.tmp 60) = .bool true := SV_val (hd.val 26 60 (by decide +kernel)) rfl
      refine ⟨60, true, rfl, eg, fun _ Q => ?_, fun h => absurd rfl h⟩
      have e9 := hk.at 9 (by decide +kernel)
      exact wp_value _ (by simp only [execOp, e9]; rfl) (SV_mk rfl rfl)
    · -- 28: Op.call ( callee := Callee.value (Operand.func 10), args := 
      have eg : a'.eval (.tmp 60) = .bool true := SV_val (hd.val 26 60 (by decide +kernel)) rfl
      refine ⟨60, true, rfl, eg, fun _ Q => ?_, fun h => absurd rfl h⟩
      have xe61 := SV_val (hd.val 27 61 (by decide +kernel)) rfl
      have e61 : a'.eval (.tmp 61) = vl := xe61
      refine wp_call 10 _ (run_enter 10 _ _ rfl (by kernel_rfl)) ?_
      simp only [List.map_toArray, List.map_nil, List.map_cons, e61]
      refine (list_any _ _ [] (toS ts) _ (Rd_nil _) (hvl.kept hg) (by rw [sls_toS, toS_length]; simp; omega)).mono ?_
      rintro e w5 ⟨v5, rfl, ho5, hb5⟩
      rw [sls_toS] at ho5
      exact ⟨v5, rfl, SV_mko rfl _ ho5, hb5⟩
    · -- 29: Op.convert 22 9 (Operand.tmp 62)
      have eg : a'.eval (.tmp 60) = .bool true := SV_val (hd.val 26 60 (by decide +kernel)) rfl
      refine ⟨60, true, rfl, eg, fun _ Q => ?_, fun h => absurd rfl h⟩
      obtain ⟨B28, e62⟩ := SV_own (hd.val 28 62 (by decide +kernel)) rfl
      exact wp_value _ (by simp [execOp, own_conv e62 rfl]) (SV_mk rfl rfl)
    · -- 30: Op.move (Operand.tmp 0)
      have eg : a'.eval (.tmp 60) = .bool true := SV_val (hd.val 26 60 (by decide +kernel)) rfl
      refine ⟨60, true, rfl, eg, fun _ Q => ?_, fun h => absurd rfl h⟩
      have e0 := hk.at 0 (by decide +kernel)
      exact wp_value _ (by simp only [execOp, e0]; rfl) (SV_mk rfl rfl)
    · -- 31: Op.move (Operand.tmp 10)
      have eg : a'.eval (.tmp 60) = .bool true := SV_val (hd.val 26 60 (by decide +kernel)) rfl
      refine ⟨60, true, rfl, eg, fun _ Q => ?_, fun h => absurd rfl h⟩
      have e10 := hk.at 10 (by decide +kernel)
      exact wp_value _ (by simp only [execOp, e10]; rfl) (SV_mk rfl rfl)
    · -- 32: Op.slice 22 (Operand.tmp 64) none (some (Operand.tmp 65)) no
      have eg : a'.eval (.tmp 60) = .bool true := SV_val (hd.val 26 60 (by decide +kernel)) rfl
      refine ⟨60, true, rfl, eg, fun _ Q => ?_, fun h => absurd rfl h⟩
      have xe64 := SV_val (hd.val 30 64 (by decide +kernel)) rfl
      have e64 : a'.eval (.tmp 64) = .slice (some ⟨b, off, none⟩) l.length cap := xe64
      have xe65 := SV_val (hd.val 31 65 (by decide +kernel)) rfl
      have e65 : a'.eval (.tmp 65) = .int .i64 (y : Int) := xe65
      clear hd hk
      exact wp_value (.slice (some ⟨b, off, none⟩) y cap) (by simp [execOp, e64, e65, slice_to b off l.length cap y hyl hcap]) (SV_mk rfl rfl)
    · -- 33: Op.convert 22 9 (Operand.tmp 66)
      have eg : a'.eval (.tmp 60) = .bool true := SV_val (hd.val 26 60 (by decide +kernel)) rfl
      refine ⟨60, true, rfl, eg, fun _ Q => ?_, fun h => absurd rfl h⟩
      have xe66 := SV_val (hd.val 32 66 (by decide +kernel)) rfl
      have e66 : a'.eval (.tmp 66) = .slice (some ⟨b, off, none⟩) y cap := xe66
      have cv := ((hr2.kept hg).take y hyl).conv (P := Try.prog) 22 9 Try.underlying22 Try.underlying5 Try.underlying9
      rw [hey] at cv
      clear hd hk
      exact wp_value _ (by simp [execOp, e66, cv]) (SV_mk rfl rfl)
    · -- 34: Op.binOp BinOp.neq 9 (Operand.tmp 63) (Operand.tmp 67) 9
      have eg : a'.eval (.tmp 60) = .bool true := SV_val (hd.val 26 60 (by decide +kernel)) rfl
      refine ⟨60, true, rfl, eg, fun _ Q => ?_, fun h => absurd rfl h⟩
      have xe63 := SV_val (hd.val 29 63 (by decide +kernel)) rfl
      have e63 : a'.eval (.tmp 63) = .string ⟨(encL ts).toArray⟩ := xe63
      have xe67 := SV_val (hd.val 33 67 (by decide +kernel)) rfl
      have e67 : a'.eval (.tmp 67) = .string ⟨(encL ts).toArray⟩ := xe67
      clear hd hk xe63 xe67
      exact wp_value (.bool false) (by simp only [execOp, e63, e67]; go_simp) (SV_mk rfl rfl)
    · -- 35: Op.pick (Operand.tmp 60) (Operand.tmp 68) (Operand.const (Va
      have eg : a'.eval (.tmp 58) = .bool false := SV_val (hd.val 24 58 (by decide +kernel)) rfl
      refine ⟨58, false, rfl, eg, fun _ Q => ?_, fun h => absurd rfl h⟩
      have xe60 := SV_val (hd.val 26 60 (by decide +kernel)) rfl
      have e60 : a'.eval (.tmp 60) = .bool true := xe60
      have xe68 := SV_val (hd.val 34 68 (by decide +kernel)) rfl
      have e68 : a'.eval (.tmp 68) = .bool false := xe68
      clear hd hk xe60 xe68
      exact wp_value (.bool false) (by simp only [execOp, e60, e68]; go_simp) (SV_mk rfl rfl)
    · -- 36: Op.pick (Operand.tmp 58) (Operand.const (Value.bool true)) (
      intro Q
      have xe58 := SV_val (hd.val 24 58 (by decide +kernel)) rfl
      have e58 : a'.eval (.tmp 58) = .bool false := xe58
      have xe69 := SV_val (hd.val 35 69 (by decide +kernel)) rfl
      have e69 : a'.eval (.tmp 69) = .bool false := xe69
      clear hd hk xe58 xe69
      exact wp_value (.bool false) (by simp only [execOp, e58, e69]; go_simp) (SV_mk rfl rfl)
  · intro a' w' hsz' hdf hk hS hg
    have x70 := SV_val (hS 36 _ 70 rfl rfl) rfl
    have e70 : a'.eval (.tmp 70) = .bool false := x70
    have e5 : a'.eval (.tmp 5) = .bool true := hk.at 5 (by decide +kernel)
    have e8 : a'.eval (.tmp 8) = .bool true := hk.at 8 (by decide +kernel)
    have e11 : a'.eval (.tmp 11) = .bool true := hk.at 11 (by decide +kernel)
    obtain ⟨f, hf⟩ : ∃ f : Nat → Value, ∀ t, f t = a'.eval (.tmp t) := ⟨_, fun _ => rfl⟩
    have ha : a' = { tmps := #[f 0, f 1, f 2, f 3, f 4, f 5, f 6, f 7, f 8, f 9, f 10, f 11, f 12, f 13, f 14, f 15, f 16, f 17, f 18, f 19, f 20, f 21, f 22, f 23, f 24, f 25, f 26, f 27, f 28, f 29, f 30, f 31, f 32, f 33, f 34, f 35, f 36, f 37, f 38, f 39, f 40, f 41, f 42, f 43, f 44, f 45, f 46, f 47, f 48, f 49, f 50, f 51, f 52, f 53, f 54, f 55, f 56, f 57, f 58, f 59, f 60, f 61, f 62, f 63, f 64, f 65, f 66, f 67, f 68, f 69, f 70, f 71, f 72, f 73, f 74, f 75, f 76, f 77, f 78, f 79, f 80, f 81, f 82], defers := [] } := (act_lit a' 83 hsz').trans (by rw [hdf]; simp only [← hf]; rfl)
    rw [← hf] at e70 e5 e8 e11
    rw [e70, e5, e8, e11] at ha
    have hbg : Below w.heap.size w w' := hbw.trans (Below.mono hg hbw.size)
    clear hf hk hS hsz' hdf hg x70
    subst ha
    go_wp2_with fail
    refine (lives_any _).mono ?_
    rintro e w5 ⟨rfl, hb5⟩
    go_wp2_with fail
    go_ret
    exact ⟨rfl, hbg.trans (hb5.mono hbg.size)⟩

set_option maxRecDepth 100000 in
set_option maxHeartbeats 1000000 in
theorem packOnce_core (v : Value) (l : List UInt8) (w : World) (hr : Rd w v l) : Calls Try.prog 3 #[v] w fun e w' => e = .returned (.bool true) ∧ Below w.heap.size w w' := by
  by_cases hl : 3000 < l.length
  · obtain ⟨a, cap, rfl, -⟩ := hr
    have hl' : (3000 : Int) < l.length := by omega
    go_enter Try.func3, Try.ntmps3
    go_wp2_with fail
    refine (lives_any _).mono ?_
    rintro e w1 ⟨rfl, hb1⟩
    go_wp2_with fail
    go_ret
    exact ⟨rfl, hb1⟩
  · have hl2 : l.length ≤ 3000 := by omega
    rcases gn_cases l with hg | ⟨n, k, hg⟩
    · exact once_fff v l w hr hl2 0 0 0 0 [] [] hg (gs_no hg (by simp)) (gL_no hg (by simp))
    · obtain ⟨hk1, hk9, hkl, hn8, hek⟩ := gn_ok hg
      rcases gs_cases l 3000 with hs | ⟨t, x, hs, hxl, -, hex, htl⟩
      · rcases hL : gL l 300 3000 with ⟨ts, y, may⟩
        cases may with
        | false => exact once_tff v l w hr hl2 n k 0 y [] ts hg hs hL hn8 hkl hek.symm
        | true =>
          obtain ⟨hey, hyl, -⟩ := gL_spec hL
          exact once_tft v l w hr hl2 n k 0 y [] ts hg hs hL hn8 hkl hek.symm hyl hey
      · rcases hL : gL l 300 3000 with ⟨ts, y, may⟩
        cases may with
        | false => exact once_ttf v l w hr hl2 n k x y t ts hg hs hL hn8 hkl hek.symm htl hxl hex
        | true =>
          obtain ⟨hey, hyl, -⟩ := gL_spec hL
          exact once_ttt v l w hr hl2 n k x y t ts hg hs hL hn8 hkl hek.symm htl hxl hex hyl hey
#print axioms packOnce_core
end Go.Proofs.Ytcfakmjkbgcbhab
