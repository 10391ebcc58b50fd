/-
  sum.Open: what the call does.
-/
import Derived.Test.YtmopfipkbjfhoaaDoorOpen0
namespace Go.Proofs.YtmopfipkbjfhoaaDoor
open Go.RowKit

theorem act_lit (a : Act) (n : Nat) (h : a.tmps.size = n) : a = { tmps := ((List.range n).map fun t => a.eval (.tmp t)).toArray, defers := a.defers } := by
  obtain ⟨tmps, defers⟩ := a
  congr 1
  apply Array.ext'
  apply List.ext_getElem?
  intro i
  simp only at h
  by_cases hi : i < n
  · have h1 : i < tmps.size := by omega
    simp [hi, h1, Act.eval]
  · have h1 : ¬ i < tmps.size := by omega
    simp [hi, h1]

theorem guard44 (op : BinOp) (x y : Operand) (xs ys : Array Value) (W : World) : (eqGuard op 44 x y (.agg xs) (.agg ys)).run Tryd.prog W = .ok () W :=
  run_eqGuard_agg W op 44 x y xs ys (by kernel_rfl)

/-- The cells of a part in the midst. -/
theorem cells_mid {w : World} {b off cap : Nat} {l : List UInt8} (h : Rd w (.slice (some ⟨b, off, none⟩) l.length cap) l) (i m : Nat) (hi : i < l.length) :
    ∀ j u, (By ((l.drop i).take m))[j]? = some u → w.cell? ⟨b, off + i + j, none⟩ = some u := by
  intro j u hj
  obtain ⟨a', cap', e, h1, h2, h3, h4⟩ := h
  simp only [Value.slice.injEq] at e
  obtain ⟨rfl, -, rfl⟩ := e
  obtain ⟨b', off', e, hlt, hc⟩ := h4 (by omega)
  simp only [Option.some.injEq, Addr.mk.injEq, and_true] at e
  obtain ⟨rfl, rfl⟩ := e
  rw [show off + i + j = off + (i + j) from by omega]
  refine hc (i + j) u ?_
  simp only [By, List.map_take, List.map_drop] at hj
  have hjm : j < m := by
    have := (List.getElem?_eq_some_iff.1 hj).1
    simp at this
    omega
  rw [List.getElem?_take_of_lt hjm, List.getElem?_drop] at hj
  exact hj

set_option maxRecDepth 100000 in
set_option maxHeartbeats 1000000 in
theorem open_short (v : Value) (l : List UInt8) (w : World) (hT0 : Tab w) (hr : Rd w v l) (hl : l.length ≤ 140737488300000) (n k : Nat) (hgn : gn l = (n, k, true)) (h1 : n ≤ 8192) (h2 : ¬ k + n + 4 ≤ l.length) :
    Calls Tryd.prog 17 #[v] w fun e w' => e = .returned (.tuple #[.slice none 0 0, .int .i64 0, .bool false]) ∧ Below w.heap.size w w' := by
  have hr0 := hr
  obtain ⟨a, cap, rfl, hcap, -, -, h4⟩ := hr
  obtain ⟨hk1, hk9, hkl, -, -⟩ := gn_ok hgn
  obtain ⟨b, off, rfl, -⟩ := h4 (by omega)
  clear h4
  have h1' : ¬ (8192 : Int) < n := by omega
  obtain ⟨E, hE⟩ : ∃ E, E = k + n := ⟨_, rfl⟩
  obtain ⟨Z, hZ⟩ : ∃ Z, Z = k + n + 4 := ⟨_, rfl⟩
  have he8 : Value.int .i64 ((k : Int) + (n : Int)) = .int .i64 (E : Int) := by rw [hE]; rfl
  have he9 : Value.int .i64 ((k : Int) + (n : Int) + 4) = .int .i64 (Z : Int) := by rw [hZ]; rfl
  have HE : Hid (E = k + n) := hE
  have HZ : Hid (Z = E + 4) := (show _ = _ by omega)
  have h2' : (l.length : Int) < (Z : Int) := by omega
  have H8 : Hid (Value.int .i64 ((k : Int) + (n : Int)) = .int .i64 (E : Int)) := he8
  have H9 : Hid (Value.int .i64 ((k : Int) + (n : Int) + 4) = .int .i64 (Z : Int)) := he9
  clear he8 he9 hE hZ
  go_enter Tryd.func17, Tryd.ntmps17
  go_wp2_with fail
  refine (getNum_any _ l _ hr0 hl).mono ?_
  rw [hgn]
  rintro e w1 ⟨rfl, hb1⟩
  clear hgn
  have hr := hr0.kept hb1
  have hT := hT0.kept hb1
  go_wp2_with fail
  have he8 := H8.out
  have he9 := H9.out
  have hE := HE.out
  have hZ := HZ.out
  refine wp_region_inv Tryd.mixed (SV (fun i => match i with
      | 0 => .slice (some ⟨b, off, none⟩) l.length cap
      | 1 => .int .i64 (l.length : Int)
      | 2 => .int .i64 (Z : Int)
      | 3 | 4 | 16 => .bool true
      | _ => undef) (fun i => match i with
      | _ => none)) 51 rfl (by decide +kernel) (SV_mono _ _) ?_ ?_
  · refine AllFrom.cons (fun a' w' hg hk hd => ?_) (AllFrom.cons (fun a' w' hg hk hd => ?_) (AllFrom.cons (fun a' w' hg hk hd => ?_) (AllFrom.cons (fun a' w' hg hk hd => ?_) (AllFrom.cons (fun a' w' hg hk hd => ?_) (AllFrom.cons (fun a' w' hg hk hd => ?_) (AllFrom.cons (fun a' w' hg hk hd => ?_) (AllFrom.cons (fun a' w' hg hk hd => ?_) (AllFrom.cons (fun a' w' hg hk hd => ?_) (AllFrom.cons (fun a' w' hg hk hd => ?_) (AllFrom.cons (fun a' w' hg hk hd => ?_) (AllFrom.cons (fun a' w' hg hk hd => ?_) (AllFrom.cons (fun a' w' hg hk hd => ?_) (AllFrom.cons (fun a' w' hg hk hd => ?_) (AllFrom.cons (fun a' w' hg hk hd => ?_) (AllFrom.cons (fun a' w' hg hk hd => ?_) (AllFrom.cons (fun a' w' hg hk hd => ?_) AllFrom.nil))))))))))))))))
    · -- 0: Op.move (Operand.tmp 0)
      intro Q
      have e0 := hk.at 0 (by decide +kernel)
      exact wp_value _ (by simp only [execOp, e0]; rfl) (SV_mk rfl rfl)
    · -- 1: Op.call ( callee := Callee.builtin Builtin.len, args := #[Op
      intro Q
      have xe28 := SV_val (hd.val 0 28 (by decide +kernel)) rfl
      have e28 : a'.eval (.tmp 28) = .slice (some ⟨b, off, none⟩) l.length cap := xe28
      clear hd hk he8 he9 hE hZ
      have y : a'.tmps[28]?.getD undef = .slice (some ⟨b, off, none⟩) l.length cap := by simpa [Act.eval] using e28
      exact wp_value (.int .i64 (l.length : Int)) (by simp only [execOp]; go_simp) (SV_mk rfl rfl)
    · -- 2: Op.move (Operand.tmp 9)
      intro Q
      have e9 := (hk.at 9 (by decide +kernel)).trans he9
      exact wp_value _ (by simp only [execOp, e9]; rfl) (SV_mk rfl rfl)
    · -- 3: Op.binOp BinOp.lss 3 (Operand.tmp 29) (Operand.tmp 30) 3
      intro Q
      have xe29 := SV_val (hd.val 1 29 (by decide +kernel)) rfl
      have e29 : a'.eval (.tmp 29) = .int .i64 (l.length : Int) := xe29
      have xe30 := SV_val (hd.val 2 30 (by decide +kernel)) rfl
      have e30 : a'.eval (.tmp 30) = .int .i64 (Z : Int) := xe30
      clear hd hk he8 he9 hE hZ
      exact wp_value (.bool true) (by simp only [execOp, e29, e30]; go_simp) (SV_mk rfl rfl)
    · -- 4: Op.move (Operand.tmp 31)
      intro Q
      have xe31 := SV_val (hd.val 3 31 (by decide +kernel)) rfl
      have e31 : a'.eval (.tmp 31) = .bool true := xe31
      exact wp_value _ (by simp only [execOp, e31]; rfl) (SV_mk rfl rfl)
    · -- 5: Op.move (Operand.tmp 0)
      have eg : a'.eval (.tmp 32) = .bool true := SV_val (hd.val 4 32 (by decide +kernel)) rfl
      exact ⟨32, true, rfl, eg, fun h => absurd h (by decide), fun _ => SV_mk rfl rfl⟩
    · -- 6: Op.move (Operand.tmp 8)
      have eg : a'.eval (.tmp 32) = .bool true := SV_val (hd.val 4 32 (by decide +kernel)) rfl
      exact ⟨32, true, rfl, eg, fun h => absurd h (by decide), fun _ => SV_mk rfl rfl⟩
    · -- 7: Op.slice 22 (Operand.tmp 33) none (some (Operand.tmp 34)) no
      have eg : a'.eval (.tmp 32) = .bool true := SV_val (hd.val 4 32 (by decide +kernel)) rfl
      exact ⟨32, true, rfl, eg, fun h => absurd h (by decide), fun _ => SV_mk rfl rfl⟩
    · -- 8: Op.call ( callee := Callee.value (Operand.func 23), args := 
      have eg : a'.eval (.tmp 32) = .bool true := SV_val (hd.val 4 32 (by decide +kernel)) rfl
      exact ⟨32, true, rfl, eg, fun h => absurd h (by decide), fun _ => SV_mk rfl rfl⟩
    · -- 9: Op.move (Operand.tmp 0)
      have eg : a'.eval (.tmp 32) = .bool true := SV_val (hd.val 4 32 (by decide +kernel)) rfl
      exact ⟨32, true, rfl, eg, fun h => absurd h (by decide), fun _ => SV_mk rfl rfl⟩
    · -- 10: Op.move (Operand.tmp 8)
      have eg : a'.eval (.tmp 32) = .bool true := SV_val (hd.val 4 32 (by decide +kernel)) rfl
      exact ⟨32, true, rfl, eg, fun h => absurd h (by decide), fun _ => SV_mk rfl rfl⟩
    · -- 11: Op.move (Operand.tmp 9)
      have eg : a'.eval (.tmp 32) = .bool true := SV_val (hd.val 4 32 (by decide +kernel)) rfl
      exact ⟨32, true, rfl, eg, fun h => absurd h (by decide), fun _ => SV_mk rfl rfl⟩
    · -- 12: Op.slice 22 (Operand.tmp 37) (some (Operand.tmp 38)) (some (
      have eg : a'.eval (.tmp 32) = .bool true := SV_val (hd.val 4 32 (by decide +kernel)) rfl
      exact ⟨32, true, rfl, eg, fun h => absurd h (by decide), fun _ => SV_mk rfl rfl⟩
    · -- 13: Op.sliceToArrayPointer 44 (Operand.tmp 40)
      have eg : a'.eval (.tmp 32) = .bool true := SV_val (hd.val 4 32 (by decide +kernel)) rfl
      exact ⟨32, true, rfl, eg, fun h => absurd h (by decide), fun _ => SV_mk rfl rfl⟩
    · -- 14: Op.load 44 (Operand.tmp 41)
      have eg : a'.eval (.tmp 32) = .bool true := SV_val (hd.val 4 32 (by decide +kernel)) rfl
      exact ⟨32, true, rfl, eg, fun h => absurd h (by decide), fun _ => SV_mk rfl rfl⟩
    · -- 15: Op.binOp BinOp.neq 44 (Operand.tmp 36) (Operand.tmp 42) 44
      have eg : a'.eval (.tmp 32) = .bool true := SV_val (hd.val 4 32 (by decide +kernel)) rfl
      exact ⟨32, true, rfl, eg, fun h => absurd h (by decide), fun _ => SV_mk rfl rfl⟩
    · -- 16: Op.pick (Operand.tmp 32) (Operand.const (Value.bool true)) (
      intro Q
      have xe32 := SV_val (hd.val 4 32 (by decide +kernel)) rfl
      have e32 : a'.eval (.tmp 32) = .bool true := xe32
      have xe43 := SV_val (hd.val 15 43 (by decide +kernel)) rfl
      have e43 : a'.eval (.tmp 43) = undef := xe43
      clear hd hk he8 he9 hE hZ
      exact wp_value (.bool true) (by simp only [execOp, e32, e43]; go_simp) (SV_mk rfl rfl)
  · intro a' w' hsz' hdf hk hS hg
    have x44 := SV_val (hS 16 _ 44 rfl rfl) rfl
    have e44 : a'.eval (.tmp 44) = .bool true := x44
    have e0 : a'.eval (.tmp 0) = .slice (some ⟨b, off, none⟩) l.length cap := hk.at 0 (by decide +kernel)
    have e6 : a'.eval (.tmp 6) = .int .i64 (k : Int) := hk.at 6 (by decide +kernel)
    have e8 : a'.eval (.tmp 8) = .int .i64 (E : Int) := (hk.at 8 (by decide +kernel)).trans he8
    have e9 : a'.eval (.tmp 9) = .int .i64 (Z : Int) := (hk.at 9 (by decide +kernel)).trans he9
    obtain ⟨f, hf⟩ : ∃ f : Nat → Value, ∀ t, f t = a'.eval (.tmp t) := ⟨_, fun _ => rfl⟩
    have ha : a' = { tmps := #[f 0, f 1, f 2, f 3, f 4, f 5, f 6, f 7, f 8, f 9, f 10, f 11, f 12, f 13, f 14, f 15, f 16, f 17, f 18, f 19, f 20, f 21, f 22, f 23, f 24, f 25, f 26, f 27, f 28, f 29, f 30, f 31, f 32, f 33, f 34, f 35, f 36, f 37, f 38, f 39, f 40, f 41, f 42, f 43, f 44, f 45, f 46, f 47, f 48, f 49, f 50], defers := [] } := (act_lit a' 51 hsz').trans (by rw [hdf]; simp only [← hf]; rfl)
    rw [← hf] at e44 e0 e6 e8 e9
    rw [e44, e0, e6, e8, e9] at ha
    have hbg : Below w.heap.size w w' := hb1.trans (Below.mono hg hb1.size)
    have hr' := hr0.kept hbg
    clear he8 he9 hE hZ
    clear hf hk hS hsz' hdf hg x44 hr hT hT0 hr0 hb1
    subst ha
    go_wp2_with fail
    go_ret3
    exact ⟨rfl, hbg⟩

set_option maxRecDepth 100000 in
set_option maxHeartbeats 1000000 in
theorem open_fits (v : Value) (l : List UInt8) (w : World) (hT0 : Tab w) (hr : Rd w v l) (hl : l.length ≤ 140737488300000) (n k : Nat) (hgn : gn l = (n, k, true)) (h1 : n ≤ 8192) (h2 : k + n + 4 ≤ l.length) (q : Bool) (hq0 : (be4 (crc (l.take (k + n))) == (l.drop (k + n)).take 4) = q) :
    Calls Tryd.prog 17 #[v] w fun e w' => ∃ v', e = .returned (.tuple #[v', .int .i64 (if q then ((k + n + 4 : Nat) : Int) else 0), .bool q]) ∧ Rd w' v' (if q then (l.drop k).take n else []) ∧ Below w.heap.size w w' := by
  have hr0 := hr
  obtain ⟨a, cap, rfl, hcap, -, -, h4⟩ := hr
  obtain ⟨hk1, hk9, hkl, -, -⟩ := gn_ok hgn
  obtain ⟨b, off, rfl, -⟩ := h4 (by omega)
  clear h4
  have h1' : ¬ (8192 : Int) < n := by omega
  obtain ⟨E, hE⟩ : ∃ E, E = k + n := ⟨_, rfl⟩
  obtain ⟨Z, hZ⟩ : ∃ Z, Z = k + n + 4 := ⟨_, rfl⟩
  have he8 : Value.int .i64 ((k : Int) + (n : Int)) = .int .i64 (E : Int) := by rw [hE]; rfl
  have he9 : Value.int .i64 ((k : Int) + (n : Int) + 4) = .int .i64 (Z : Int) := by rw [hZ]; rfl
  have HE : Hid (E = k + n) := hE
  have HZ : Hid (Z = E + 4) := (show _ = _ by omega)
  rw [← hE] at hq0
  have hq : Hid ((be4 (crc (l.take E)) == (l.drop E).take 4) = q) := hq0
  clear hq0
  have h2' : ¬ (l.length : Int) < (Z : Int) := by omega
  have h2n : Z ≤ l.length := by omega
  have H8 : Hid (Value.int .i64 ((k : Int) + (n : Int)) = .int .i64 (E : Int)) := he8
  have H9 : Hid (Value.int .i64 ((k : Int) + (n : Int) + 4) = .int .i64 (Z : Int)) := he9
  clear he8 he9 hE hZ
  go_enter Tryd.func17, Tryd.ntmps17
  go_wp2_with fail
  refine (getNum_any _ l _ hr0 hl).mono ?_
  rw [hgn]
  rintro e w1 ⟨rfl, hb1⟩
  clear hgn
  have hr := hr0.kept hb1
  have hT := hT0.kept hb1
  go_wp2_with fail
  have he8 := H8.out
  have he9 := H9.out
  have hE := HE.out
  have hZ := HZ.out
  refine wp_region_inv Tryd.mixed (SV (fun i => match i with
      | 1 => .int .i64 (l.length : Int)
      | 2 | 11 => .int .i64 (Z : Int)
      | 3 | 4 => .bool false
      | 6 | 10 => .int .i64 (E : Int)
      | 7 => .slice (some ⟨b, off, none⟩) E cap
      | 8 => .agg (By (be4 (crc (l.take E)))).toArray
      | 12 => .slice (some ⟨b, off + E, none⟩) 4 (cap - E)
      | 13 => .pointer (some ⟨b, off + E, none⟩)
      | 14 => .agg (By ((l.drop E).take 4)).toArray
      | 15 | 16 => .bool (!q)
      | _ => .slice (some ⟨b, off, none⟩) l.length cap) (fun i => match i with
      | _ => none)) 51 rfl (by decide +kernel) (SV_mono _ _) ?_ ?_
  · refine AllFrom.cons (fun a' w' hg hk hd => ?_) (AllFrom.cons (fun a' w' hg hk hd => ?_) (AllFrom.cons (fun a' w' hg hk hd => ?_) (AllFrom.cons (fun a' w' hg hk hd => ?_) (AllFrom.cons (fun a' w' hg hk hd => ?_) (AllFrom.cons (fun a' w' hg hk hd => ?_) (AllFrom.cons (fun a' w' hg hk hd => ?_) (AllFrom.cons (fun a' w' hg hk hd => ?_) (AllFrom.cons (fun a' w' hg hk hd => ?_) (AllFrom.cons (fun a' w' hg hk hd => ?_) (AllFrom.cons (fun a' w' hg hk hd => ?_) (AllFrom.cons (fun a' w' hg hk hd => ?_) (AllFrom.cons (fun a' w' hg hk hd => ?_) (AllFrom.cons (fun a' w' hg hk hd => ?_) (AllFrom.cons (fun a' w' hg hk hd => ?_) (AllFrom.cons (fun a' w' hg hk hd => ?_) (AllFrom.cons (fun a' w' hg hk hd => ?_) AllFrom.nil))))))))))))))))
    · -- 0: Op.move (Operand.tmp 0)
      intro Q
      have e0 := hk.at 0 (by decide +kernel)
      exact wp_value _ (by simp only [execOp, e0]; rfl) (SV_mk rfl rfl)
    · -- 1: Op.call ( callee := Callee.builtin Builtin.len, args := #[Op
      intro Q
      have xe28 := SV_val (hd.val 0 28 (by decide +kernel)) rfl
      have e28 : a'.eval (.tmp 28) = .slice (some ⟨b, off, none⟩) l.length cap := xe28
      clear hd hk he8 he9 hE hZ
      have y : a'.tmps[28]?.getD undef = .slice (some ⟨b, off, none⟩) l.length cap := by simpa [Act.eval] using e28
      exact wp_value (.int .i64 (l.length : Int)) (by simp only [execOp]; go_simp) (SV_mk rfl rfl)
    · -- 2: Op.move (Operand.tmp 9)
      intro Q
      have e9 := (hk.at 9 (by decide +kernel)).trans he9
      exact wp_value _ (by simp only [execOp, e9]; rfl) (SV_mk rfl rfl)
    · -- 3: Op.binOp BinOp.lss 3 (Operand.tmp 29) (Operand.tmp 30) 3
      intro Q
      have xe29 := SV_val (hd.val 1 29 (by decide +kernel)) rfl
      have e29 : a'.eval (.tmp 29) = .int .i64 (l.length : Int) := xe29
      have xe30 := SV_val (hd.val 2 30 (by decide +kernel)) rfl
      have e30 : a'.eval (.tmp 30) = .int .i64 (Z : Int) := xe30
      clear hd hk he8 he9 hE hZ
      exact wp_value (.bool false) (by simp only [execOp, e29, e30]; go_simp) (SV_mk rfl rfl)
    · -- 4: Op.move (Operand.tmp 31)
      intro Q
      have xe31 := SV_val (hd.val 3 31 (by decide +kernel)) rfl
      have e31 : a'.eval (.tmp 31) = .bool false := xe31
      exact wp_value _ (by simp only [execOp, e31]; rfl) (SV_mk rfl rfl)
    · -- 5: Op.move (Operand.tmp 0)
      have eg : a'.eval (.tmp 32) = .bool false := SV_val (hd.val 4 32 (by decide +kernel)) rfl
      refine ⟨32, false, rfl, eg, fun _ Q => ?_, fun h => absurd rfl h⟩
      have e0 := hk.at 0 (by decide +kernel)
      exact wp_value _ (by simp only [execOp, e0]; rfl) (SV_mk rfl rfl)
    · -- 6: Op.move (Operand.tmp 8)
      have eg : a'.eval (.tmp 32) = .bool false := SV_val (hd.val 4 32 (by decide +kernel)) rfl
      refine ⟨32, false, rfl, eg, fun _ Q => ?_, fun h => absurd rfl h⟩
      have e8 := (hk.at 8 (by decide +kernel)).trans he8
      exact wp_value _ (by simp only [execOp, e8]; rfl) (SV_mk rfl rfl)
    · -- 7: Op.slice 22 (Operand.tmp 33) none (some (Operand.tmp 34)) no
      have eg : a'.eval (.tmp 32) = .bool false := SV_val (hd.val 4 32 (by decide +kernel)) rfl
      refine ⟨32, false, rfl, eg, fun _ Q => ?_, fun h => absurd rfl h⟩
      have xe33 := SV_val (hd.val 5 33 (by decide +kernel)) rfl
      have e33 : a'.eval (.tmp 33) = .slice (some ⟨b, off, none⟩) l.length cap := xe33
      have xe34 := SV_val (hd.val 6 34 (by decide +kernel)) rfl
      have e34 : a'.eval (.tmp 34) = .int .i64 (E : Int) := xe34
      clear hd hk
      exact wp_value (.slice (some ⟨b, off, none⟩) E cap) (by have hs := slice_to b off l.length cap E (by omega) hcap w'; simp only [execOp, e33, e34, Option.map]; simp [hs]) (SV_mk rfl rfl)
    · -- 8: Op.call ( callee := Callee.value (Operand.func 23), args := 
      have eg : a'.eval (.tmp 32) = .bool false := SV_val (hd.val 4 32 (by decide +kernel)) rfl
      refine ⟨32, false, rfl, eg, fun _ Q => ?_, fun h => absurd rfl h⟩
      have xe35 := SV_val (hd.val 7 35 (by decide +kernel)) rfl
      have e35 : a'.eval (.tmp 35) = .slice (some ⟨b, off, none⟩) E cap := xe35
      refine wp_call 23 _ (run_enter 23 _ _ rfl (by kernel_rfl)) ?_
      simp only [List.map_toArray, List.map_nil, List.map_cons, e35]
      refine (sealOf_any _ (l.take E) _ (hT.kept hg) ((hr.kept hg).take E (by omega)) (by simp; omega)).mono ?_
      rintro e w5 ⟨rfl, hb5⟩
      exact ⟨_, rfl, SV_mk rfl rfl, hb5⟩
    · -- 9: Op.move (Operand.tmp 0)
      have eg : a'.eval (.tmp 32) = .bool false := SV_val (hd.val 4 32 (by decide +kernel)) rfl
      refine ⟨32, false, rfl, eg, fun _ Q => ?_, fun h => absurd rfl h⟩
      have e0 := hk.at 0 (by decide +kernel)
      exact wp_value _ (by simp only [execOp, e0]; rfl) (SV_mk rfl rfl)
    · -- 10: Op.move (Operand.tmp 8)
      have eg : a'.eval (.tmp 32) = .bool false := SV_val (hd.val 4 32 (by decide +kernel)) rfl
      refine ⟨32, false, rfl, eg, fun _ Q => ?_, fun h => absurd rfl h⟩
      have e8 := (hk.at 8 (by decide +kernel)).trans he8
      exact wp_value _ (by simp only [execOp, e8]; rfl) (SV_mk rfl rfl)
    · -- 11: Op.move (Operand.tmp 9)
      have eg : a'.eval (.tmp 32) = .bool false := SV_val (hd.val 4 32 (by decide +kernel)) rfl
      refine ⟨32, false, rfl, eg, fun _ Q => ?_, fun h => absurd rfl h⟩
      have e9 := (hk.at 9 (by decide +kernel)).trans he9
      exact wp_value _ (by simp only [execOp, e9]; rfl) (SV_mk rfl rfl)
    · -- 12: Op.slice 22 (Operand.tmp 37) (some (Operand.tmp 38)) (some (
      have eg : a'.eval (.tmp 32) = .bool false := SV_val (hd.val 4 32 (by decide +kernel)) rfl
      refine ⟨32, false, rfl, eg, fun _ Q => ?_, fun h => absurd rfl h⟩
      have xe37 := SV_val (hd.val 9 37 (by decide +kernel)) rfl
      have e37 : a'.eval (.tmp 37) = .slice (some ⟨b, off, none⟩) l.length cap := xe37
      have xe38 := SV_val (hd.val 10 38 (by decide +kernel)) rfl
      have e38 : a'.eval (.tmp 38) = .int .i64 (E : Int) := xe38
      have xe39 := SV_val (hd.val 11 39 (by decide +kernel)) rfl
      have e39 : a'.eval (.tmp 39) = .int .i64 (Z : Int) := xe39
      clear hd hk
      exact wp_value (.slice (some ⟨b, off + E, none⟩) 4 (cap - E)) (by have hs := slice_mid b off l.length cap E Z (by omega) (by omega) hcap (by omega) w'; rw [show Z - E = 4 from by omega] at hs; simp only [execOp, e37, e38, e39, Option.map]; simp [hs]) (SV_mk rfl rfl)
    · -- 13: Op.sliceToArrayPointer 44 (Operand.tmp 40)
      have eg : a'.eval (.tmp 32) = .bool false := SV_val (hd.val 4 32 (by decide +kernel)) rfl
      refine ⟨32, false, rfl, eg, fun _ Q => ?_, fun h => absurd rfl h⟩
      have xe40 := SV_val (hd.val 12 40 (by decide +kernel)) rfl
      have e40 : a'.eval (.tmp 40) = .slice (some ⟨b, off + E, none⟩) 4 (cap - E) := xe40
      clear hd hk
      exact wp_value (.pointer (some ⟨b, off + E, none⟩)) (by have hs := arrayAt44 (some ⟨b, off + E, none⟩) (cap - E) w'; simp only [execOp, e40]; simp [hs]) (SV_mk rfl rfl)
    · -- 14: Op.load 44 (Operand.tmp 41)
      have eg : a'.eval (.tmp 32) = .bool false := SV_val (hd.val 4 32 (by decide +kernel)) rfl
      refine ⟨32, false, rfl, eg, fun _ Q => ?_, fun h => absurd rfl h⟩
      have xe41 := SV_val (hd.val 13 41 (by decide +kernel)) rfl
      have e41 : a'.eval (.tmp 41) = .pointer (some ⟨b, off + E, none⟩) := xe41
      have hs := load44 (L := (l.drop E).take 4) (by simp; omega) (cells_mid (hr.kept hg) E 4 (by omega))
      clear hd hk
      exact wp_value (.agg (By ((l.drop E).take 4)).toArray) (by simp only [execOp, e41]; simp [hs]) (SV_mk rfl rfl)
    · -- 15: Op.binOp BinOp.neq 44 (Operand.tmp 36) (Operand.tmp 42) 44
      have eg : a'.eval (.tmp 32) = .bool false := SV_val (hd.val 4 32 (by decide +kernel)) rfl
      refine ⟨32, false, rfl, eg, fun _ Q => ?_, fun h => absurd rfl h⟩
      have xe36 := SV_val (hd.val 8 36 (by decide +kernel)) rfl
      have e36 : a'.eval (.tmp 36) = .agg (By (be4 (crc (l.take E)))).toArray := xe36
      have xe42 := SV_val (hd.val 14 42 (by decide +kernel)) rfl
      have e42 : a'.eval (.tmp 42) = .agg (By ((l.drop E).take 4)).toArray := xe42
      have hs := neq44 (be4 (crc (l.take E))) ((l.drop E).take 4) rfl (by simp; omega) w'
      rw [hq.out] at hs
      clear hd hk
      exact wp_value (.bool (!q)) (by simp only [execOp, e36, e42]; simp [hs, guard44]) (SV_mk rfl rfl)
    · -- 16: Op.pick (Operand.tmp 32) (Operand.const (Value.bool true)) (
      intro Q
      have xe32 := SV_val (hd.val 4 32 (by decide +kernel)) rfl
      have e32 : a'.eval (.tmp 32) = .bool false := xe32
      have xe43 := SV_val (hd.val 15 43 (by decide +kernel)) rfl
      have e43 : a'.eval (.tmp 43) = .bool (!q) := xe43
      clear hd hk he8 he9 hE hZ
      exact wp_value (.bool (!q)) (by simp only [execOp, e32, e43]; go_simp) (SV_mk rfl rfl)
  · intro a' w' hsz' hdf hk hS hg
    have x44 := SV_val (hS 16 _ 44 rfl rfl) rfl
    have e44 : a'.eval (.tmp 44) = .bool (!q) := x44
    have e0 : a'.eval (.tmp 0) = .slice (some ⟨b, off, none⟩) l.length cap := hk.at 0 (by decide +kernel)
    have e6 : a'.eval (.tmp 6) = .int .i64 (k : Int) := hk.at 6 (by decide +kernel)
    have e8 : a'.eval (.tmp 8) = .int .i64 (E : Int) := (hk.at 8 (by decide +kernel)).trans he8
    have e9 : a'.eval (.tmp 9) = .int .i64 (Z : Int) := (hk.at 9 (by decide +kernel)).trans he9
    obtain ⟨f, hf⟩ : ∃ f : Nat → Value, ∀ t, f t = a'.eval (.tmp t) := ⟨_, fun _ => rfl⟩
    have ha : a' = { tmps := #[f 0, f 1, f 2, f 3, f 4, f 5, f 6, f 7, f 8, f 9, f 10, f 11, f 12, f 13, f 14, f 15, f 16, f 17, f 18, f 19, f 20, f 21, f 22, f 23, f 24, f 25, f 26, f 27, f 28, f 29, f 30, f 31, f 32, f 33, f 34, f 35, f 36, f 37, f 38, f 39, f 40, f 41, f 42, f 43, f 44, f 45, f 46, f 47, f 48, f 49, f 50], defers := [] } := (act_lit a' 51 hsz').trans (by rw [hdf]; simp only [← hf]; rfl)
    rw [← hf] at e44 e0 e6 e8 e9
    rw [e44, e0, e6, e8, e9] at ha
    have hbg : Below w.heap.size w w' := hb1.trans (Below.mono hg hb1.size)
    have hr' := hr0.kept hbg
    clear he8 he9 hE hZ
    clear hf hk hS hsz' hdf hg x44 hr hT hT0 hr0 hb1
    subst ha
    cases q
    · go_wp2_with fail
      go_ret3
      exact ⟨_, rfl, Rd_nil _, hbg⟩
    · have hs := slice_mid b off l.length cap k E (by have := HE.out; omega) (by have := HE.out; omega) hcap (by omega)
      rw [show E - k = n from by have := HE.out; omega] at hs
      have hd := (hr'.drop k hkl (off + k) (.inl rfl)).take n (by omega)
      go_wp2_with fail
      refine (clone_any b (off + k) n (cap - k) _ w' hd (by simp; omega)).mono ?_
      rintro e w5 ⟨v5, rfl, ho5, hb5⟩
      go_wp2_with fail
      go_ret3
      exact ⟨_, by rw [HZ.out, HE.out]; rfl, ho5.rd, hbg.trans (hb5.mono hbg.size)⟩
#print axioms open_fits
end Go.Proofs.YtmopfipkbjfhoaaDoor
