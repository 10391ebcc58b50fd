/-
  indenturelaw01.PackApart: the walk: the call returns true and makes new memory alone.
-/
import Derived.Test.YtcfakmjkbgcbhaaBackWalk
import Derived.Test.YtcfakmjkbgcbhaaOrder
namespace Go.Proofs.Ytcfakmjkbgcbhaa
open Go.RowKit

theorem sls_inj {a b : List ByteArray} (h : sls a = sls b) : a = b := by rw [← toS_sls a, h, toS_sls]

theorem encL_is (sx sy : List ByteArray) (h1 : sx.length ≤ 300) (h2 : sx.length + sumS sx ≤ 4000) (h3 : sy.length ≤ 300) (h4 : sy.length + sumS sy ≤ 4000) : (encL (sls sx) == encL (sls sy)) = decide (sx = sy) := by
  obtain ⟨-, q2, q3⟩ := light_sls h1 h2
  obtain ⟨-, r2, r3⟩ := light_sls h3 h4
  rw [Bool.eq_iff_iff]
  simp only [beq_iff_eq, decide_eq_true_eq]
  constructor
  · intro h
    exact sls_inj (encL_inj q2 r2 (fun t ht => (q3 t ht).2) (fun t ht => (r3 t ht).2) h)
  · intro h
    rw [h]

theorem enc_is (n m : Nat) (hn : n < 256 ^ 8) (hm : m < 256 ^ 8) : (enc n == enc m) = decide (n = m) := by
  rw [Bool.eq_iff_iff]
  simp only [beq_iff_eq, decide_eq_true_eq]
  exact ⟨enc_inj hn hm, fun h => by rw [h]⟩

set_option maxRecDepth 100000 in
set_option maxHeartbeats 4000000 in
theorem packApart_core (n m : Nat) (u v : Value) (sx sy : List ByteArray) (w : World) (hn8 : Hid (n < 256 ^ 8)) (hm8 : Hid (m < 256 ^ 8)) (hx : RdS w u sx) (hy : RdS w v sy) (bx : ∀ s ∈ sx, s.size ≤ 140737488351232) (bY : ∀ s ∈ sy, s.size ≤ 140737488351232) :
    Calls Try.prog 7 #[.int .u64 n, .int .u64 m, .agg #[u, v]] w fun e w' => e = .returned (.bool true) ∧ Below w.heap.size w w' := by
  have hx0 := hx
  have hy0 := hy
  obtain ⟨a1, c1, rfl, -⟩ := hx
  obtain ⟨a2, c2, rfl, -⟩ := hy
  have hb0 : Below w.heap.size w (w.alloc (.cells #[.slice a1 sx.length c1, .slice a2 sy.length c2] 45 (0, 0))) := (Below.refl _ _).alloc (Nat.le_refl _) _
  cases hlx : lightB sx with
  | false =>
    have HLX : Hid (lightB sx = false) := hlx
    clear hlx
    go_enter Try.func7, Try.ntmps7
    go_wp2_with fail
    refine (light_k _ sx _ false HLX (hx0.kept hb0) bx).mono ?_
    rintro e w1 ⟨rfl, rfl⟩
    go_wp2_with fail
    refine (lives_any _).mono ?_
    rintro e w1 ⟨rfl, hb1⟩
    go_wp2_with fail
    go_ret
    exact ⟨rfl, hb0.trans (hb1.mono hb0.size)⟩
  | true =>
    have HLX : Hid (lightB sx = true) := hlx
    obtain ⟨hs1, hs2⟩ := lightB_spec hlx
    clear hlx
    cases hly : lightB sy with
    | false =>
      have HLY : Hid (lightB sy = false) := hly
      clear hly
      go_enter Try.func7, Try.ntmps7
      go_wp2_with fail
      refine (light_k _ sx _ true HLX (hx0.kept hb0) bx).mono ?_
      rintro e w1 ⟨rfl, rfl⟩
      go_wp2_with fail
      refine (light_k _ sy _ false HLY (hy0.kept hb0) bY).mono ?_
      rintro e w1 ⟨rfl, rfl⟩
      go_wp2_with fail
      refine (lives_any _).mono ?_
      rintro e w1 ⟨rfl, hb1⟩
      go_wp2_with fail
      go_ret
      exact ⟨rfl, hb0.trans (hb1.mono hb0.size)⟩
    | true =>
      have HLY : Hid (lightB sy = true) := hly
      obtain ⟨hs3, hs4⟩ := lightB_spec hly
      clear hly
      have hel1 := encT_len sx
      have hel2 := encT_len sy
      obtain ⟨E, HE⟩ : ∃ E, Hid (decide (n = m) = E) := ⟨_, rfl⟩
      obtain ⟨F, HF⟩ : ∃ F, Hid (decide (n < m) = F) := ⟨_, rfl⟩
      obtain ⟨G, HG⟩ : ∃ G, Hid (decide (sx = sy) = G) := ⟨_, rfl⟩
      have f1 : (enc n == enc m) = E := by rw [enc_is n m hn8.out hm8.out, HE.out]
      have f2 : ((n : Int) == (m : Int)) = E := by
        rw [← HE.out, Bool.eq_iff_iff]
        simp only [beq_iff_eq, decide_eq_true_eq]
        omega
      have f3 : Op.bytesLess (enc n) (enc m) = F := by rw [enc_less n m hn8.out hm8.out, HF.out]
      have f4 : decide (n < m) = F := HF.out
      have f5 : (encL (sls sx) == encL (sls sy)) = G := by rw [encL_is sx sy hs1 hs2 hs3 hs4, HG.out]
      go_enter Try.func7, Try.ntmps7
      go_wp2_with fail
      refine (light_k _ sx _ true HLX (hx0.kept hb0) bx).mono ?_
      rintro e w1 ⟨rfl, rfl⟩
      go_wp2_with fail
      refine (light_k _ sy _ true HLY (hy0.kept hb0) bY).mono ?_
      rintro e w1 ⟨rfl, rfl⟩
      go_wp2_with fail
      refine wp_region_inv Try.mixed (SV (fun i => match i with
          | 0 => .int .u64 n
          | 3 => .int .u64 m
          | 5 | 7 => .string ⟨(enc m).toArray⟩
          | _ => .string ⟨(enc n).toArray⟩) (fun i => match i with
          | 1 => some (enc n)
          | 4 => some (enc m)
          | _ => none)) 62 rfl (by decide +kernel) (SV_mono _ _) ?_ ?_
      · refine AllFrom.cons (fun a' w' hg hk hd => ?_) (AllFrom.cons (fun a' w' hg hk hd => ?_) (AllFrom.cons (fun a' w' hg hk hd => ?_) (AllFrom.cons (fun a' w' hg hk hd => ?_) (AllFrom.cons (fun a' w' hg hk hd => ?_) (AllFrom.cons (fun a' w' hg hk hd => ?_) (AllFrom.cons (fun a' w' hg hk hd => ?_) (AllFrom.cons (fun a' w' hg hk hd => ?_) AllFrom.nil)))))))
        · -- 0: Op.move (Operand.tmp 0)
          intro Q
          have e0 := hk.at 0 (by decide +kernel)
          exact wp_value _ (by simp only [execOp, e0]; rfl) (SV_mk rfl rfl)
        · -- 1: Op.call ( callee := Callee.value (Operand.func 12), args := 
          intro Q
          have xe20 := SV_val (hd.val 0 20 (by decide +kernel)) rfl
          have e20 : a'.eval (.tmp 20) = .int .u64 n := xe20
          refine wp_call 12 _ (run_enter 12 _ _ rfl (by kernel_rfl)) ?_
          simp only [List.map_toArray, List.map_nil, List.map_cons, e20]
          refine (num_any _ [] n _ (Rd_nil _) hn8 (by simp)).mono ?_
          rintro e w5 ⟨v5, rfl, ho5, hb5⟩
          exact ⟨v5, rfl, SV_mko rfl _ ho5, hb5⟩
        · -- 2: Op.convert 22 9 (Operand.tmp 21)
          intro Q
          obtain ⟨B1, e21⟩ := SV_own (hd.val 1 21 (by decide +kernel)) rfl
          exact wp_value _ (by simp [execOp, own_conv e21 rfl]) (SV_mk rfl rfl)
        · -- 3: Op.move (Operand.tmp 1)
          intro Q
          have e1 := hk.at 1 (by decide +kernel)
          exact wp_value _ (by simp only [execOp, e1]; rfl) (SV_mk rfl rfl)
        · -- 4: Op.call ( callee := Callee.value (Operand.func 12), args := 
          intro Q
          have xe23 := SV_val (hd.val 3 23 (by decide +kernel)) rfl
          have e23 : a'.eval (.tmp 23) = .int .u64 m := xe23
          refine wp_call 12 _ (run_enter 12 _ _ rfl (by kernel_rfl)) ?_
          simp only [List.map_toArray, List.map_nil, List.map_cons, e23]
          refine (num_any _ [] m _ (Rd_nil _) hm8 (by simp)).mono ?_
          rintro e w5 ⟨v5, rfl, ho5, hb5⟩
          exact ⟨v5, rfl, SV_mko rfl _ ho5, hb5⟩
        · -- 5: Op.convert 22 9 (Operand.tmp 24)
          intro Q
          obtain ⟨B4, e24⟩ := SV_own (hd.val 4 24 (by decide +kernel)) rfl
          exact wp_value _ (by simp [execOp, own_conv e24 rfl]) (SV_mk rfl rfl)
        · -- 6: Op.assign (Operand.tmp 22)
          intro Q
          have xe22 := SV_val (hd.val 2 22 (by decide +kernel)) rfl
          have e22 : a'.eval (.tmp 22) = .string ⟨(enc n).toArray⟩ := xe22
          exact wp_value _ (by simp only [execOp, e22]; rfl) (SV_mk rfl rfl)
        · -- 7: Op.assign (Operand.tmp 25)
          intro Q
          have xe25 := SV_val (hd.val 5 25 (by decide +kernel)) rfl
          have e25 : a'.eval (.tmp 25) = .string ⟨(enc m).toArray⟩ := xe25
          exact wp_value _ (by simp only [execOp, e25]; rfl) (SV_mk rfl rfl)
      · intro a3 w3 hsz3 hdf3 hk3 hS3 hg3
        have F7 : a3.eval (.tmp 7) = .string ⟨(enc n).toArray⟩ := by have x := SV_val (hS3 6 _ 7 rfl rfl) rfl; exact x
        have F8 : a3.eval (.tmp 8) = .string ⟨(enc m).toArray⟩ := by have x := SV_val (hS3 7 _ 8 rfl rfl) rfl; exact x
        have F0 := hk3.at 0 (by decide +kernel)
        have F1 := hk3.at 1 (by decide +kernel)
        have F5 := hk3.at 5 (by decide +kernel)
        have hbw : Below w.heap.size w w3 := hb0.trans (Below.mono hg3 hb0.size)
        have hcell0 : w3.cell? ⟨w.heap.size, 0, none⟩ = some (.slice a1 sx.length c1) := (Below.cell hg3 (p := ⟨w.heap.size, 0, none⟩) (by simp)).trans (cell_of_row _ _ 0 _ 45 (0, 0) (heap_alloc_new w _))
        have hcell1 : w3.cell? ⟨w.heap.size, 1, none⟩ = some (.slice a2 sy.length c2) := (Below.cell hg3 (p := ⟨w.heap.size, 1, none⟩) (by simp)).trans (cell_of_row _ _ 1 _ 45 (0, 0) (heap_alloc_new w _))
        have hHl : w.heap.size < w3.heap.size := by have := hg3.size; simp at this; omega
        have hx2 := hx0.kept hbw
        have hy2 := hy0.kept hbw
        clear hS3 hk3 hg3
        go_wp2_with fail
        refine wp_region_inv Try.mixed (SV (fun i => match i with
            | 0 | 8 => .string ⟨(enc n).toArray⟩
            | 1 | 9 => .string ⟨(enc m).toArray⟩
            | 2 | 5 => .bool E
            | 3 | 11 => .int .u64 n
            | 4 | 12 => .int .u64 m
            | 10 | 13 => .bool F
            | 17 | 26 => .pointer (some ⟨w.heap.size, 0, none⟩)
            | 18 | 27 => .slice a1 sx.length c1
            | 20 => .string ⟨(encL (sls sx)).toArray⟩
            | 21 | 28 => .pointer (some ⟨w.heap.size, 1, none⟩)
            | 22 | 29 => .slice a2 sy.length c2
            | 24 => .string ⟨(encL (sls sy)).toArray⟩
            | 25 | 30 => .bool G
            | _ => .bool true) (fun i => match i with
            | 19 => some (encL (sls sx))
            | 23 => some (encL (sls sy))
            | _ => none)) 62 hsz3 (by decide +kernel) (SV_mono _ _) ?_ ?_
        · refine AllFrom.cons (fun a' w' hg hk hd => ?_) (AllFrom.cons (fun a' w' hg hk hd => ?_) (AllFrom.cons (fun a' w' hg hk hd => ?_) (AllFrom.cons (fun a' w' hg hk hd => ?_) (AllFrom.cons (fun a' w' hg hk hd => ?_) (AllFrom.cons (fun a' w' hg hk hd => ?_) (AllFrom.cons (fun a' w' hg hk hd => ?_) (AllFrom.cons (fun a' w' hg hk hd => ?_) (AllFrom.cons (fun a' w' hg hk hd => ?_) (AllFrom.cons (fun a' w' hg hk hd => ?_) (AllFrom.cons (fun a' w' hg hk hd => ?_) (AllFrom.cons (fun a' w' hg hk hd => ?_) (AllFrom.cons (fun a' w' hg hk hd => ?_) (AllFrom.cons (fun a' w' hg hk hd => ?_) (AllFrom.cons (fun a' w' hg hk hd => ?_) (AllFrom.cons (fun a' w' hg hk hd => ?_) (AllFrom.cons (fun a' w' hg hk hd => ?_) (AllFrom.cons (fun a' w' hg hk hd => ?_) (AllFrom.cons (fun a' w' hg hk hd => ?_) (AllFrom.cons (fun a' w' hg hk hd => ?_) (AllFrom.cons (fun a' w' hg hk hd => ?_) (AllFrom.cons (fun a' w' hg hk hd => ?_) (AllFrom.cons (fun a' w' hg hk hd => ?_) (AllFrom.cons (fun a' w' hg hk hd => ?_) (AllFrom.cons (fun a' w' hg hk hd => ?_) (AllFrom.cons (fun a' w' hg hk hd => ?_) (AllFrom.cons (fun a' w' hg hk hd => ?_) (AllFrom.cons (fun a' w' hg hk hd => ?_) (AllFrom.cons (fun a' w' hg hk hd => ?_) (AllFrom.cons (fun a' w' hg hk hd => ?_) (AllFrom.cons (fun a' w' hg hk hd => ?_) (AllFrom.cons (fun a' w' hg hk hd => ?_) (AllFrom.cons (fun a' w' hg hk hd => ?_) (AllFrom.cons (fun a' w' hg hk hd => ?_) (AllFrom.cons (fun a' w' hg hk hd => ?_) (AllFrom.cons (fun a' w' hg hk hd => ?_) (AllFrom.cons (fun a' w' hg hk hd => ?_) AllFrom.nil))))))))))))))))))))))))))))))))))))
          · -- 0: Op.move (Operand.tmp 7)
            intro Q
            have e7 := (hk.at 7 (by decide +kernel)).trans F7
            exact wp_value _ (by simp only [execOp, e7]; rfl) (SV_mk rfl rfl)
          · -- 1: Op.move (Operand.tmp 8)
            intro Q
            have e8 := (hk.at 8 (by decide +kernel)).trans F8
            exact wp_value _ (by simp only [execOp, e8]; rfl) (SV_mk rfl rfl)
          · -- 2: Op.binOp BinOp.eql 9 (Operand.tmp 26) (Operand.tmp 27) 9
            intro Q
            have xe26 := SV_val (hd.val 0 26 (by decide +kernel)) rfl
            have e26 : a'.eval (.tmp 26) = .string ⟨(enc n).toArray⟩ := xe26
            have xe27 := SV_val (hd.val 1 27 (by decide +kernel)) rfl
            have e27 : a'.eval (.tmp 27) = .string ⟨(enc m).toArray⟩ := xe27
            clear hd hk xe26 xe27
            exact wp_value (.bool E) (by simp only [execOp, e26, e27]; go_simp) (SV_mk rfl rfl)
          · -- 3: Op.move (Operand.tmp 0)
            intro Q
            have e0 := (hk.at 0 (by decide +kernel)).trans F0
            exact wp_value _ (by simp only [execOp, e0]; rfl) (SV_mk rfl rfl)
          · -- 4: Op.move (Operand.tmp 1)
            intro Q
            have e1 := (hk.at 1 (by decide +kernel)).trans F1
            exact wp_value _ (by simp only [execOp, e1]; rfl) (SV_mk rfl rfl)
          · -- 5: Op.binOp BinOp.eql 23 (Operand.tmp 29) (Operand.tmp 30) 23
            intro Q
            have xe29 := SV_val (hd.val 3 29 (by decide +kernel)) rfl
            have e29 : a'.eval (.tmp 29) = .int .u64 n := xe29
            have xe30 := SV_val (hd.val 4 30 (by decide +kernel)) rfl
            have e30 : a'.eval (.tmp 30) = .int .u64 m := xe30
            clear hd hk xe29 xe30
            exact wp_value (.bool E) (by simp only [execOp, e29, e30]; go_simp) (SV_mk rfl rfl)
          · -- 6: Op.binOp BinOp.eql 4 (Operand.tmp 28) (Operand.tmp 31) 4
            intro Q
            have xe28 := SV_val (hd.val 2 28 (by decide +kernel)) rfl
            have e28 : a'.eval (.tmp 28) = .bool E := xe28
            have xe31 := SV_val (hd.val 5 31 (by decide +kernel)) rfl
            have e31 : a'.eval (.tmp 31) = .bool E := xe31
            clear hd hk xe28 xe31
            exact wp_value (.bool true) (by simp only [execOp, e28, e31]; go_simp) (SV_mk rfl rfl)
          · -- 7: Op.move (Operand.tmp 32)
            intro Q
            have xe32 := SV_val (hd.val 6 32 (by decide +kernel)) rfl
            have e32 : a'.eval (.tmp 32) = .bool true := xe32
            exact wp_value _ (by simp only [execOp, e32]; rfl) (SV_mk rfl rfl)
          · -- 8: Op.move (Operand.tmp 7)
            have eg : a'.eval (.tmp 33) = .bool true := SV_val (hd.val 7 33 (by decide +kernel)) rfl
            refine ⟨33, true, rfl, eg, fun _ Q => ?_, fun h => absurd rfl h⟩
            have e7 := (hk.at 7 (by decide +kernel)).trans F7
            exact wp_value _ (by simp only [execOp, e7]; rfl) (SV_mk rfl rfl)
          · -- 9: Op.move (Operand.tmp 8)
            have eg : a'.eval (.tmp 33) = .bool true := SV_val (hd.val 7 33 (by decide +kernel)) rfl
            refine ⟨33, true, rfl, eg, fun _ Q => ?_, fun h => absurd rfl h⟩
            have e8 := (hk.at 8 (by decide +kernel)).trans F8
            exact wp_value _ (by simp only [execOp, e8]; rfl) (SV_mk rfl rfl)
          · -- 10: Op.binOp BinOp.lss 9 (Operand.tmp 34) (Operand.tmp 35) 9
            have eg : a'.eval (.tmp 33) = .bool true := SV_val (hd.val 7 33 (by decide +kernel)) rfl
            refine ⟨33, true, rfl, eg, fun _ Q => ?_, fun h => absurd rfl h⟩
            have xe34 := SV_val (hd.val 8 34 (by decide +kernel)) rfl
            have e34 : a'.eval (.tmp 34) = .string ⟨(enc n).toArray⟩ := xe34
            have xe35 := SV_val (hd.val 9 35 (by decide +kernel)) rfl
            have e35 : a'.eval (.tmp 35) = .string ⟨(enc m).toArray⟩ := xe35
            clear hd hk xe34 xe35
            exact wp_value (.bool F) (by simp only [execOp, e34, e35]; go_simp) (SV_mk rfl rfl)
          · -- 11: Op.move (Operand.tmp 0)
            have eg : a'.eval (.tmp 33) = .bool true := SV_val (hd.val 7 33 (by decide +kernel)) rfl
            refine ⟨33, true, rfl, eg, fun _ Q => ?_, fun h => absurd rfl h⟩
            have e0 := (hk.at 0 (by decide +kernel)).trans F0
            exact wp_value _ (by simp only [execOp, e0]; rfl) (SV_mk rfl rfl)
          · -- 12: Op.move (Operand.tmp 1)
            have eg : a'.eval (.tmp 33) = .bool true := SV_val (hd.val 7 33 (by decide +kernel)) rfl
            refine ⟨33, true, rfl, eg, fun _ Q => ?_, fun h => absurd rfl h⟩
            have e1 := (hk.at 1 (by decide +kernel)).trans F1
            exact wp_value _ (by simp only [execOp, e1]; rfl) (SV_mk rfl rfl)
          · -- 13: Op.binOp BinOp.lss 23 (Operand.tmp 37) (Operand.tmp 38) 23
            have eg : a'.eval (.tmp 33) = .bool true := SV_val (hd.val 7 33 (by decide +kernel)) rfl
            refine ⟨33, true, rfl, eg, fun _ Q => ?_, fun h => absurd rfl h⟩
            have xe37 := SV_val (hd.val 11 37 (by decide +kernel)) rfl
            have e37 : a'.eval (.tmp 37) = .int .u64 n := xe37
            have xe38 := SV_val (hd.val 12 38 (by decide +kernel)) rfl
            have e38 : a'.eval (.tmp 38) = .int .u64 m := xe38
            clear hd hk xe37 xe38
            exact wp_value (.bool F) (by simp only [execOp, e37, e38]; go_simp) (SV_mk rfl rfl)
          · -- 14: Op.binOp BinOp.eql 4 (Operand.tmp 36) (Operand.tmp 39) 4
            have eg : a'.eval (.tmp 33) = .bool true := SV_val (hd.val 7 33 (by decide +kernel)) rfl
            refine ⟨33, true, rfl, eg, fun _ Q => ?_, fun h => absurd rfl h⟩
            have xe36 := SV_val (hd.val 10 36 (by decide +kernel)) rfl
            have e36 : a'.eval (.tmp 36) = .bool F := xe36
            have xe39 := SV_val (hd.val 13 39 (by decide +kernel)) rfl
            have e39 : a'.eval (.tmp 39) = .bool F := xe39
            clear hd hk xe36 xe39
            exact wp_value (.bool true) (by simp only [execOp, e36, e39]; go_simp) (SV_mk rfl rfl)
          · -- 15: Op.pick (Operand.tmp 33) (Operand.tmp 40) (Operand.const (Va
            intro Q
            have xe33 := SV_val (hd.val 7 33 (by decide +kernel)) rfl
            have e33 : a'.eval (.tmp 33) = .bool true := xe33
            have xe40 := SV_val (hd.val 14 40 (by decide +kernel)) rfl
            have e40 : a'.eval (.tmp 40) = .bool true := xe40
            clear hd hk xe33 xe40
            exact wp_value (.bool true) (by simp only [execOp, e33, e40]; go_simp) (SV_mk rfl rfl)
          · -- 16: Op.move (Operand.tmp 41)
            intro Q
            have xe41 := SV_val (hd.val 15 41 (by decide +kernel)) rfl
            have e41 : a'.eval (.tmp 41) = .bool true := xe41
            exact wp_value _ (by simp only [execOp, e41]; rfl) (SV_mk rfl rfl)
          · -- 17: Op.indexAddr 45 (Operand.tmp 5) (Operand.const (Value.int In
            have eg : a'.eval (.tmp 42) = .bool true := SV_val (hd.val 16 42 (by decide +kernel)) rfl
            refine ⟨42, true, rfl, eg, fun _ Q => ?_, fun h => absurd rfl h⟩
            have e5 := (hk.at 5 (by decide +kernel)).trans F5
            clear hd hk 
            exact wp_value (.pointer (some ⟨w.heap.size, 0, none⟩)) (by simp only [execOp, e5]; go_simp) (SV_mk rfl rfl)
          · -- 18: Op.load 36 (Operand.tmp 43)
            have eg : a'.eval (.tmp 42) = .bool true := SV_val (hd.val 16 42 (by decide +kernel)) rfl
            refine ⟨42, true, rfl, eg, fun _ Q => ?_, fun h => absurd rfl h⟩
            have xe43 := SV_val (hd.val 17 43 (by decide +kernel)) rfl
            have e43 : a'.eval (.tmp 43) = .pointer (some ⟨w.heap.size, 0, none⟩) := xe43
            have hc0 : w'.cell? ⟨w.heap.size, 0, none⟩ = some (.slice a1 sx.length c1) := (Below.cell hg (p := ⟨w.heap.size, 0, none⟩) hHl).trans hcell0
            clear hd hk xe43
            exact wp_value (.slice a1 sx.length c1) (by simp only [execOp, e43]; go_simp) (SV_mk rfl rfl)
          · -- 19: Op.call ( callee := Callee.value (Operand.func 25), args := 
            have eg : a'.eval (.tmp 42) = .bool true := SV_val (hd.val 16 42 (by decide +kernel)) rfl
            refine ⟨42, true, rfl, eg, fun _ Q => ?_, fun h => absurd rfl h⟩
            have xe44 := SV_val (hd.val 18 44 (by decide +kernel)) rfl
            have e44 : a'.eval (.tmp 44) = .slice a1 sx.length c1 := xe44
            refine wp_call 25 _ (run_enter 25 _ _ rfl (by kernel_rfl)) ?_
            simp only [List.map_toArray, List.map_nil, List.map_cons, e44]
            refine (list_any _ _ [] sx _ (Rd_nil _) (hx2.kept hg) (by simp; omega)).mono ?_
            rintro e w5 ⟨v5, rfl, ho5, hb5⟩
            exact ⟨v5, rfl, SV_mko rfl _ ho5, hb5⟩
          · -- 20: Op.convert 22 9 (Operand.tmp 45)
            have eg : a'.eval (.tmp 42) = .bool true := SV_val (hd.val 16 42 (by decide +kernel)) rfl
            refine ⟨42, true, rfl, eg, fun _ Q => ?_, fun h => absurd rfl h⟩
            obtain ⟨B19, e45⟩ := SV_own (hd.val 19 45 (by decide +kernel)) rfl
            exact wp_value _ (by simp [execOp, own_conv e45 rfl]) (SV_mk rfl rfl)
          · -- 21: Op.indexAddr 45 (Operand.tmp 5) (Operand.const (Value.int In
            have eg : a'.eval (.tmp 42) = .bool true := SV_val (hd.val 16 42 (by decide +kernel)) rfl
            refine ⟨42, true, rfl, eg, fun _ Q => ?_, fun h => absurd rfl h⟩
            have e5 := (hk.at 5 (by decide +kernel)).trans F5
            clear hd hk 
            exact wp_value (.pointer (some ⟨w.heap.size, 1, none⟩)) (by simp only [execOp, e5]; go_simp) (SV_mk rfl rfl)
          · -- 22: Op.load 36 (Operand.tmp 47)
            have eg : a'.eval (.tmp 42) = .bool true := SV_val (hd.val 16 42 (by decide +kernel)) rfl
            refine ⟨42, true, rfl, eg, fun _ Q => ?_, fun h => absurd rfl h⟩
            have xe47 := SV_val (hd.val 21 47 (by decide +kernel)) rfl
            have e47 : a'.eval (.tmp 47) = .pointer (some ⟨w.heap.size, 1, none⟩) := xe47
            have hc1 : w'.cell? ⟨w.heap.size, 1, none⟩ = some (.slice a2 sy.length c2) := (Below.cell hg (p := ⟨w.heap.size, 1, none⟩) hHl).trans hcell1
            clear hd hk xe47
            exact wp_value (.slice a2 sy.length c2) (by simp only [execOp, e47]; go_simp) (SV_mk rfl rfl)
          · -- 23: Op.call ( callee := Callee.value (Operand.func 25), args := 
            have eg : a'.eval (.tmp 42) = .bool true := SV_val (hd.val 16 42 (by decide +kernel)) rfl
            refine ⟨42, true, rfl, eg, fun _ Q => ?_, fun h => absurd rfl h⟩
            have xe48 := SV_val (hd.val 22 48 (by decide +kernel)) rfl
            have e48 : a'.eval (.tmp 48) = .slice a2 sy.length c2 := xe48
            refine wp_call 25 _ (run_enter 25 _ _ rfl (by kernel_rfl)) ?_
            simp only [List.map_toArray, List.map_nil, List.map_cons, e48]
            refine (list_any _ _ [] sy _ (Rd_nil _) (hy2.kept hg) (by simp; omega)).mono ?_
            rintro e w5 ⟨v5, rfl, ho5, hb5⟩
            exact ⟨v5, rfl, SV_mko rfl _ ho5, hb5⟩
          · -- 24: Op.convert 22 9 (Operand.tmp 49)
            have eg : a'.eval (.tmp 42) = .bool true := SV_val (hd.val 16 42 (by decide +kernel)) rfl
            refine ⟨42, true, rfl, eg, fun _ Q => ?_, fun h => absurd rfl h⟩
            obtain ⟨B23, e49⟩ := SV_own (hd.val 23 49 (by decide +kernel)) rfl
            exact wp_value _ (by simp [execOp, own_conv e49 rfl]) (SV_mk rfl rfl)
          · -- 25: Op.binOp BinOp.eql 9 (Operand.tmp 46) (Operand.tmp 50) 9
            have eg : a'.eval (.tmp 42) = .bool true := SV_val (hd.val 16 42 (by decide +kernel)) rfl
            refine ⟨42, true, rfl, eg, fun _ Q => ?_, fun h => absurd rfl h⟩
            have xe46 := SV_val (hd.val 20 46 (by decide +kernel)) rfl
            have e46 : a'.eval (.tmp 46) = .string ⟨(encL (sls sx)).toArray⟩ := xe46
            have xe50 := SV_val (hd.val 24 50 (by decide +kernel)) rfl
            have e50 : a'.eval (.tmp 50) = .string ⟨(encL (sls sy)).toArray⟩ := xe50
            clear hd hk xe46 xe50
            exact wp_value (.bool G) (by simp only [execOp, e46, e50]; go_simp) (SV_mk rfl rfl)
          · -- 26: Op.indexAddr 45 (Operand.tmp 5) (Operand.const (Value.int In
            have eg : a'.eval (.tmp 42) = .bool true := SV_val (hd.val 16 42 (by decide +kernel)) rfl
            refine ⟨42, true, rfl, eg, fun _ Q => ?_, fun h => absurd rfl h⟩
            have e5 := (hk.at 5 (by decide +kernel)).trans F5
            clear hd hk 
            exact wp_value (.pointer (some ⟨w.heap.size, 0, none⟩)) (by simp only [execOp, e5]; go_simp) (SV_mk rfl rfl)
          · -- 27: Op.load 36 (Operand.tmp 52)
            have eg : a'.eval (.tmp 42) = .bool true := SV_val (hd.val 16 42 (by decide +kernel)) rfl
            refine ⟨42, true, rfl, eg, fun _ Q => ?_, fun h => absurd rfl h⟩
            have xe52 := SV_val (hd.val 26 52 (by decide +kernel)) rfl
            have e52 : a'.eval (.tmp 52) = .pointer (some ⟨w.heap.size, 0, none⟩) := xe52
            have hc0 : w'.cell? ⟨w.heap.size, 0, none⟩ = some (.slice a1 sx.length c1) := (Below.cell hg (p := ⟨w.heap.size, 0, none⟩) hHl).trans hcell0
            clear hd hk xe52
            exact wp_value (.slice a1 sx.length c1) (by simp only [execOp, e52]; go_simp) (SV_mk rfl rfl)
          · -- 28: Op.indexAddr 45 (Operand.tmp 5) (Operand.const (Value.int In
            have eg : a'.eval (.tmp 42) = .bool true := SV_val (hd.val 16 42 (by decide +kernel)) rfl
            refine ⟨42, true, rfl, eg, fun _ Q => ?_, fun h => absurd rfl h⟩
            have e5 := (hk.at 5 (by decide +kernel)).trans F5
            clear hd hk 
            exact wp_value (.pointer (some ⟨w.heap.size, 1, none⟩)) (by simp only [execOp, e5]; go_simp) (SV_mk rfl rfl)
          · -- 29: Op.load 36 (Operand.tmp 54)
            have eg : a'.eval (.tmp 42) = .bool true := SV_val (hd.val 16 42 (by decide +kernel)) rfl
            refine ⟨42, true, rfl, eg, fun _ Q => ?_, fun h => absurd rfl h⟩
            have xe54 := SV_val (hd.val 28 54 (by decide +kernel)) rfl
            have e54 : a'.eval (.tmp 54) = .pointer (some ⟨w.heap.size, 1, none⟩) := xe54
            have hc1 : w'.cell? ⟨w.heap.size, 1, none⟩ = some (.slice a2 sy.length c2) := (Below.cell hg (p := ⟨w.heap.size, 1, none⟩) hHl).trans hcell1
            clear hd hk xe54
            exact wp_value (.slice a2 sy.length c2) (by simp only [execOp, e54]; go_simp) (SV_mk rfl rfl)
          · -- 30: Op.call ( callee := Callee.value (Operand.func 27), args := 
            have eg : a'.eval (.tmp 42) = .bool true := SV_val (hd.val 16 42 (by decide +kernel)) rfl
            refine ⟨42, true, rfl, eg, fun _ Q => ?_, fun h => absurd rfl h⟩
            have xe53 := SV_val (hd.val 27 53 (by decide +kernel)) rfl
            have e53 : a'.eval (.tmp 53) = .slice a1 sx.length c1 := xe53
            have xe55 := SV_val (hd.val 29 55 (by decide +kernel)) rfl
            have e55 : a'.eval (.tmp 55) = .slice a2 sy.length c2 := xe55
            refine wp_call 27 _ (run_enter 27 _ _ rfl (by kernel_rfl)) ?_
            simp only [List.map_toArray, List.map_nil, List.map_cons, e53, e55]
            refine (same_any _ _ _ _ _ (hx2.kept hg) (hy2.kept hg) (by omega) (by omega)).mono ?_
            rw [HG.out]
            rintro e w5 ⟨rfl, nq, rfl⟩
            exact ⟨_, rfl, SV_mk rfl rfl, below_drewN _ _ _⟩
          · -- 31: Op.binOp BinOp.eql 4 (Operand.tmp 51) (Operand.tmp 56) 4
            have eg : a'.eval (.tmp 42) = .bool true := SV_val (hd.val 16 42 (by decide +kernel)) rfl
            refine ⟨42, true, rfl, eg, fun _ Q => ?_, fun h => absurd rfl h⟩
            have xe51 := SV_val (hd.val 25 51 (by decide +kernel)) rfl
            have e51 : a'.eval (.tmp 51) = .bool G := xe51
            have xe56 := SV_val (hd.val 30 56 (by decide +kernel)) rfl
            have e56 : a'.eval (.tmp 56) = .bool G := xe56
            clear hd hk xe51 xe56
            exact wp_value (.bool true) (by simp only [execOp, e51, e56]; go_simp) (SV_mk rfl rfl)
          · -- 32: Op.pick (Operand.tmp 42) (Operand.tmp 57) (Operand.const (Va
            intro Q
            have xe42 := SV_val (hd.val 16 42 (by decide +kernel)) rfl
            have e42 : a'.eval (.tmp 42) = .bool true := xe42
            have xe57 := SV_val (hd.val 31 57 (by decide +kernel)) rfl
            have e57 : a'.eval (.tmp 57) = .bool true := xe57
            clear hd hk xe42 xe57
            exact wp_value (.bool true) (by simp only [execOp, e42, e57]; go_simp) (SV_mk rfl rfl)
          · -- 33: Op.move (Operand.tmp 58)
            intro Q
            have xe58 := SV_val (hd.val 32 58 (by decide +kernel)) rfl
            have e58 : a'.eval (.tmp 58) = .bool true := xe58
            exact wp_value _ (by simp only [execOp, e58]; rfl) (SV_mk rfl rfl)
          · -- 34: Op.call ( callee := Callee.value (Operand.func 9), args := #
            have eg : a'.eval (.tmp 59) = .bool true := SV_val (hd.val 33 59 (by decide +kernel)) rfl
            refine ⟨59, true, rfl, eg, fun _ Q => ?_, fun h => absurd rfl h⟩
            refine wp_call 9 _ (run_enter 9 _ _ rfl (by kernel_rfl)) ?_
            simp only [List.map_toArray, List.map_nil]
            refine (lives_any _).mono ?_
            rintro e w5 ⟨rfl, hb5⟩
            exact ⟨_, rfl, SV_mk rfl rfl, hb5⟩
          · -- 35: Op.pick (Operand.tmp 59) (Operand.tmp 60) (Operand.const (Va
            intro Q
            have xe59 := SV_val (hd.val 33 59 (by decide +kernel)) rfl
            have e59 : a'.eval (.tmp 59) = .bool true := xe59
            have xe60 := SV_val (hd.val 34 60 (by decide +kernel)) rfl
            have e60 : a'.eval (.tmp 60) = .bool true := xe60
            clear hd hk xe59 xe60
            exact wp_value (.bool true) (by simp only [execOp, e59, e60]; go_simp) (SV_mk rfl rfl)
          · -- 36: Op.assign (Operand.tmp 61)
            intro Q
            have xe61 := SV_val (hd.val 35 61 (by decide +kernel)) rfl
            have e61 : a'.eval (.tmp 61) = .bool true := xe61
            exact wp_value _ (by simp only [execOp, e61]; rfl) (SV_mk rfl rfl)
        · intro a' w' hsz' hdf hk hS hg
          have x6 := SV_val (hS 36 _ 6 rfl rfl) rfl
          have e6 : a'.eval (.tmp 6) = .bool true := x6
          go_wp2
          exact bodyPost_ret (results_tmp Try.results7 _ _ _) (hdf.trans hdf3) ⟨congrArg Ending.returned e6, hbw.trans (Below.mono hg hbw.size)⟩
#print axioms packApart_core
end Go.Proofs.Ytcfakmjkbgcbhaa
