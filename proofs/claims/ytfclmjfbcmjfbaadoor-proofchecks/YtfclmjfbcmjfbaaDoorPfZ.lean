/-
  indenturelaw10.light and lives: what the calls do.
-/
import Derived.Test.YtfclmjfbcmjfbaaDoorPfK
namespace Go.Proofs.YtfclmjfbcmjfbaaDoor
open Go.RowKit
set_option maxHeartbeats 1000000 in
set_option maxRecDepth 100000 in
theorem light_any (v : Value) (L : List Hs) (w : World) (hL : RdG HE w v L) : Calls Tryd.prog 9 #[v] w fun e w' => e = .returned (.bool (decide (L.length ≤ 60))) ∧ w' = w := by
  obtain ⟨p, cp, rfl⟩ := hL.slice
  obtain ⟨n, HN⟩ : ∃ n, Hid (L.length = n) := ⟨_, rfl⟩
  rw [HN.out] at hL ⊢
  clear hL
  go_enter Tryd.func9, Tryd.ntmps9
  by_cases h : n ≤ 60
  · have q : (n : Int) ≤ 60 := by omega
    rw [decide_eq_true h]
    go_wp2
    go_ret
    exact ⟨by simp, rfl⟩
  · have q : ¬ (n : Int) ≤ 60 := by omega
    rw [decide_eq_false h]
    go_wp2
    go_ret
    exact ⟨by simp, rfl⟩
def la : Hs := ⟨1 :: List.replicate 31 0, by simp⟩
def lb : Hs := ⟨2 :: List.replicate 31 0, by simp⟩
theorem live_path : pathW [zh, la, lb] 2 = [nd zh la] := by
  have h : wayP 40 0 3 2 true = ([⟨0, 2, true⟩], 2, 3) := by kernel_rfl
  unfold pathW
  rw [if_pos (by simp)]
  simp only [List.length_cons, List.length_nil, Nat.zero_add, Nat.reduceAdd, show ((2 : Int)).toNat = 2 from rfl, h]
  rfl
theorem Tryd.zero3 (W : World) : (zeroValue 42).run Tryd.prog W = .ok (.agg (HE.cs [zh, zh, zh]).toArray) W := by kernel_rfl
theorem live_cells : ((HE.cs [zh, zh, zh]).set 32 (.int .u8 1)).set 64 (.int .u8 2) = HE.cs [zh, la, lb] := by kernel_rfl
theorem slice_arr3 (N : Nat) (W : World) : (Instr.sliceAt 42 (.pointer (some ⟨N, 0, none⟩)) none none none).run Tryd.prog W = .ok (.slice (some ⟨N, 0, none⟩) 3 3) W := by
  have hu : Tryd.prog.underlying 42 = some (.array 3 30) := by kernel_rfl
  cases hq : Tryd.prog.info? 30 with
  | none => have := Tryd.size30; rw [hq] at this; cases this
  | some k => simp [Instr.sliceAt, run_underlying hu, Instr.sureAddr, Instr.sliceBounds, sizeOf, typeInfo, hq, Addr.add]
set_option maxHeartbeats 4000000 in
set_option maxRecDepth 100000 in
theorem lives_any (w : World) (hT : Tabs w) : Calls Tryd.prog 10 #[] w fun e w' => e = .returned (.bool true) ∧ Below w.heap.size w w' := by
  obtain ⟨N, HNw⟩ : ∃ N, Hid (w.heap.size = N) := ⟨_, rfl⟩
  have HNT : Hid (2 ≤ N) := (show 2 ≤ N by rw [← HNw.out]; exact hT.size)
  have HT := hide hT
  clear hT
  have hz := Tryd.zero3
  obtain ⟨Z, HZ⟩ : ∃ Z, Hid (HE.cs [zh, zh, zh] = Z) := ⟨_, rfl⟩
  rw [HZ.out] at hz
  have hzl : Z.length = 96 := by rw [← HZ.out]; rfl
  have hze : ¬ Z = [] := fun h => by rw [h] at hzl; simp at hzl
  have hsl := slice_arr3
  go_enter Tryd.func10, Tryd.ntmps10
  go_upto_region 2 with fail
  obtain ⟨w0, hw0⟩ : ∃ z, z = w.alloc (.cells Z.toArray 42 (0, 0)) := ⟨_, rfl⟩
  change Code.wp _ _ _ _ (w.alloc (.cells Z.toArray 42 (0, 0)))
  rw [← hw0, HNw.out]
  have b0 : Blk w0 N 42 Z := by rw [hw0, ← HNw.out]; exact Blk.new w 42 Z
  have B0 := hide b0
  have L0 : Hid (Below N w w0) := (show Below _ _ _ by rw [hw0]; exact (Below.refl _ _).alloc (by rw [HNw.out]; exact Nat.le_refl _) _)
  have c1 : w0.cell? ⟨N, 32, none⟩ = some (.int .u8 0) := b0.cell (by rw [← HZ.out]; rfl)
  have c2 : w0.cell? ⟨N, 64, none⟩ = some (.int .u8 0) := b0.cell (by rw [← HZ.out]; rfl)
  have f1 := b0.frozen 32
  have f2 := b0.frozen 64
  clear hw0 b0
  go_upto_region 3 with fail
  obtain ⟨w1, hw1⟩ : ∃ z, z = (w0.setCell ⟨N, 32, none⟩ (.int .u8 1)).setCell ⟨N, 64, none⟩ (.int .u8 2) := ⟨_, rfl⟩
  change Code.wp _ _ _ _ ((w0.setCell ⟨N, 32, none⟩ (.int .u8 1)).setCell ⟨N, 64, none⟩ (.int .u8 2))
  rw [← hw1]
  have b1 : Blk w1 N 42 (HE.cs [zh, la, lb]) := by
    rw [hw1, ← live_cells, HZ.out]
    exact (B0.out.set 32 _).set 64 _
  have hu1 : But N w0 w1 := by rw [hw1]; exact (But.setCell N w0 32 _).trans (But.setCell N _ 64 _)
  have L1 : Hid (Below N w w1) := L0.out.trans (hu1.below (Nat.le_refl _) (by have := B0.out.lt; omega))
  have B1 := hide b1
  have R1 : Hid (RdG HE w1 (.slice (some ⟨N, 0, none⟩) 3 3) [zh, la, lb]) := (show RdG _ _ _ _ from ⟨some ⟨N, 0, none⟩, 3, rfl, by simp, by simp [maxLen], fun h => by simp at h, fun _ => ⟨N, 0, rfl, b1.lt, fun j u hj => by rw [Nat.zero_add]; exact b1.cell hj⟩⟩)
  have CP := path_any _ [zh, la, lb] 2 (by simp) w1 (HT.out.kept (L1.out.mono HNT.out)) R1.out
  rw [live_path] at CP
  have HCP := hide CP
  clear CP hw1 b1 hu1 c1 c2 f1 f2
  go_wp2_with fail
  refine HCP.out.mono ?_
  rintro e w2 ⟨⟨v', rfl, ho⟩, hb2⟩
  obtain ⟨pa, cp, hv⟩ := ho.rd.slice
  have R2 := hide ho.rd
  simp only [List.length_singleton] at hv
  subst hv
  rw [show decide ((0 : Int) ≤ 2 ∧ (2 : Int) < (([zh, la, lb] : List Hs).length : Int)) = true by simp]
  obtain ⟨b, off, rfl, hlb9, hx9⟩ := R2.out.nth (by simp)
  have hrp : w2.rangeAt b off (By (nd zh la).1) := by have := hx9 0 (by simp); simpa [HE] using this
  have B2 := B1.out.kept hb2
  have hlN : N < w2.heap.size := B2.lt
  have hra : w2.rangeAt N 0 (By zh.1) := B2.range 0 _ (fun j v hj => by
    rw [Nat.zero_add]
    rw [Enc.cs_cons]
    exact (List.getElem?_append_left (l₁ := HE.c zh) (List.getElem?_eq_some_iff.1 hj).1).trans hj)
  have hrb : w2.rangeAt N 32 (By la.1) := B2.range 32 _ (fun j v hj => by
    have hl := (List.getElem?_eq_some_iff.1 hj).1
    rw [Enc.cs_cons, List.getElem?_append_right (by rw [HE.len]; exact Nat.le_add_right _ _), HE.len, show 32 + j - HE.n = j by show 32 + j - 32 = j; omega, Enc.cs_cons]
    exact (List.getElem?_append_left (l₁ := HE.c la) hl).trans hj)
  have L2 : Hid (Below N w w2) := L1.out.trans (hb2.mono (Nat.le_of_lt B1.out.lt))
  clear hx9 ho hb2 B2
  go_upto_region 4 with fail
  refine wp_region_inv Tryd.mixed (KS (fun i_ => match i_ with | 0 | 1 | 4 | 5 | 6 | 15 | 16 | 17 => .val (.bool true) | 2 | 7 => .val (.slice (some ⟨b, off, none⟩) 1 cp) | 3 => .val (.int .i64 1) | 8 => .val (.pointer (some ⟨b, off, none⟩)) | 9 | 14 => .val (HV (nd zh la)) | 10 => .val (.pointer (some ⟨N, 0, none⟩)) | 11 => .val (HV zh) | 12 => .val (.pointer (some ⟨N, 32, none⟩)) | 13 => .val (HV la) | _ => .free)) 30 rfl (by decide +kernel) (KS_mono _) ?_ ?_
  · refine AllFrom.cons (fun a' w' hg hk hd => ?_) (AllFrom.cons (fun a' w' hg hk hd => ?_) (AllFrom.cons (fun a' w' hg hk hd => ?_) (AllFrom.cons (fun a' w' hg hk hd => ?_) (AllFrom.cons (fun a' w' hg hk hd => ?_) (AllFrom.cons (fun a' w' hg hk hd => ?_) (AllFrom.cons (fun a' w' hg hk hd => ?_) (AllFrom.cons (fun a' w' hg hk hd => ?_) (AllFrom.cons (fun a' w' hg hk hd => ?_) (AllFrom.cons (fun a' w' hg hk hd => ?_) (AllFrom.cons (fun a' w' hg hk hd => ?_) (AllFrom.cons (fun a' w' hg hk hd => ?_) (AllFrom.cons (fun a' w' hg hk hd => ?_) (AllFrom.cons (fun a' w' hg hk hd => ?_) (AllFrom.cons (fun a' w' hg hk hd => ?_) (AllFrom.cons (fun a' w' hg hk hd => ?_) (AllFrom.cons (fun a' w' hg hk hd => ?_) (AllFrom.cons (fun a' w' hg hk hd => ?_) AllFrom.nil)))))))))))))))))
    · skip
      intro Q
      have e3 : a'.eval (.tmp 3) = .bool true := hk.at 3 (by decide +kernel)
      exact wp_value _ (by simp only [execOp, e3]; rfl) (KS_mkv rfl rfl)
    · skip
      intro Q
      have e13 : a'.eval (.tmp 13) = .bool true := KS_val (hd.val 0 13 (by decide +kernel)) rfl
      exact wp_value _ (by simp only [execOp, e13]; rfl) (KS_mkv rfl rfl)
    · skip
      have eg : a'.eval (.tmp 14) = .bool true := KS_val (hd.val 1 14 (by decide +kernel)) rfl
      refine ⟨14, true, rfl, eg, fun _ Q => ?_, fun h => absurd rfl h⟩
      have e2 : a'.eval (.tmp 2) = .slice (some ⟨b, off, none⟩) 1 cp := hk.at 2 (by decide +kernel)
      exact wp_value _ (by simp only [execOp, e2]; rfl) (KS_mkv rfl rfl)
    · skip
      have eg : a'.eval (.tmp 14) = .bool true := KS_val (hd.val 1 14 (by decide +kernel)) rfl
      refine ⟨14, true, rfl, eg, fun _ Q => ?_, fun h => absurd rfl h⟩
      have e15 : a'.eval (.tmp 15) = .slice (some ⟨b, off, none⟩) 1 cp := KS_val (hd.val 2 15 (by decide +kernel)) rfl
      clear hd hk
      exact wp_value (.int .i64 1) (by simp only [execOp, resolve, invoke, builtin, Sem.run_bind, Sem.run_pure, Result.andThen_ok, List.map_toArray, List.map_cons, List.map_nil, e15]; go_simp) (KS_mkv rfl rfl)
    · skip
      have eg : a'.eval (.tmp 14) = .bool true := KS_val (hd.val 1 14 (by decide +kernel)) rfl
      refine ⟨14, true, rfl, eg, fun _ Q => ?_, fun h => absurd rfl h⟩
      have e16 : a'.eval (.tmp 16) = .int .i64 1 := KS_val (hd.val 3 16 (by decide +kernel)) rfl
      clear hd hk
      exact wp_value (.bool true) (by simp only [execOp, e16]; go_simp) (KS_mkv rfl rfl)
    · skip
      intro Q
      have e14 : a'.eval (.tmp 14) = .bool true := KS_val (hd.val 1 14 (by decide +kernel)) rfl
      have e17 : a'.eval (.tmp 17) = .bool true := KS_val (hd.val 4 17 (by decide +kernel)) rfl
      clear hd hk
      exact wp_value (.bool true) (by simp only [execOp, e14, e17]; go_simp) (KS_mkv rfl rfl)
    · skip
      intro Q
      have e18 : a'.eval (.tmp 18) = .bool true := KS_val (hd.val 5 18 (by decide +kernel)) rfl
      exact wp_value _ (by simp only [execOp, e18]; rfl) (KS_mkv rfl rfl)
    · skip
      have eg : a'.eval (.tmp 19) = .bool true := KS_val (hd.val 6 19 (by decide +kernel)) rfl
      refine ⟨19, true, rfl, eg, fun _ Q => ?_, fun h => absurd rfl h⟩
      have e2 : a'.eval (.tmp 2) = .slice (some ⟨b, off, none⟩) 1 cp := hk.at 2 (by decide +kernel)
      exact wp_value _ (by simp only [execOp, e2]; rfl) (KS_mkv rfl rfl)
    · skip
      have eg : a'.eval (.tmp 19) = .bool true := KS_val (hd.val 6 19 (by decide +kernel)) rfl
      refine ⟨19, true, rfl, eg, fun _ Q => ?_, fun h => absurd rfl h⟩
      have e20 : a'.eval (.tmp 20) = .slice (some ⟨b, off, none⟩) 1 cp := KS_val (hd.val 7 20 (by decide +kernel)) rfl
      clear hd hk
      exact wp_value (.pointer (some ⟨b, off, none⟩)) (by simp only [execOp, e20]; go_simp) (KS_mkv rfl rfl)
    · skip
      have eg : a'.eval (.tmp 19) = .bool true := KS_val (hd.val 6 19 (by decide +kernel)) rfl
      refine ⟨19, true, rfl, eg, fun _ Q => ?_, fun h => absurd rfl h⟩
      have e21 : a'.eval (.tmp 21) = .pointer (some ⟨b, off, none⟩) := KS_val (hd.val 8 21 (by decide +kernel)) rfl
      exact wp_load_row 30 _ rfl _ _ e21 (By (nd zh la).1) _ (rangeAt_kept9 hrp hlb9 hg) Tryd.underlying30 rfl (Tryd.sizeH _) (KS_mkv rfl rfl)
    · skip
      have eg : a'.eval (.tmp 19) = .bool true := KS_val (hd.val 6 19 (by decide +kernel)) rfl
      refine ⟨19, true, rfl, eg, fun _ Q => ?_, fun h => absurd rfl h⟩
      have e1 : a'.eval (.tmp 1) = .pointer (some ⟨N, 0, none⟩) := hk.at 1 (by decide +kernel)
      clear hd hk
      exact wp_value (.pointer (some ⟨N, 0, none⟩)) (by simp only [execOp, e1]; go_simp) (KS_mkv rfl rfl)
    · skip
      have eg : a'.eval (.tmp 19) = .bool true := KS_val (hd.val 6 19 (by decide +kernel)) rfl
      refine ⟨19, true, rfl, eg, fun _ Q => ?_, fun h => absurd rfl h⟩
      have e23 : a'.eval (.tmp 23) = .pointer (some ⟨N, 0, none⟩) := KS_val (hd.val 10 23 (by decide +kernel)) rfl
      exact wp_load_row 30 _ rfl _ _ e23 (By (zh).1) _ (rangeAt_kept9 hra hlN hg) Tryd.underlying30 rfl (Tryd.sizeH _) (KS_mkv rfl rfl)
    · skip
      have eg : a'.eval (.tmp 19) = .bool true := KS_val (hd.val 6 19 (by decide +kernel)) rfl
      refine ⟨19, true, rfl, eg, fun _ Q => ?_, fun h => absurd rfl h⟩
      have e1 : a'.eval (.tmp 1) = .pointer (some ⟨N, 0, none⟩) := hk.at 1 (by decide +kernel)
      clear hd hk
      exact wp_value (.pointer (some ⟨N, 32, none⟩)) (by simp only [execOp, e1]; go_simp) (KS_mkv rfl rfl)
    · skip
      have eg : a'.eval (.tmp 19) = .bool true := KS_val (hd.val 6 19 (by decide +kernel)) rfl
      refine ⟨19, true, rfl, eg, fun _ Q => ?_, fun h => absurd rfl h⟩
      have e25 : a'.eval (.tmp 25) = .pointer (some ⟨N, 32, none⟩) := KS_val (hd.val 12 25 (by decide +kernel)) rfl
      exact wp_load_row 30 _ rfl _ _ e25 (By (la).1) _ (rangeAt_kept9 hrb hlN hg) Tryd.underlying30 rfl (Tryd.sizeH _) (KS_mkv rfl rfl)
    · skip
      have eg : a'.eval (.tmp 19) = .bool true := KS_val (hd.val 6 19 (by decide +kernel)) rfl
      refine ⟨19, true, rfl, eg, fun _ Q => ?_, fun h => absurd rfl h⟩
      have e24 : a'.eval (.tmp 24) = HV zh := KS_val (hd.val 11 24 (by decide +kernel)) rfl
      have e26 : a'.eval (.tmp 26) = HV la := KS_val (hd.val 13 26 (by decide +kernel)) rfl
      refine wp_call 23 _ (run_enter 23 _ _ rfl (by kernel_rfl)) ?_
      simp only [List.map_toArray, List.map_nil, List.map_cons, e24, e26]
      refine (rnode_any zh la _).mono ?_
      rintro e w5 ⟨rfl, hb5⟩
      exact ⟨_, rfl, KS_mkv rfl rfl, hb5⟩
    · skip
      have eg : a'.eval (.tmp 19) = .bool true := KS_val (hd.val 6 19 (by decide +kernel)) rfl
      refine ⟨19, true, rfl, eg, fun _ Q => ?_, fun h => absurd rfl h⟩
      have e22 : a'.eval (.tmp 22) = HV (nd zh la) := KS_val (hd.val 9 22 (by decide +kernel)) rfl
      have e27 : a'.eval (.tmp 27) = HV (nd zh la) := KS_val (hd.val 14 27 (by decide +kernel)) rfl
      clear hd hk
      have he := eqA (nd zh la) (nd zh la)
      simp only [decide_true] at he
      exact wp_value (.bool true) (by simp only [execOp, e22, e27, HV]; go_simp) (KS_mkv rfl rfl)
    · skip
      intro Q
      have e19 : a'.eval (.tmp 19) = .bool true := KS_val (hd.val 6 19 (by decide +kernel)) rfl
      have e28 : a'.eval (.tmp 28) = .bool true := KS_val (hd.val 15 28 (by decide +kernel)) rfl
      clear hd hk
      exact wp_value (.bool true) (by simp only [execOp, e19, e28]; go_simp) (KS_mkv rfl rfl)
    · skip
      intro Q
      have e29 : a'.eval (.tmp 29) = .bool true := KS_val (hd.val 16 29 (by decide +kernel)) rfl
      exact wp_value _ (by simp only [execOp, e29]; rfl) (KS_mkv rfl rfl)
  · intro a' w' hsz hdf hk hall hg
    have e0 : a'.eval (.tmp 0) = .bool true := KS_val (hall 17 _ 0 rfl rfl) rfl
    have hd0 : a'.defers = [] := hdf
    have L3 : Below N w w' := L2.out.trans (Below.mono hg (Nat.le_of_lt (Nat.lt_of_le_of_lt (by omega) hlN)))
    clear hall hk hsz hdf
    go_wp2_with fail
    refine bodyPost_ret (results_tmp rfl _ _ _) hd0 ⟨?_, by rw [HNw.out]; exact L3⟩
    have : a'.tmps.getD 0 undef = .bool true := e0
    rw [this]
#print axioms lives_any
end Go.Proofs.YtfclmjfbcmjfbaaDoor
