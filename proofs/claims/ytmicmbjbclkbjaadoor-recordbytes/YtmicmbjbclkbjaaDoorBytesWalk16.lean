/-
  The law RecordBytes: what the call does.
-/
import Derived.Test.YtmicmbjbclkbjaaDoorRcHK
import Derived.Test.YtmicmbjbclkbjaaDoorRcO
namespace Go.Proofs.YtmicmbjbclkbjaaDoor
open Go.RowKit
theorem beq_runB (a b : Bool) : ∀ W, (binOp .eql 4 (.bool a) (.bool b)).run Tryd.prog W = .ok (.bool (a == b)) W := fun W => by
  cases a <;> cases b <;> kernel_rfl
theorem eqg_bB (x y : Operand) (a b : Bool) : ∀ W, (eqGuard .eql 4 x y (.bool a) (.bool b)).run Tryd.prog W = .ok () W := fun W => by
  simp [eqGuard, go_sem]
theorem eqg_sB (x y : Operand) (a b : ByteArray) : ∀ W, (eqGuard .eql 9 x y (.string a) (.string b)).run Tryd.prog W = .ok () W := fun W => by
  simp [eqGuard, go_sem]
theorem seq_runB (a b : List UInt8) : ∀ W, (binOp .eql 9 (.string ⟨a.toArray⟩) (.string ⟨b.toArray⟩)).run Tryd.prog W = .ok (.bool (a == b)) W := fun W => by
  have e : ((⟨a.toArray⟩ : ByteArray).toList == (⟨b.toArray⟩ : ByteArray).toList) = (a == b) := by rw [ByteArray.toList_eq, ByteArray.toList_eq]
  rw [← e]
  simp [binOp, Op.stringOp, go_sem]
set_option maxHeartbeats 4000000 in
set_option maxRecDepth 100000 in
theorem recordBytes_any {w : World} {p q : Rc} (hT : Tabs w) (hp : ROk w p) (hbp : RB 140737488351232 p) (hq : ROk w q) (hbq : RB 140737488351232 q) : Calls Tryd.prog 3 #[.agg (RC p).toArray, .agg (RC q).toArray] w fun e w' => e = .returned (.bool true) ∧ Below w.heap.size w w' := by
  obtain ⟨N, HN⟩ : ∃ N, Hid (w.heap.size = N) := ⟨_, rfl⟩
  obtain ⟨w1, hw1⟩ : ∃ z, z = (w.alloc (.cells (RC p).toArray 25 (0, 0))).alloc (.cells (RC q).toArray 25 (0, 0)) := ⟨_, rfl⟩
  obtain ⟨b1, b2, l1⟩ := newB2 HN hw1
  have HW := hide hw1
  have PO := hide (hp.kept l1.out)
  have QO := hide (hq.kept l1.out)
  have HT : Hid (Tabs w1) := (show Tabs _ from hT.kept (l1.out.mono hT.size))
  have HT2 : Hid (2 ≤ w1.heap.size) := (show 2 ≤ _ from HT.out.size)
  have HBP := hide hbp
  have HBQ := hide hbq
  have CL := hide (mlight_any PO.out hbp)
  clear hp hq hw1 hbp hbq hT
  have rp := b1.out.range0
  go_enter Tryd.func3, Tryd.ntmps3
  go_upto_region 1 with fail
  change Code.wp _ _ _ _ ((w.alloc (.cells (RC p).toArray 25 (0, 0))).alloc (.cells (RC q).toArray 25 (0, 0)))
  rw [← HW.out, HN.out]
  go_wp2_with (first
    | (refine wpList_load_mid rfl 25 _ rfl N 0 rfl (RC p) _ rp Tryd.underlying25 rfl Tryd.size25 ?_)
    | (refine wpList_load_w9 rfl 25 _ rfl N 0 rfl (RC p) _ rp Tryd.underlying25 rfl Tryd.size25 ?_)
    | (refine wpList_load_mid rfl 25 _ rfl (N + 1) 0 rfl (RC q) _ rq Tryd.underlying25 rfl Tryd.size25 ?_)
    | (refine wpList_load_w9 rfl 25 _ rfl (N + 1) 0 rfl (RC q) _ rq Tryd.underlying25 rfl Tryd.size25 ?_)
    | fail)
  refine CL.out.mono ?_
  rintro e w2 ⟨b, rfl, hlt, hb2⟩
  have L2 : Hid (Below w1.heap.size w1 w2) := (show Below _ _ _ from hb2)
  have HLT := hide hlt
  clear hb2 CL rp hlt
  cases b with
  | false =>
    have CV := hide (lives_any w2)
    go_wp2_with (first
      | (refine wpList_load_mid rfl 25 _ rfl N 0 rfl (RC p) _ rp Tryd.underlying25 rfl Tryd.size25 ?_)
      | (refine wpList_load_w9 rfl 25 _ rfl N 0 rfl (RC p) _ rp Tryd.underlying25 rfl Tryd.size25 ?_)
      | (refine wpList_load_mid rfl 25 _ rfl (N + 1) 0 rfl (RC q) _ rq Tryd.underlying25 rfl Tryd.size25 ?_)
      | (refine wpList_load_w9 rfl 25 _ rfl (N + 1) 0 rfl (RC q) _ rq Tryd.underlying25 rfl Tryd.size25 ?_)
      | fail)
    refine CV.out.mono ?_
    rintro e w9 ⟨rfl, hb9⟩
    have L9 : Hid (Below w.heap.size w w9) := (show Below _ _ _ from l1.out.trans ((L2.out.trans (hb9.mono L2.out.size)).mono l1.out.size))
    clear hb9 CV
    go_wp2_with fail
    go_ret
    exact ⟨rfl, L9.out⟩
  | true =>
    have LT := hide (HLT.out rfl)
    have CL := hide (mlight_any (QO.out.kept L2.out) HBQ.out)
    have rq := (b2.out.kept L2.out).range0
    go_wp2_with (first
      | (refine wpList_load_mid rfl 25 _ rfl N 0 rfl (RC p) _ rp Tryd.underlying25 rfl Tryd.size25 ?_)
      | (refine wpList_load_w9 rfl 25 _ rfl N 0 rfl (RC p) _ rp Tryd.underlying25 rfl Tryd.size25 ?_)
      | (refine wpList_load_mid rfl 25 _ rfl (N + 1) 0 rfl (RC q) _ rq Tryd.underlying25 rfl Tryd.size25 ?_)
      | (refine wpList_load_w9 rfl 25 _ rfl (N + 1) 0 rfl (RC q) _ rq Tryd.underlying25 rfl Tryd.size25 ?_)
      | fail)
    refine CL.out.mono ?_
    rintro e w5 ⟨b, rfl, -, hb3⟩
    have L5 : Hid (Below w1.heap.size w1 w5) := (show Below _ _ _ from L2.out.trans (hb3.mono L2.out.size))
    clear hb3 CL rq
    cases b with
    | false =>
      have CV := hide (lives_any w5)
      go_wp2_with (first
        | (refine wpList_load_mid rfl 25 _ rfl N 0 rfl (RC p) _ rp Tryd.underlying25 rfl Tryd.size25 ?_)
        | (refine wpList_load_w9 rfl 25 _ rfl N 0 rfl (RC p) _ rp Tryd.underlying25 rfl Tryd.size25 ?_)
        | (refine wpList_load_mid rfl 25 _ rfl (N + 1) 0 rfl (RC q) _ rq Tryd.underlying25 rfl Tryd.size25 ?_)
        | (refine wpList_load_w9 rfl 25 _ rfl (N + 1) 0 rfl (RC q) _ rq Tryd.underlying25 rfl Tryd.size25 ?_)
        | fail)
      refine CV.out.mono ?_
      rintro e w9 ⟨rfl, hb9⟩
      have L9 : Hid (Below w.heap.size w w9) := (show Below _ _ _ from l1.out.trans ((L5.out.trans (hb9.mono L5.out.size)).mono l1.out.size))
      clear hb9 CV
      go_wp2_with fail
      go_ret
      exact ⟨rfl, L9.out⟩
    | true =>
      go_upto_region 3 with fail
      try simp only [Act.put]
      obtain ⟨y1, HL1⟩ : ∃ z, Hid (bytesP p = z) := ⟨_, rfl⟩
      have HYL : Hid (y1.length ≤ 5000000) := (show _ ≤ _ by rw [← HL1.out]; exact bytes_len p)
      have hl32 : (tg 0 [y1]).length = 32 := sha_length _
      have heq := fun W => eq31 (tg 0 [y1]) (tg 0 [y1]) hl32 hl32 W
      rw [beq_self_eq_true] at heq
      obtain ⟨g1, HG1⟩ : ∃ z, Hid (goodR p = z) := ⟨_, rfl⟩
      obtain ⟨s1, HS1⟩ : ∃ z, Hid (sameB p q = z) := ⟨_, rfl⟩
      have PO5 := hide (PO.out.kept L5.out)
      have QO5 := hide (QO.out.kept L5.out)
      have B5 := hide (b1.out.kept L5.out)
      have B6 := hide (b2.out.kept L5.out)
      have HT5 : Hid (Tabs w5) := (show Tabs _ from HT.out.kept (L5.out.mono HT2.out))
      have HT6 : Hid (2 ≤ w5.heap.size) := (show 2 ≤ _ from HT5.out.size)
      refine wp_region_inv Tryd.mixed (KS (fun i_ => match i_ with | 0 | 2 | 6 | 9 | 15 | 17 | 22 | 25 | 31 | 33 => .val (.agg (RC p).toArray) | 1 | 3 => .val (.bool g1) | 4 | 5 | 12 | 13 | 14 | 19 | 20 | 21 | 28 | 29 | 30 | 34 | 35 | 36 | 37 | 38 | 39 => .val (.bool true) | 7 | 10 => .rd (y1) | 8 | 11 => .val (.string ⟨y1.toArray⟩) | 16 | 18 => .val (.agg (By (tg 0 [y1])).toArray) | 23 | 26 => .val (.agg (RC q).toArray) | 24 | 27 => .val (.bool s1) | 32 => .of (fun W x => ∃ r9, x = .agg (RC r9).toArray ∧ ROk W r9 ∧ sameB r9 p = true) (fun _ _ _ hg ⟨r9, e, h1, h2⟩ => ⟨r9, e, h1.kept hg, h2⟩) | _ => .free)) 53 rfl (by decide +kernel) (KS_mono _) ?_ ?_
      · refine AllFrom.cons (fun a' w' hg hk hd => ?_) (AllFrom.cons (fun a' w' hg hk hd => ?_) (AllFrom.cons (fun a' w' hg hk hd => ?_) (AllFrom.cons (fun a' w' hg hk hd => ?_) (AllFrom.cons (fun a' w' hg hk hd => ?_) (AllFrom.cons (fun a' w' hg hk hd => ?_) (AllFrom.cons (fun a' w' hg hk hd => ?_) (AllFrom.cons (fun a' w' hg hk hd => ?_) (AllFrom.cons (fun a' w' hg hk hd => ?_) (AllFrom.cons (fun a' w' hg hk hd => ?_) (AllFrom.cons (fun a' w' hg hk hd => ?_) (AllFrom.cons (fun a' w' hg hk hd => ?_) (AllFrom.cons (fun a' w' hg hk hd => ?_) (AllFrom.cons (fun a' w' hg hk hd => ?_) (AllFrom.cons (fun a' w' hg hk hd => ?_) (AllFrom.cons (fun a' w' hg hk hd => ?_) (AllFrom.cons (fun a' w' hg hk hd => ?_) (AllFrom.cons (fun a' w' hg hk hd => ?_) (AllFrom.cons (fun a' w' hg hk hd => ?_) (AllFrom.cons (fun a' w' hg hk hd => ?_) (AllFrom.cons (fun a' w' hg hk hd => ?_) (AllFrom.cons (fun a' w' hg hk hd => ?_) (AllFrom.cons (fun a' w' hg hk hd => ?_) (AllFrom.cons (fun a' w' hg hk hd => ?_) (AllFrom.cons (fun a' w' hg hk hd => ?_) (AllFrom.cons (fun a' w' hg hk hd => ?_) (AllFrom.cons (fun a' w' hg hk hd => ?_) (AllFrom.cons (fun a' w' hg hk hd => ?_) (AllFrom.cons (fun a' w' hg hk hd => ?_) (AllFrom.cons (fun a' w' hg hk hd => ?_) (AllFrom.cons (fun a' w' hg hk hd => ?_) (AllFrom.cons (fun a' w' hg hk hd => ?_) (AllFrom.cons (fun a' w' hg hk hd => ?_) (AllFrom.cons (fun a' w' hg hk hd => ?_) (AllFrom.cons (fun a' w' hg hk hd => ?_) (AllFrom.cons (fun a' w' hg hk hd => ?_) (AllFrom.cons (fun a' w' hg hk hd => ?_) (AllFrom.cons (fun a' w' hg hk hd => ?_) (AllFrom.cons (fun a' w' hg hk hd => ?_) (AllFrom.cons (fun a' w' hg hk hd => ?_) AllFrom.nil)))))))))))))))))))))))))))))))))))))))
        · skip
          intro Q
          have e2 : a'.eval (.tmp 2) = .pointer (some ⟨N, 0, none⟩) := hk.at 2 (by decide +kernel)
          exact wp_load_row 25 _ rfl _ _ e2 (RC p) _ ((B5.out.kept hg).range0) Tryd.underlying25 rfl (Tryd.size25) (KS_mkv rfl rfl)
        · skip
          intro Q
          have e14 : a'.eval (.tmp 14) = .agg (RC p).toArray := KS_val (hd.val 0 14 (by decide +kernel)) rfl
          refine wp_call 7 _ (run_enter 7 _ _ rfl (by kernel_rfl)) ?_
          simp only [List.map_toArray, List.map_nil, List.map_cons, e14]
          refine (jgood_any (PO5.out.kept hg)).mono ?_
          rintro e w6 ⟨rfl, hb6⟩
          rw [HG1.out]
          exact ⟨_, rfl, KS_mkv rfl rfl, hb6⟩
        · skip
          intro Q
          have e2 : a'.eval (.tmp 2) = .pointer (some ⟨N, 0, none⟩) := hk.at 2 (by decide +kernel)
          exact wp_load_row 25 _ rfl _ _ e2 (RC p) _ ((B5.out.kept hg).range0) Tryd.underlying25 rfl (Tryd.size25) (KS_mkv rfl rfl)
        · skip
          intro Q
          have e16 : a'.eval (.tmp 16) = .agg (RC p).toArray := KS_val (hd.val 2 16 (by decide +kernel)) rfl
          refine wp_call 8 _ (run_enter 8 _ _ rfl (by kernel_rfl)) ?_
          simp only [List.map_toArray, List.map_nil, List.map_cons, e16]
          refine (kgood_any (PO5.out.kept hg)).mono ?_
          rintro e w6 ⟨rfl, hb6⟩
          rw [HG1.out]
          exact ⟨_, rfl, KS_mkv rfl rfl, hb6⟩
        · skip
          intro Q
          have e15 : a'.eval (.tmp 15) = .bool g1 := KS_val (hd.val 1 15 (by decide +kernel)) rfl
          have e17 : a'.eval (.tmp 17) = .bool g1 := KS_val (hd.val 3 17 (by decide +kernel)) rfl
          clear hd hk
          exact wp_value (.bool true) (by simp only [execOp, e15, e17, Sem.run_bind, eqg_bB, beq_runB, Result.andThen_ok, beq_self_eq_true]; rfl) (KS_mkv rfl rfl)
        · skip
          intro Q
          have e18 : a'.eval (.tmp 18) = .bool true := KS_val (hd.val 4 18 (by decide +kernel)) rfl
          exact wp_value _ (by simp only [execOp, e18]; rfl) (KS_mkv rfl rfl)
        · skip
          have eg : a'.eval (.tmp 19) = .bool true := KS_val (hd.val 5 19 (by decide +kernel)) rfl
          refine ⟨19, true, rfl, eg, fun _ Q => ?_, fun h => absurd rfl h⟩
          have e2 : a'.eval (.tmp 2) = .pointer (some ⟨N, 0, none⟩) := hk.at 2 (by decide +kernel)
          exact wp_load_row 25 _ rfl _ _ e2 (RC p) _ ((B5.out.kept hg).range0) Tryd.underlying25 rfl (Tryd.size25) (KS_mkv rfl rfl)
        · skip
          have eg : a'.eval (.tmp 19) = .bool true := KS_val (hd.val 5 19 (by decide +kernel)) rfl
          refine ⟨19, true, rfl, eg, fun _ Q => ?_, fun h => absurd rfl h⟩
          have e20 : a'.eval (.tmp 20) = .agg (RC p).toArray := KS_val (hd.val 6 20 (by decide +kernel)) rfl
          refine wp_call 9 _ (run_enter 9 _ _ rfl (by kernel_rfl)) ?_
          simp only [List.map_toArray, List.map_nil, List.map_cons, e20]
          refine (jbytes_any (PO5.out.kept hg)).mono ?_
          rintro e w6 ⟨v6, rfl, o6, hb6⟩
          rw [HL1.out] at o6
          exact ⟨v6, rfl, KS_mkr rfl o6.rd, hb6⟩
        · skip
          have eg : a'.eval (.tmp 19) = .bool true := KS_val (hd.val 5 19 (by decide +kernel)) rfl
          refine ⟨19, true, rfl, eg, fun _ Q => ?_, fun h => absurd rfl h⟩
          have r21 : Rd w' (a'.eval (.tmp 21)) (y1) := KS_rd (hd.val 7 21 (by decide +kernel)) rfl
          exact wp_value _ (by simp only [execOp, r21.conv (P := Tryd.prog) 28 9 Tryd.underlying28 Tryd.underlying5 Tryd.underlying9, Sem.run_bind, Result.andThen_ok]; rfl) (KS_mkv rfl rfl)
        · skip
          have eg : a'.eval (.tmp 19) = .bool true := KS_val (hd.val 5 19 (by decide +kernel)) rfl
          refine ⟨19, true, rfl, eg, fun _ Q => ?_, fun h => absurd rfl h⟩
          have e2 : a'.eval (.tmp 2) = .pointer (some ⟨N, 0, none⟩) := hk.at 2 (by decide +kernel)
          exact wp_load_row 25 _ rfl _ _ e2 (RC p) _ ((B5.out.kept hg).range0) Tryd.underlying25 rfl (Tryd.size25) (KS_mkv rfl rfl)
        · skip
          have eg : a'.eval (.tmp 19) = .bool true := KS_val (hd.val 5 19 (by decide +kernel)) rfl
          refine ⟨19, true, rfl, eg, fun _ Q => ?_, fun h => absurd rfl h⟩
          have e23 : a'.eval (.tmp 23) = .agg (RC p).toArray := KS_val (hd.val 9 23 (by decide +kernel)) rfl
          refine wp_call 10 _ (run_enter 10 _ _ rfl (by kernel_rfl)) ?_
          simp only [List.map_toArray, List.map_nil, List.map_cons, e23]
          refine (kbytes16_any (PO5.out.kept hg)).mono ?_
          rintro e w6 ⟨v6, rfl, o6, hb6⟩
          rw [HL1.out] at o6
          exact ⟨v6, rfl, KS_mkr rfl o6, hb6⟩
        · skip
          have eg : a'.eval (.tmp 19) = .bool true := KS_val (hd.val 5 19 (by decide +kernel)) rfl
          refine ⟨19, true, rfl, eg, fun _ Q => ?_, fun h => absurd rfl h⟩
          have r24 : Rd w' (a'.eval (.tmp 24)) (y1) := KS_rd (hd.val 10 24 (by decide +kernel)) rfl
          exact wp_value _ (by simp only [execOp, r24.conv (P := Tryd.prog) 28 9 Tryd.underlying28 Tryd.underlying5 Tryd.underlying9, Sem.run_bind, Result.andThen_ok]; rfl) (KS_mkv rfl rfl)
        · skip
          have eg : a'.eval (.tmp 19) = .bool true := KS_val (hd.val 5 19 (by decide +kernel)) rfl
          refine ⟨19, true, rfl, eg, fun _ Q => ?_, fun h => absurd rfl h⟩
          have e22 : a'.eval (.tmp 22) = .string ⟨y1.toArray⟩ := KS_val (hd.val 8 22 (by decide +kernel)) rfl
          have e25 : a'.eval (.tmp 25) = .string ⟨y1.toArray⟩ := KS_val (hd.val 11 25 (by decide +kernel)) rfl
          clear hd hk
          exact wp_value (.bool true) (by simp only [execOp, e22, e25, Sem.run_bind, eqg_sB, seq_runB, Result.andThen_ok, beq_self_eq_true]; rfl) (KS_mkv rfl rfl)
        · skip
          intro Q
          have e19 : a'.eval (.tmp 19) = .bool true := KS_val (hd.val 5 19 (by decide +kernel)) rfl
          have e26 : a'.eval (.tmp 26) = .bool true := KS_val (hd.val 12 26 (by decide +kernel)) rfl
          clear hd hk
          exact wp_value (.bool true) (by simp only [execOp, e19, e26]; go_simp) (KS_mkv rfl rfl)
        · skip
          intro Q
          have e27 : a'.eval (.tmp 27) = .bool true := KS_val (hd.val 13 27 (by decide +kernel)) rfl
          exact wp_value _ (by simp only [execOp, e27]; rfl) (KS_mkv rfl rfl)
        · skip
          have eg : a'.eval (.tmp 28) = .bool true := KS_val (hd.val 14 28 (by decide +kernel)) rfl
          refine ⟨28, true, rfl, eg, fun _ Q => ?_, fun h => absurd rfl h⟩
          have e2 : a'.eval (.tmp 2) = .pointer (some ⟨N, 0, none⟩) := hk.at 2 (by decide +kernel)
          exact wp_load_row 25 _ rfl _ _ e2 (RC p) _ ((B5.out.kept hg).range0) Tryd.underlying25 rfl (Tryd.size25) (KS_mkv rfl rfl)
        · skip
          have eg : a'.eval (.tmp 28) = .bool true := KS_val (hd.val 14 28 (by decide +kernel)) rfl
          refine ⟨28, true, rfl, eg, fun _ Q => ?_, fun h => absurd rfl h⟩
          have e29 : a'.eval (.tmp 29) = .agg (RC p).toArray := KS_val (hd.val 15 29 (by decide +kernel)) rfl
          refine wp_call 11 _ (run_enter 11 _ _ rfl (by kernel_rfl)) ?_
          simp only [List.map_toArray, List.map_nil, List.map_cons, e29]
          refine (jleaf_any (HT5.out.kept (hg.mono HT6.out)) (PO5.out.kept hg) (by have := HYL.out; rw [HL1.out]; omega)).mono ?_
          rintro e w6 ⟨rfl, hb6⟩
          rw [HL1.out]
          exact ⟨_, rfl, KS_mkv rfl rfl, hb6⟩
        · skip
          have eg : a'.eval (.tmp 28) = .bool true := KS_val (hd.val 14 28 (by decide +kernel)) rfl
          refine ⟨28, true, rfl, eg, fun _ Q => ?_, fun h => absurd rfl h⟩
          have e2 : a'.eval (.tmp 2) = .pointer (some ⟨N, 0, none⟩) := hk.at 2 (by decide +kernel)
          exact wp_load_row 25 _ rfl _ _ e2 (RC p) _ ((B5.out.kept hg).range0) Tryd.underlying25 rfl (Tryd.size25) (KS_mkv rfl rfl)
        · skip
          have eg : a'.eval (.tmp 28) = .bool true := KS_val (hd.val 14 28 (by decide +kernel)) rfl
          refine ⟨28, true, rfl, eg, fun _ Q => ?_, fun h => absurd rfl h⟩
          have e31 : a'.eval (.tmp 31) = .agg (RC p).toArray := KS_val (hd.val 17 31 (by decide +kernel)) rfl
          refine wp_call 12 _ (run_enter 12 _ _ rfl (by kernel_rfl)) ?_
          simp only [List.map_toArray, List.map_nil, List.map_cons, e31]
          refine (kleaf16_any (PO5.out.kept hg) (by have := HYL.out; rw [HL1.out]; omega)).mono ?_
          rintro e w6 ⟨rfl, hb6⟩
          rw [HL1.out]
          exact ⟨_, rfl, KS_mkv rfl rfl, hb6⟩
        · skip
          have eg : a'.eval (.tmp 28) = .bool true := KS_val (hd.val 14 28 (by decide +kernel)) rfl
          refine ⟨28, true, rfl, eg, fun _ Q => ?_, fun h => absurd rfl h⟩
          have e30 : a'.eval (.tmp 30) = .agg (By (tg 0 [y1])).toArray := KS_val (hd.val 16 30 (by decide +kernel)) rfl
          have e32 : a'.eval (.tmp 32) = .agg (By (tg 0 [y1])).toArray := KS_val (hd.val 18 32 (by decide +kernel)) rfl
          clear hd hk
          exact wp_value (.bool true) (by simp only [execOp, e30, e32]; go_simp) (KS_mkv rfl rfl)
        · skip
          intro Q
          have e28 : a'.eval (.tmp 28) = .bool true := KS_val (hd.val 14 28 (by decide +kernel)) rfl
          have e33 : a'.eval (.tmp 33) = .bool true := KS_val (hd.val 19 33 (by decide +kernel)) rfl
          clear hd hk
          exact wp_value (.bool true) (by simp only [execOp, e28, e33]; go_simp) (KS_mkv rfl rfl)
        · skip
          intro Q
          have e34 : a'.eval (.tmp 34) = .bool true := KS_val (hd.val 20 34 (by decide +kernel)) rfl
          exact wp_value _ (by simp only [execOp, e34]; rfl) (KS_mkv rfl rfl)
        · skip
          have eg : a'.eval (.tmp 35) = .bool true := KS_val (hd.val 21 35 (by decide +kernel)) rfl
          refine ⟨35, true, rfl, eg, fun _ Q => ?_, fun h => absurd rfl h⟩
          have e2 : a'.eval (.tmp 2) = .pointer (some ⟨N, 0, none⟩) := hk.at 2 (by decide +kernel)
          exact wp_load_row 25 _ rfl _ _ e2 (RC p) _ ((B5.out.kept hg).range0) Tryd.underlying25 rfl (Tryd.size25) (KS_mkv rfl rfl)
        · skip
          have eg : a'.eval (.tmp 35) = .bool true := KS_val (hd.val 21 35 (by decide +kernel)) rfl
          refine ⟨35, true, rfl, eg, fun _ Q => ?_, fun h => absurd rfl h⟩
          have e3 : a'.eval (.tmp 3) = .pointer (some ⟨N + 1, 0, none⟩) := hk.at 3 (by decide +kernel)
          exact wp_load_row 25 _ rfl _ _ e3 (RC q) _ ((B6.out.kept hg).range0) Tryd.underlying25 rfl (Tryd.size25) (KS_mkv rfl rfl)
        · skip
          have eg : a'.eval (.tmp 35) = .bool true := KS_val (hd.val 21 35 (by decide +kernel)) rfl
          refine ⟨35, true, rfl, eg, fun _ Q => ?_, fun h => absurd rfl h⟩
          have e36 : a'.eval (.tmp 36) = .agg (RC p).toArray := KS_val (hd.val 22 36 (by decide +kernel)) rfl
          have e37 : a'.eval (.tmp 37) = .agg (RC q).toArray := KS_val (hd.val 23 37 (by decide +kernel)) rfl
          refine wp_call 13 _ (run_enter 13 _ _ rfl (by kernel_rfl)) ?_
          simp only [List.map_toArray, List.map_nil, List.map_cons, e36, e37]
          refine (same16_any (PO5.out.kept hg) (QO5.out.kept hg)).mono ?_
          rintro e w6 ⟨rfl, hb6⟩
          rw [HS1.out]
          exact ⟨_, rfl, KS_mkv rfl rfl, hb6⟩
        · skip
          have eg : a'.eval (.tmp 35) = .bool true := KS_val (hd.val 21 35 (by decide +kernel)) rfl
          refine ⟨35, true, rfl, eg, fun _ Q => ?_, fun h => absurd rfl h⟩
          have e2 : a'.eval (.tmp 2) = .pointer (some ⟨N, 0, none⟩) := hk.at 2 (by decide +kernel)
          exact wp_load_row 25 _ rfl _ _ e2 (RC p) _ ((B5.out.kept hg).range0) Tryd.underlying25 rfl (Tryd.size25) (KS_mkv rfl rfl)
        · skip
          have eg : a'.eval (.tmp 35) = .bool true := KS_val (hd.val 21 35 (by decide +kernel)) rfl
          refine ⟨35, true, rfl, eg, fun _ Q => ?_, fun h => absurd rfl h⟩
          have e3 : a'.eval (.tmp 3) = .pointer (some ⟨N + 1, 0, none⟩) := hk.at 3 (by decide +kernel)
          exact wp_load_row 25 _ rfl _ _ e3 (RC q) _ ((B6.out.kept hg).range0) Tryd.underlying25 rfl (Tryd.size25) (KS_mkv rfl rfl)
        · skip
          have eg : a'.eval (.tmp 35) = .bool true := KS_val (hd.val 21 35 (by decide +kernel)) rfl
          refine ⟨35, true, rfl, eg, fun _ Q => ?_, fun h => absurd rfl h⟩
          have e39 : a'.eval (.tmp 39) = .agg (RC p).toArray := KS_val (hd.val 25 39 (by decide +kernel)) rfl
          have e40 : a'.eval (.tmp 40) = .agg (RC q).toArray := KS_val (hd.val 26 40 (by decide +kernel)) rfl
          refine wp_call 14 _ (run_enter 14 _ _ rfl (by kernel_rfl)) ?_
          simp only [List.map_toArray, List.map_nil, List.map_cons, e39, e40]
          refine (same14_any (PO5.out.kept hg) (QO5.out.kept hg)).mono ?_
          rintro e w6 ⟨rfl, hb6⟩
          rw [HS1.out]
          exact ⟨_, rfl, KS_mkv rfl rfl, hb6⟩
        · skip
          have eg : a'.eval (.tmp 35) = .bool true := KS_val (hd.val 21 35 (by decide +kernel)) rfl
          refine ⟨35, true, rfl, eg, fun _ Q => ?_, fun h => absurd rfl h⟩
          have e38 : a'.eval (.tmp 38) = .bool s1 := KS_val (hd.val 24 38 (by decide +kernel)) rfl
          have e41 : a'.eval (.tmp 41) = .bool s1 := KS_val (hd.val 27 41 (by decide +kernel)) rfl
          clear hd hk
          exact wp_value (.bool true) (by simp only [execOp, e38, e41, Sem.run_bind, eqg_bB, beq_runB, Result.andThen_ok, beq_self_eq_true]; rfl) (KS_mkv rfl rfl)
        · skip
          intro Q
          have e35 : a'.eval (.tmp 35) = .bool true := KS_val (hd.val 21 35 (by decide +kernel)) rfl
          have e42 : a'.eval (.tmp 42) = .bool true := KS_val (hd.val 28 42 (by decide +kernel)) rfl
          clear hd hk
          exact wp_value (.bool true) (by simp only [execOp, e35, e42]; go_simp) (KS_mkv rfl rfl)
        · skip
          intro Q
          have e43 : a'.eval (.tmp 43) = .bool true := KS_val (hd.val 29 43 (by decide +kernel)) rfl
          exact wp_value _ (by simp only [execOp, e43]; rfl) (KS_mkv rfl rfl)
        · skip
          have eg : a'.eval (.tmp 44) = .bool true := KS_val (hd.val 30 44 (by decide +kernel)) rfl
          refine ⟨44, true, rfl, eg, fun _ Q => ?_, fun h => absurd rfl h⟩
          have e2 : a'.eval (.tmp 2) = .pointer (some ⟨N, 0, none⟩) := hk.at 2 (by decide +kernel)
          exact wp_load_row 25 _ rfl _ _ e2 (RC p) _ ((B5.out.kept hg).range0) Tryd.underlying25 rfl (Tryd.size25) (KS_mkv rfl rfl)
        · skip
          have eg : a'.eval (.tmp 44) = .bool true := KS_val (hd.val 30 44 (by decide +kernel)) rfl
          refine ⟨44, true, rfl, eg, fun _ Q => ?_, fun h => absurd rfl h⟩
          have e45 : a'.eval (.tmp 45) = .agg (RC p).toArray := KS_val (hd.val 31 45 (by decide +kernel)) rfl
          refine wp_call 15 _ (run_enter 15 _ _ rfl (by kernel_rfl)) ?_
          simp only [List.map_toArray, List.map_nil, List.map_cons, e45]
          refine (jcopy_any (PO5.out.kept hg) LT.out).mono ?_
          rintro e w6 ⟨r9, rfl, o9, s9, hb6⟩
          exact ⟨_, rfl, KS_mko rfl ⟨r9, rfl, o9.rd, s9⟩, hb6⟩
        · skip
          have eg : a'.eval (.tmp 44) = .bool true := KS_val (hd.val 30 44 (by decide +kernel)) rfl
          refine ⟨44, true, rfl, eg, fun _ Q => ?_, fun h => absurd rfl h⟩
          have e2 : a'.eval (.tmp 2) = .pointer (some ⟨N, 0, none⟩) := hk.at 2 (by decide +kernel)
          exact wp_load_row 25 _ rfl _ _ e2 (RC p) _ ((B5.out.kept hg).range0) Tryd.underlying25 rfl (Tryd.size25) (KS_mkv rfl rfl)
        · skip
          have eg : a'.eval (.tmp 44) = .bool true := KS_val (hd.val 30 44 (by decide +kernel)) rfl
          refine ⟨44, true, rfl, eg, fun _ Q => ?_, fun h => absurd rfl h⟩
          have r46 := KS_of (hd.val 32 46 (by decide +kernel)) rfl
          have e47 : a'.eval (.tmp 47) = .agg (RC p).toArray := KS_val (hd.val 33 47 (by decide +kernel)) rfl
          refine wp_call 14 _ (run_enter 14 _ _ rfl (by kernel_rfl)) ?_
          simp only [List.map_toArray, List.map_nil, List.map_cons, e47]
          obtain ⟨r9, e9, o9, s9⟩ := r46
          rw [e9]
          refine (same14_any o9 (PO5.out.kept hg)).mono ?_
          rintro e w6 ⟨rfl, hb6⟩
          rw [s9]
          exact ⟨_, rfl, KS_mkv rfl rfl, hb6⟩
        · skip
          intro Q
          have e44 : a'.eval (.tmp 44) = .bool true := KS_val (hd.val 30 44 (by decide +kernel)) rfl
          have e48 : a'.eval (.tmp 48) = .bool true := KS_val (hd.val 34 48 (by decide +kernel)) rfl
          clear hd hk
          exact wp_value (.bool true) (by simp only [execOp, e44, e48]; go_simp) (KS_mkv rfl rfl)
        · skip
          intro Q
          have e49 : a'.eval (.tmp 49) = .bool true := KS_val (hd.val 35 49 (by decide +kernel)) rfl
          exact wp_value _ (by simp only [execOp, e49]; rfl) (KS_mkv rfl rfl)
        · skip
          have eg : a'.eval (.tmp 50) = .bool true := KS_val (hd.val 36 50 (by decide +kernel)) rfl
          refine ⟨50, true, rfl, eg, fun _ Q => ?_, fun h => absurd rfl h⟩
          refine wp_call 6 _ (run_enter 6 _ _ rfl (by kernel_rfl)) ?_
          simp only [List.map_toArray, List.map_nil]
          refine (lives_any _).mono ?_
          rintro e w6 ⟨rfl, hb6⟩
          exact ⟨_, rfl, KS_mkv rfl rfl, hb6⟩
        · skip
          intro Q
          have e50 : a'.eval (.tmp 50) = .bool true := KS_val (hd.val 36 50 (by decide +kernel)) rfl
          have e51 : a'.eval (.tmp 51) = .bool true := KS_val (hd.val 37 51 (by decide +kernel)) rfl
          clear hd hk
          exact wp_value (.bool true) (by simp only [execOp, e50, e51]; go_simp) (KS_mkv rfl rfl)
        · skip
          intro Q
          have e52 : a'.eval (.tmp 52) = .bool true := KS_val (hd.val 38 52 (by decide +kernel)) rfl
          exact wp_value _ (by simp only [execOp, e52]; rfl) (KS_mkv rfl rfl)
      · intro a' w7 hsz hdf hk hall hg
        have L7 : Hid (Below w.heap.size w w7) := (show Below _ _ _ from l1.out.trans ((L5.out.trans (hg.mono L5.out.size)).mono l1.out.size))
        have e14 : a'.eval (.tmp 14) = .agg (RC p).toArray := KS_val (hall 0 _ 14 rfl rfl) rfl
        have e15 : a'.eval (.tmp 15) = .bool g1 := KS_val (hall 1 _ 15 rfl rfl) rfl
        have e16 : a'.eval (.tmp 16) = .agg (RC p).toArray := KS_val (hall 2 _ 16 rfl rfl) rfl
        have e17 : a'.eval (.tmp 17) = .bool g1 := KS_val (hall 3 _ 17 rfl rfl) rfl
        have e18 : a'.eval (.tmp 18) = .bool true := KS_val (hall 4 _ 18 rfl rfl) rfl
        have e19 : a'.eval (.tmp 19) = .bool true := KS_val (hall 5 _ 19 rfl rfl) rfl
        have e20 : a'.eval (.tmp 20) = .agg (RC p).toArray := KS_val (hall 6 _ 20 rfl rfl) rfl
        have r21 : Rd w7 (a'.eval (.tmp 21)) (y1) := KS_rd (hall 7 _ 21 rfl rfl) rfl
        obtain ⟨x21, hx21⟩ : ∃ v, a'.eval (.tmp 21) = v := ⟨_, rfl⟩
        rw [hx21] at r21
        have e22 : a'.eval (.tmp 22) = .string ⟨y1.toArray⟩ := KS_val (hall 8 _ 22 rfl rfl) rfl
        have e23 : a'.eval (.tmp 23) = .agg (RC p).toArray := KS_val (hall 9 _ 23 rfl rfl) rfl
        have r24 : Rd w7 (a'.eval (.tmp 24)) (y1) := KS_rd (hall 10 _ 24 rfl rfl) rfl
        obtain ⟨x24, hx24⟩ : ∃ v, a'.eval (.tmp 24) = v := ⟨_, rfl⟩
        rw [hx24] at r24
        have e25 : a'.eval (.tmp 25) = .string ⟨y1.toArray⟩ := KS_val (hall 11 _ 25 rfl rfl) rfl
        have e26 : a'.eval (.tmp 26) = .bool true := KS_val (hall 12 _ 26 rfl rfl) rfl
        have e27 : a'.eval (.tmp 27) = .bool true := KS_val (hall 13 _ 27 rfl rfl) rfl
        have e28 : a'.eval (.tmp 28) = .bool true := KS_val (hall 14 _ 28 rfl rfl) rfl
        have e29 : a'.eval (.tmp 29) = .agg (RC p).toArray := KS_val (hall 15 _ 29 rfl rfl) rfl
        have e30 : a'.eval (.tmp 30) = .agg (By (tg 0 [y1])).toArray := KS_val (hall 16 _ 30 rfl rfl) rfl
        have e31 : a'.eval (.tmp 31) = .agg (RC p).toArray := KS_val (hall 17 _ 31 rfl rfl) rfl
        have e32 : a'.eval (.tmp 32) = .agg (By (tg 0 [y1])).toArray := KS_val (hall 18 _ 32 rfl rfl) rfl
        have e33 : a'.eval (.tmp 33) = .bool true := KS_val (hall 19 _ 33 rfl rfl) rfl
        have e34 : a'.eval (.tmp 34) = .bool true := KS_val (hall 20 _ 34 rfl rfl) rfl
        have e35 : a'.eval (.tmp 35) = .bool true := KS_val (hall 21 _ 35 rfl rfl) rfl
        have e36 : a'.eval (.tmp 36) = .agg (RC p).toArray := KS_val (hall 22 _ 36 rfl rfl) rfl
        have e37 : a'.eval (.tmp 37) = .agg (RC q).toArray := KS_val (hall 23 _ 37 rfl rfl) rfl
        have e38 : a'.eval (.tmp 38) = .bool s1 := KS_val (hall 24 _ 38 rfl rfl) rfl
        have e39 : a'.eval (.tmp 39) = .agg (RC p).toArray := KS_val (hall 25 _ 39 rfl rfl) rfl
        have e40 : a'.eval (.tmp 40) = .agg (RC q).toArray := KS_val (hall 26 _ 40 rfl rfl) rfl
        have e41 : a'.eval (.tmp 41) = .bool s1 := KS_val (hall 27 _ 41 rfl rfl) rfl
        have e42 : a'.eval (.tmp 42) = .bool true := KS_val (hall 28 _ 42 rfl rfl) rfl
        have e43 : a'.eval (.tmp 43) = .bool true := KS_val (hall 29 _ 43 rfl rfl) rfl
        have e44 : a'.eval (.tmp 44) = .bool true := KS_val (hall 30 _ 44 rfl rfl) rfl
        have e45 : a'.eval (.tmp 45) = .agg (RC p).toArray := KS_val (hall 31 _ 45 rfl rfl) rfl
        have r46 : (fun W x => ∃ r9, x = .agg (RC r9).toArray ∧ ROk W r9 ∧ sameB r9 p = true) w7 (a'.eval (.tmp 46)) := KS_of (hall 32 _ 46 rfl rfl) rfl
        obtain ⟨x46, hx46⟩ : ∃ v, a'.eval (.tmp 46) = v := ⟨_, rfl⟩
        rw [hx46] at r46
        have e47 : a'.eval (.tmp 47) = .agg (RC p).toArray := KS_val (hall 33 _ 47 rfl rfl) rfl
        have e48 : a'.eval (.tmp 48) = .bool true := KS_val (hall 34 _ 48 rfl rfl) rfl
        have e49 : a'.eval (.tmp 49) = .bool true := KS_val (hall 35 _ 49 rfl rfl) rfl
        have e50 : a'.eval (.tmp 50) = .bool true := KS_val (hall 36 _ 50 rfl rfl) rfl
        have e51 : a'.eval (.tmp 51) = .bool true := KS_val (hall 37 _ 51 rfl rfl) rfl
        have e52 : a'.eval (.tmp 52) = .bool true := KS_val (hall 38 _ 52 rfl rfl) rfl
        have e4 : a'.eval (.tmp 4) = .bool true := KS_val (hall 39 _ 4 rfl rfl) rfl
        have ha := act_puts 53 rfl hsz hdf hk [14, 15, 16, 17, 18, 19, 20, 21, 22, 23, 24, 25, 26, 27, 28, 29, 30, 31, 32, 33, 34, 35, 36, 37, 38, 39, 40, 41, 42, 43, 44, 45, 46, 47, 48, 49, 50, 51, 52, 4] (by decide +kernel)
        simp only [puts, List.foldl_cons, List.foldl_nil, e14, e15, e16, e17, e18, e19, e20, hx21, e22, e23, hx24, e25, e26, e27, e28, e29, e30, e31, e32, e33, e34, e35, e36, e37, e38, e39, e40, e41, e42, e43, e44, e45, hx46, e47, e48, e49, e50, e51, e52, e4] at ha
        simp only [Act.put, List.setIfInBounds_toArray, List.set_cons_succ, List.set_cons_zero] at ha
        clear hall hk hsz hdf e14 e15 e16 e17 e18 e19 e20 hx21 e22 e23 hx24 e25 e26 e27 e28 e29 e30 e31 e32 e33 e34 e35 e36 e37 e38 e39 e40 e41 e42 e43 e44 e45 hx46 e47 e48 e49 e50 e51 e52 e4
        subst ha
        go_wp2_with fail
        go_ret
        exact ⟨rfl, L7.out⟩
#print axioms recordBytes_any
end Go.Proofs.YtmicmbjbclkbjaaDoor
