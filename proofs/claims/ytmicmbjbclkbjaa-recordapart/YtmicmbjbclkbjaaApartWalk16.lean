/-
  The law RecordApart: what the call does.
-/
import Derived.Test.YtmicmbjbclkbjaaRcL
namespace Go.Proofs.Ytmicmbjbclkbjaa
open Go.RowKit
theorem beq_run (a b : Bool) : ∀ W, (binOp .eql 4 (.bool a) (.bool b)).run Try.prog W = .ok (.bool (a == b)) W := fun W => by
  cases a <;> cases b <;> kernel_rfl
theorem eqg_b4 (x y : Operand) (a b : Bool) : ∀ W, (eqGuard .eql 4 x y (.bool a) (.bool b)).run Try.prog W = .ok () W := fun W => by
  simp [eqGuard, go_sem]
theorem eqg_s9 (x y : Operand) (a b : ByteArray) : ∀ W, (eqGuard .eql 9 x y (.string a) (.string b)).run Try.prog W = .ok () W := fun W => by
  simp [eqGuard, go_sem]
theorem seq_run (a b : List UInt8) : ∀ W, (binOp .eql 9 (.string ⟨a.toArray⟩) (.string ⟨b.toArray⟩)).run Try.prog W = .ok (.bool (a == b)) W := fun W => by
  have e : ((⟨a.toArray⟩ : ByteArray).toList == (⟨b.toArray⟩ : ByteArray).toList) = (a == b) := by rw [ByteArray.toList_eq, ByteArray.toList_eq]
  rw [← e]
  simp [binOp, Op.stringOp, go_sem]
/-- Two that may be have the same bytes just if they are alike. -/
theorem apart_good {p q : Rc} (hp : goodR p = true) (hq : goodR q = true) : (bytesP p == bytesP q) = sameB p q := by
  unfold goodR at hp hq
  rw [Bool.and_eq_true] at hp hq
  obtain ⟨a1, a2, a3⟩ := sound_ok hp.1
  obtain ⟨b1, b2, b3⟩ := sound_ok hq.1
  unfold bytesP
  rw [if_pos hp.1, if_pos hq.1, Bool.eq_iff_iff, beq_iff_eq]
  unfold sameB
  simp only [Bool.and_eq_true, decide_eq_true_eq, eqX_iff]
  constructor
  · intro h
    have h1 := eD_inj a1 b1 h
    unfold pdR at h1
    rw [Pd.mk.injEq] at h1
    obtain ⟨e1, e2, e3, e4, e5⟩ := h1
    exact ⟨by omega, by omega, e3, e4, e5⟩
  · rintro ⟨e1, e2, e3, e4, e5⟩
    unfold pdR
    rw [e1, e2, e3, e4, e5]
set_option maxHeartbeats 2000000 in
set_option maxRecDepth 100000 in
theorem recordApart_any {w : World} {p q : Rc} (hp : ROk w p) (hbp : RB 140737488351232 p) (hq : ROk w q) (hbq : RB 140737488351232 q) : Calls Try.prog 4 #[.agg (RC p).toArray, .agg (RC q).toArray] w fun e w' => e = .returned (.bool true) ∧ Below w.heap.size w w' := by
  obtain ⟨N, HN⟩ : ∃ N, Hid (w.heap.size = N) := ⟨_, rfl⟩
  obtain ⟨w1, hw1⟩ : ∃ z, z = (w.alloc (.cells (RC p).toArray 27 (0, 0))).alloc (.cells (RC q).toArray 27 (0, 0)) := ⟨_, rfl⟩
  obtain ⟨b1, b2, l1⟩ := newB2 HN hw1
  have HW := hide hw1
  have PO := hide (hp.kept l1.out)
  have QO := hide (hq.kept l1.out)
  have HBP := hide hbp
  have HBQ := hide hbq
  have CL := hide (mlight_any PO.out hbp)
  clear hp hq hw1 hbp hbq
  have rp := b1.out.range0
  go_enter Try.func4, Try.ntmps4
  go_upto_region 1 with fail
  change Code.wp _ _ _ _ ((w.alloc (.cells (RC p).toArray 27 (0, 0))).alloc (.cells (RC q).toArray 27 (0, 0)))
  rw [← HW.out, HN.out]
  go_wp2_with (first
    | (refine wpList_load_mid rfl 27 _ rfl N 0 rfl (RC p) _ rp Try.underlying27 rfl Try.size27 ?_)
    | (refine wpList_load_w9 rfl 27 _ rfl N 0 rfl (RC p) _ rp Try.underlying27 rfl Try.size27 ?_)
    | (refine wpList_load_mid rfl 27 _ rfl (N + 1) 0 rfl (RC q) _ rq Try.underlying27 rfl Try.size27 ?_)
    | (refine wpList_load_w9 rfl 27 _ rfl (N + 1) 0 rfl (RC q) _ rq Try.underlying27 rfl Try.size27 ?_)
    | fail)
  refine CL.out.mono ?_
  rintro e w2 ⟨b, rfl, -, hb2⟩
  have L2 : Hid (Below w1.heap.size w1 w2) := (show Below _ _ _ from hb2)
  clear hb2 CL rp
  cases b with
  | false =>
    have CV := hide (lives_any w2)
    go_wp2_with (first
      | (refine wpList_load_mid rfl 27 _ rfl N 0 rfl (RC p) _ rp Try.underlying27 rfl Try.size27 ?_)
      | (refine wpList_load_w9 rfl 27 _ rfl N 0 rfl (RC p) _ rp Try.underlying27 rfl Try.size27 ?_)
      | (refine wpList_load_mid rfl 27 _ rfl (N + 1) 0 rfl (RC q) _ rq Try.underlying27 rfl Try.size27 ?_)
      | (refine wpList_load_w9 rfl 27 _ rfl (N + 1) 0 rfl (RC q) _ rq Try.underlying27 rfl Try.size27 ?_)
      | fail)
    refine CV.out.mono ?_
    rintro e w9 ⟨rfl, hb9⟩
    have L9 : Hid (Below w.heap.size w w9) := (show Below _ _ _ from l1.out.trans ((L2.out.trans (hb9.mono L2.out.size)).mono l1.out.size))
    clear hb9 CV
    go_wp2_with fail
    go_ret
    exact ⟨rfl, L9.out⟩
  | true =>
    have CL := hide (mlight_any (QO.out.kept L2.out) HBQ.out)
    have rq := (b2.out.kept L2.out).range0
    go_wp2_with (first
      | (refine wpList_load_mid rfl 27 _ rfl N 0 rfl (RC p) _ rp Try.underlying27 rfl Try.size27 ?_)
      | (refine wpList_load_w9 rfl 27 _ rfl N 0 rfl (RC p) _ rp Try.underlying27 rfl Try.size27 ?_)
      | (refine wpList_load_mid rfl 27 _ rfl (N + 1) 0 rfl (RC q) _ rq Try.underlying27 rfl Try.size27 ?_)
      | (refine wpList_load_w9 rfl 27 _ rfl (N + 1) 0 rfl (RC q) _ rq Try.underlying27 rfl Try.size27 ?_)
      | fail)
    refine CL.out.mono ?_
    rintro e w3 ⟨b, rfl, -, hb3⟩
    have L3 : Hid (Below w1.heap.size w1 w3) := (show Below _ _ _ from L2.out.trans (hb3.mono L2.out.size))
    clear hb3 CL rq
    cases b with
    | false =>
      have CV := hide (lives_any w3)
      go_wp2_with (first
        | (refine wpList_load_mid rfl 27 _ rfl N 0 rfl (RC p) _ rp Try.underlying27 rfl Try.size27 ?_)
        | (refine wpList_load_w9 rfl 27 _ rfl N 0 rfl (RC p) _ rp Try.underlying27 rfl Try.size27 ?_)
        | (refine wpList_load_mid rfl 27 _ rfl (N + 1) 0 rfl (RC q) _ rq Try.underlying27 rfl Try.size27 ?_)
        | (refine wpList_load_w9 rfl 27 _ rfl (N + 1) 0 rfl (RC q) _ rq Try.underlying27 rfl Try.size27 ?_)
        | fail)
      refine CV.out.mono ?_
      rintro e w9 ⟨rfl, hb9⟩
      have L9 : Hid (Below w.heap.size w w9) := (show Below _ _ _ from l1.out.trans ((L3.out.trans (hb9.mono L3.out.size)).mono l1.out.size))
      clear hb9 CV
      go_wp2_with fail
      go_ret
      exact ⟨rfl, L9.out⟩
    | true =>
      have CL := hide (jgood_any (PO.out.kept L3.out))
      have rp := (b1.out.kept L3.out).range0
      obtain ⟨g1, HG1⟩ : ∃ z, Hid (goodR p = z) := ⟨_, rfl⟩
      rw [HG1.out] at CL
      go_wp2_with (first
        | (refine wpList_load_mid rfl 27 _ rfl N 0 rfl (RC p) _ rp Try.underlying27 rfl Try.size27 ?_)
        | (refine wpList_load_w9 rfl 27 _ rfl N 0 rfl (RC p) _ rp Try.underlying27 rfl Try.size27 ?_)
        | (refine wpList_load_mid rfl 27 _ rfl (N + 1) 0 rfl (RC q) _ rq Try.underlying27 rfl Try.size27 ?_)
        | (refine wpList_load_w9 rfl 27 _ rfl (N + 1) 0 rfl (RC q) _ rq Try.underlying27 rfl Try.size27 ?_)
        | fail)
      refine CL.out.mono ?_
      rintro e w4 ⟨rfl, hb4⟩
      have L4 : Hid (Below w1.heap.size w1 w4) := (show Below _ _ _ from L3.out.trans (hb4.mono L3.out.size))
      clear hb4 CL rp
      cases g1 with
      | false =>
        have CV := hide (lives_any w4)
        go_wp2_with (first
          | (refine wpList_load_mid rfl 27 _ rfl N 0 rfl (RC p) _ rp Try.underlying27 rfl Try.size27 ?_)
          | (refine wpList_load_w9 rfl 27 _ rfl N 0 rfl (RC p) _ rp Try.underlying27 rfl Try.size27 ?_)
          | (refine wpList_load_mid rfl 27 _ rfl (N + 1) 0 rfl (RC q) _ rq Try.underlying27 rfl Try.size27 ?_)
          | (refine wpList_load_w9 rfl 27 _ rfl (N + 1) 0 rfl (RC q) _ rq Try.underlying27 rfl Try.size27 ?_)
          | fail)
        refine CV.out.mono ?_
        rintro e w9 ⟨rfl, hb9⟩
        have L9 : Hid (Below w.heap.size w w9) := (show Below _ _ _ from l1.out.trans ((L4.out.trans (hb9.mono L4.out.size)).mono l1.out.size))
        clear hb9 CV
        go_wp2_with fail
        go_ret
        exact ⟨rfl, L9.out⟩
      | true =>
        have CL := hide (jgood_any (QO.out.kept L4.out))
        have rq := (b2.out.kept L4.out).range0
        obtain ⟨g2, HG2⟩ : ∃ z, Hid (goodR q = z) := ⟨_, rfl⟩
        rw [HG2.out] at CL
        go_wp2_with (first
          | (refine wpList_load_mid rfl 27 _ rfl N 0 rfl (RC p) _ rp Try.underlying27 rfl Try.size27 ?_)
          | (refine wpList_load_w9 rfl 27 _ rfl N 0 rfl (RC p) _ rp Try.underlying27 rfl Try.size27 ?_)
          | (refine wpList_load_mid rfl 27 _ rfl (N + 1) 0 rfl (RC q) _ rq Try.underlying27 rfl Try.size27 ?_)
          | (refine wpList_load_w9 rfl 27 _ rfl (N + 1) 0 rfl (RC q) _ rq Try.underlying27 rfl Try.size27 ?_)
          | fail)
        refine CL.out.mono ?_
        rintro e w5 ⟨rfl, hb5⟩
        have L5 : Hid (Below w1.heap.size w1 w5) := (show Below _ _ _ from L4.out.trans (hb5.mono L4.out.size))
        clear hb5 CL rq
        cases g2 with
        | false =>
          have CV := hide (lives_any w5)
          go_wp2_with (first
            | (refine wpList_load_mid rfl 27 _ rfl N 0 rfl (RC p) _ rp Try.underlying27 rfl Try.size27 ?_)
            | (refine wpList_load_w9 rfl 27 _ rfl N 0 rfl (RC p) _ rp Try.underlying27 rfl Try.size27 ?_)
            | (refine wpList_load_mid rfl 27 _ rfl (N + 1) 0 rfl (RC q) _ rq Try.underlying27 rfl Try.size27 ?_)
            | (refine wpList_load_w9 rfl 27 _ rfl (N + 1) 0 rfl (RC q) _ rq Try.underlying27 rfl Try.size27 ?_)
            | fail)
          refine CV.out.mono ?_
          rintro e w9 ⟨rfl, hb9⟩
          have L9 : Hid (Below w.heap.size w w9) := (show Below _ _ _ from l1.out.trans ((L5.out.trans (hb9.mono L5.out.size)).mono l1.out.size))
          clear hb9 CV
          go_wp2_with fail
          go_ret
          exact ⟨rfl, L9.out⟩
        | true =>
          go_upto_region 3 with fail
          try simp only [Act.put]
          have HE := hide (apart_good HG1.out HG2.out)
          obtain ⟨y1, HL1⟩ : ∃ z, Hid (bytesP p = z) := ⟨_, rfl⟩
          obtain ⟨y2, HL2⟩ : ∃ z, Hid (bytesP q = z) := ⟨_, rfl⟩
          rw [HL1.out, HL2.out] at HE
          have PO5 := hide (PO.out.kept L5.out)
          have QO5 := hide (QO.out.kept L5.out)
          have B5 := hide (b1.out.kept L5.out)
          have B6 := hide (b2.out.kept L5.out)
          refine wp_region_inv Try.mixed (KS (fun i_ => match i_ with | 0 | 7 => .val (.agg (RC p).toArray) | 1 => .rd (y1) | 2 => .val (.string ⟨y1.toArray⟩) | 3 | 8 => .val (.agg (RC q).toArray) | 4 => .rd (y2) | 5 => .val (.string ⟨y2.toArray⟩) | 6 => .val (.bool (y1 == y2)) | 9 => .val (.bool (sameB p q)) | 10 | 11 | 12 | 13 | 14 => .val (.bool true) | _ => .free)) 38 rfl (by decide +kernel) (KS_mono _) ?_ ?_
          · refine AllFrom.cons (fun a' w' hg hk hd => ?_) (AllFrom.cons (fun a' w' hg hk hd => ?_) (AllFrom.cons (fun a' w' hg hk hd => ?_) (AllFrom.cons (fun a' w' hg hk hd => ?_) (AllFrom.cons (fun a' w' hg hk hd => ?_) (AllFrom.cons (fun a' w' hg hk hd => ?_) (AllFrom.cons (fun a' w' hg hk hd => ?_) (AllFrom.cons (fun a' w' hg hk hd => ?_) (AllFrom.cons (fun a' w' hg hk hd => ?_) (AllFrom.cons (fun a' w' hg hk hd => ?_) (AllFrom.cons (fun a' w' hg hk hd => ?_) (AllFrom.cons (fun a' w' hg hk hd => ?_) (AllFrom.cons (fun a' w' hg hk hd => ?_) (AllFrom.cons (fun a' w' hg hk hd => ?_) (AllFrom.cons (fun a' w' hg hk hd => ?_) AllFrom.nil))))))))))))))
            · skip
              intro Q
              have e2 : a'.eval (.tmp 2) = .pointer (some ⟨N, 0, none⟩) := hk.at 2 (by decide +kernel)
              exact wp_load_row 27 _ rfl _ _ e2 (RC p) _ ((B5.out.kept hg).range0) Try.underlying27 rfl (Try.size27) (KS_mkv rfl rfl)
            · skip
              intro Q
              have e24 : a'.eval (.tmp 24) = .agg (RC p).toArray := KS_val (hd.val 0 24 (by decide +kernel)) rfl
              refine wp_call 13 _ (run_enter 13 _ _ rfl (by kernel_rfl)) ?_
              simp only [List.map_toArray, List.map_nil, List.map_cons, e24]
              refine (jbytes_any (PO5.out.kept hg)).mono ?_
              rintro e w6 ⟨v6, rfl, o6, hb6⟩
              rw [HL1.out] at o6
              exact ⟨v6, rfl, KS_mkr rfl o6.rd, hb6⟩
            · skip
              intro Q
              have r25 : Rd w' (a'.eval (.tmp 25)) (y1) := KS_rd (hd.val 1 25 (by decide +kernel)) rfl
              exact wp_value _ (by simp only [execOp, r25.conv (P := Try.prog) 22 9 Try.underlying22 Try.underlying5 Try.underlying9, Sem.run_bind, Result.andThen_ok]; rfl) (KS_mkv rfl rfl)
            · skip
              intro Q
              have e3 : a'.eval (.tmp 3) = .pointer (some ⟨N + 1, 0, none⟩) := hk.at 3 (by decide +kernel)
              exact wp_load_row 27 _ rfl _ _ e3 (RC q) _ ((B6.out.kept hg).range0) Try.underlying27 rfl (Try.size27) (KS_mkv rfl rfl)
            · skip
              intro Q
              have e27 : a'.eval (.tmp 27) = .agg (RC q).toArray := KS_val (hd.val 3 27 (by decide +kernel)) rfl
              refine wp_call 13 _ (run_enter 13 _ _ rfl (by kernel_rfl)) ?_
              simp only [List.map_toArray, List.map_nil, List.map_cons, e27]
              refine (jbytes_any (QO5.out.kept hg)).mono ?_
              rintro e w6 ⟨v6, rfl, o6, hb6⟩
              rw [HL2.out] at o6
              exact ⟨v6, rfl, KS_mkr rfl o6.rd, hb6⟩
            · skip
              intro Q
              have r28 : Rd w' (a'.eval (.tmp 28)) (y2) := KS_rd (hd.val 4 28 (by decide +kernel)) rfl
              exact wp_value _ (by simp only [execOp, r28.conv (P := Try.prog) 22 9 Try.underlying22 Try.underlying5 Try.underlying9, Sem.run_bind, Result.andThen_ok]; rfl) (KS_mkv rfl rfl)
            · skip
              intro Q
              have e26 : a'.eval (.tmp 26) = .string ⟨y1.toArray⟩ := KS_val (hd.val 2 26 (by decide +kernel)) rfl
              have e29 : a'.eval (.tmp 29) = .string ⟨y2.toArray⟩ := KS_val (hd.val 5 29 (by decide +kernel)) rfl
              clear hd hk
              exact wp_value (.bool (y1 == y2)) (by simp only [execOp, e26, e29, Sem.run_bind, eqg_s9, seq_run, Result.andThen_ok]; rfl) (KS_mkv rfl rfl)
            · skip
              intro Q
              have e2 : a'.eval (.tmp 2) = .pointer (some ⟨N, 0, none⟩) := hk.at 2 (by decide +kernel)
              exact wp_load_row 27 _ rfl _ _ e2 (RC p) _ ((B5.out.kept hg).range0) Try.underlying27 rfl (Try.size27) (KS_mkv rfl rfl)
            · skip
              intro Q
              have e3 : a'.eval (.tmp 3) = .pointer (some ⟨N + 1, 0, none⟩) := hk.at 3 (by decide +kernel)
              exact wp_load_row 27 _ rfl _ _ e3 (RC q) _ ((B6.out.kept hg).range0) Try.underlying27 rfl (Try.size27) (KS_mkv rfl rfl)
            · skip
              intro Q
              have e31 : a'.eval (.tmp 31) = .agg (RC p).toArray := KS_val (hd.val 7 31 (by decide +kernel)) rfl
              have e32 : a'.eval (.tmp 32) = .agg (RC q).toArray := KS_val (hd.val 8 32 (by decide +kernel)) rfl
              refine wp_call 14 _ (run_enter 14 _ _ rfl (by kernel_rfl)) ?_
              simp only [List.map_toArray, List.map_nil, List.map_cons, e31, e32]
              refine (same16_any (PO5.out.kept hg) (QO5.out.kept hg)).mono ?_
              rintro e w6 ⟨rfl, hb6⟩
              exact ⟨_, rfl, KS_mkv rfl rfl, hb6⟩
            · skip
              intro Q
              have e30 : a'.eval (.tmp 30) = .bool (y1 == y2) := KS_val (hd.val 6 30 (by decide +kernel)) rfl
              have e33 : a'.eval (.tmp 33) = .bool (sameB p q) := KS_val (hd.val 9 33 (by decide +kernel)) rfl
              clear hd hk
              exact wp_value (.bool true) (by simp only [execOp, e30, e33, Sem.run_bind, eqg_b4, beq_run, Result.andThen_ok]; rw [HE.out, beq_self_eq_true]; rfl) (KS_mkv rfl rfl)
            · skip
              intro Q
              have e34 : a'.eval (.tmp 34) = .bool true := KS_val (hd.val 10 34 (by decide +kernel)) rfl
              exact wp_value _ (by simp only [execOp, e34]; rfl) (KS_mkv rfl rfl)
            · skip
              have eg : a'.eval (.tmp 35) = .bool true := KS_val (hd.val 11 35 (by decide +kernel)) rfl
              refine ⟨35, true, rfl, eg, fun _ Q => ?_, fun h => absurd rfl h⟩
              refine wp_call 7 _ (run_enter 7 _ _ rfl (by kernel_rfl)) ?_
              simp only [List.map_toArray, List.map_nil]
              refine (lives_any _).mono ?_
              rintro e w6 ⟨rfl, hb6⟩
              exact ⟨_, rfl, KS_mkv rfl rfl, hb6⟩
            · skip
              intro Q
              have e35 : a'.eval (.tmp 35) = .bool true := KS_val (hd.val 11 35 (by decide +kernel)) rfl
              have e36 : a'.eval (.tmp 36) = .bool true := KS_val (hd.val 12 36 (by decide +kernel)) rfl
              clear hd hk
              exact wp_value (.bool true) (by simp only [execOp, e35, e36]; go_simp) (KS_mkv rfl rfl)
            · skip
              intro Q
              have e37 : a'.eval (.tmp 37) = .bool true := KS_val (hd.val 13 37 (by decide +kernel)) rfl
              exact wp_value _ (by simp only [execOp, e37]; rfl) (KS_mkv rfl rfl)
          · intro a' w7 hsz hdf hk hall hg
            have L7 : Hid (Below w.heap.size w w7) := (show Below _ _ _ from l1.out.trans ((L5.out.trans (hg.mono L5.out.size)).mono l1.out.size))
            have e24 : a'.eval (.tmp 24) = .agg (RC p).toArray := KS_val (hall 0 _ 24 rfl rfl) rfl
            have r25 : Rd w7 (a'.eval (.tmp 25)) (y1) := KS_rd (hall 1 _ 25 rfl rfl) rfl
            obtain ⟨x25, hx25⟩ : ∃ v, a'.eval (.tmp 25) = v := ⟨_, rfl⟩
            rw [hx25] at r25
            have e26 : a'.eval (.tmp 26) = .string ⟨y1.toArray⟩ := KS_val (hall 2 _ 26 rfl rfl) rfl
            have e27 : a'.eval (.tmp 27) = .agg (RC q).toArray := KS_val (hall 3 _ 27 rfl rfl) rfl
            have r28 : Rd w7 (a'.eval (.tmp 28)) (y2) := KS_rd (hall 4 _ 28 rfl rfl) rfl
            obtain ⟨x28, hx28⟩ : ∃ v, a'.eval (.tmp 28) = v := ⟨_, rfl⟩
            rw [hx28] at r28
            have e29 : a'.eval (.tmp 29) = .string ⟨y2.toArray⟩ := KS_val (hall 5 _ 29 rfl rfl) rfl
            have e30 : a'.eval (.tmp 30) = .bool (y1 == y2) := KS_val (hall 6 _ 30 rfl rfl) rfl
            have e31 : a'.eval (.tmp 31) = .agg (RC p).toArray := KS_val (hall 7 _ 31 rfl rfl) rfl
            have e32 : a'.eval (.tmp 32) = .agg (RC q).toArray := KS_val (hall 8 _ 32 rfl rfl) rfl
            have e33 : a'.eval (.tmp 33) = .bool (sameB p q) := KS_val (hall 9 _ 33 rfl rfl) rfl
            have e34 : a'.eval (.tmp 34) = .bool true := KS_val (hall 10 _ 34 rfl rfl) rfl
            have e35 : a'.eval (.tmp 35) = .bool true := KS_val (hall 11 _ 35 rfl rfl) rfl
            have e36 : a'.eval (.tmp 36) = .bool true := KS_val (hall 12 _ 36 rfl rfl) rfl
            have e37 : a'.eval (.tmp 37) = .bool true := KS_val (hall 13 _ 37 rfl rfl) rfl
            have e4 : a'.eval (.tmp 4) = .bool true := KS_val (hall 14 _ 4 rfl rfl) rfl
            have ha := act_puts 38 rfl hsz hdf hk [24, 25, 26, 27, 28, 29, 30, 31, 32, 33, 34, 35, 36, 37, 4] (by decide +kernel)
            simp only [puts, List.foldl_cons, List.foldl_nil, e24, hx25, e26, e27, hx28, e29, e30, e31, e32, e33, e34, e35, e36, e37, e4] at ha
            simp only [Act.put, List.setIfInBounds_toArray, List.set_cons_succ, List.set_cons_zero] at ha
            clear hall hk hsz hdf e24 hx25 e26 e27 hx28 e29 e30 e31 e32 e33 e34 e35 e36 e37 e4
            subst ha
            go_wp2_with fail
            go_ret
            exact ⟨rfl, L7.out⟩
#print axioms recordApart_any
end Go.Proofs.Ytmicmbjbclkbjaa
