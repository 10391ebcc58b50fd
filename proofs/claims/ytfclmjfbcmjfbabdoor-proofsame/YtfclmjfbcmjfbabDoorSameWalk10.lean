/-
  indenturelaw10.ProofSame: the walk.
-/
import Derived.Test.YtfclmjfbcmjfbabDoorGP2
namespace Go.Proofs.YtfclmjfbcmjfbabDoor
open Go.RowKit
theorem wpList_bsliceW {P : Program} {ops : Array Oper} {rest : List Oper} {op : Oper} {a : Act} {w : World} {Q : Exit → Act → World → Prop} (hw : Region.wanted op (yielded ops a.tmps) = true) (t : TypeId) (n : Nat) (ps : Array (Nat × Operand)) (_ : op.op = .buildSlice t n ps) (v : Value) (w1 : World)
    (hrun : (execOp a.eval op).run P w = .ok (.value v) w1) (h : wpList P ops Q rest (a.put op.dst v) w1) : wpList P ops Q (op :: rest) a w := by
  refine wpList_step fun K hK => ?_
  rw [if_pos hw]
  unfold Oper.wp
  rw [hrun]
  exact hK _ _ h
theorem checks_same (a b : Hs) (n : Int) : checksC a b n n [] = (decide (1 ≤ n ∧ n ≤ 1099511627776) && decide (a = b)) := by
  unfold checksC
  by_cases h : 1 ≤ n ∧ n ≤ 1099511627776
  · rw [if_pos (by omega), decide_eq_true h, way_stop (by simp), tw_plain (by simp), if_pos (by simp)]
    simp [twB, bothW_nil]
  · rw [if_neg (by omega), decide_eq_false h]
    rfl
theorem checks_long (a b : Hs) (n : Int) : checksC a a n n [b] = false := by
  unfold checksC
  by_cases h : 1 ≤ n ∧ n ≤ 1099511627776
  · rw [if_pos (by omega), way_stop (by simp), tw_plain (by simp), if_neg (by simp)]
    rfl
  · rw [if_neg (by omega)]
theorem checks_more (a b : Hs) (n m : Int) (p : List Hs) (h : m < n) : checksC a b n m p = false := by
  unfold checksC
  rw [if_neg (by omega)]
set_option maxHeartbeats 8000000 in
set_option maxRecDepth 100000 in
theorem proofSame_any (a b : Hs) (n m : Int) (w : World) (hT : Tabs w) :
    Calls Tryd.prog 3 #[HV a, HV b, .agg #[.int .i64 n, .int .i64 m]] w fun e w' => e = .returned (.bool true) ∧ Below w.heap.size w w' := by
  obtain ⟨N, HNw⟩ : ∃ N, Hid (w.heap.size = N) := ⟨_, rfl⟩
  have HNT : Hid (2 ≤ N) := (show 2 ≤ N by rw [← HNw.out]; exact hT.size)
  have HT := hide hT
  clear hT
  go_enter Tryd.func3, Tryd.ntmps3
  go_upto_region 1 with fail
  obtain ⟨w0, hw0⟩ : ∃ z, z = ((w.alloc (.cells (By a.1).toArray 23 (0, 0))).alloc (.cells (By b.1).toArray 23 (0, 0))).alloc (.cells [.int .i64 n, .int .i64 m].toArray 24 (0, 0)) := ⟨_, rfl⟩
  change Code.wp _ _ _ _ (((w.alloc (.cells (By a.1).toArray 23 (0, 0))).alloc (.cells (By b.1).toArray 23 (0, 0))).alloc (.cells [.int .i64 n, .int .i64 m].toArray 24 (0, 0)))
  rw [← hw0, HNw.out]
  obtain ⟨b0, b1, b2, ln⟩ := boxes9 HNw hw0
  have B0 := hide b0
  have B1 := hide b1
  have B2 := hide b2
  have LN := hide ln
  have S0 : Hid (N ≤ w0.heap.size) := (show N ≤ w0.heap.size by have := b0.lt; omega)
  clear hw0 b0 b1 b2 ln
  refine wp_region_inv Tryd.mixed (KS (fun i_ => match i_ with | 0 => .val (.pointer (some ⟨N + 1 + 1, 0, none⟩)) | 1 | 4 => .val (.int .i64 n) | 2 => .val (.pointer (some ⟨N + 1 + 1, 1, none⟩)) | 3 | 5 => .val (.int .i64 m) | _ => .free)) 64 rfl (by decide +kernel) (KS_mono _) ?_ ?_
  · refine AllFrom.cons (fun a' w' hg hk hd => ?_) (AllFrom.cons (fun a' w' hg hk hd => ?_) (AllFrom.cons (fun a' w' hg hk hd => ?_) (AllFrom.cons (fun a' w' hg hk hd => ?_) (AllFrom.cons (fun a' w' hg hk hd => ?_) (AllFrom.cons (fun a' w' hg hk hd => ?_) AllFrom.nil)))))
    · skip
      intro Q
      have e5 : a'.eval (.tmp 5) = .pointer (some ⟨N + 1 + 1, 0, none⟩) := hk.at 5 (by decide +kernel)
      clear hd hk
      exact wp_value (.pointer (some ⟨N + 1 + 1, 0, none⟩)) (by simp only [execOp, e5]; go_simp) (KS_mkv rfl rfl)
    · skip
      intro Q
      have e10 : a'.eval (.tmp 10) = .pointer (some ⟨N + 1 + 1, 0, none⟩) := KS_val (hd.val 0 10 (by decide +kernel)) rfl
      have hc := (B2.out.kept hg).cell (j := 0) rfl
      clear hd hk
      exact wp_value (.int .i64 n) (by simp only [execOp, e10]; go_simp) (KS_mkv rfl rfl)
    · skip
      intro Q
      have e5 : a'.eval (.tmp 5) = .pointer (some ⟨N + 1 + 1, 0, none⟩) := hk.at 5 (by decide +kernel)
      clear hd hk
      exact wp_value (.pointer (some ⟨N + 1 + 1, 1, none⟩)) (by simp only [execOp, e5]; go_simp) (KS_mkv rfl rfl)
    · skip
      intro Q
      have e12 : a'.eval (.tmp 12) = .pointer (some ⟨N + 1 + 1, 1, none⟩) := KS_val (hd.val 2 12 (by decide +kernel)) rfl
      have hc := (B2.out.kept hg).cell (j := 1) rfl
      clear hd hk
      exact wp_value (.int .i64 m) (by simp only [execOp, e12]; go_simp) (KS_mkv rfl rfl)
    · skip
      intro Q
      have e11 : a'.eval (.tmp 11) = .int .i64 n := KS_val (hd.val 1 11 (by decide +kernel)) rfl
      exact wp_value _ (by simp only [execOp, e11]; rfl) (KS_mkv rfl rfl)
    · skip
      intro Q
      have e13 : a'.eval (.tmp 13) = .int .i64 m := KS_val (hd.val 3 13 (by decide +kernel)) rfl
      exact wp_value _ (by simp only [execOp, e13]; rfl) (KS_mkv rfl rfl)
  intro a' w1 hsz hdf hk hall hg
  have e10 : a'.eval (.tmp 10) = .pointer (some ⟨N + 1 + 1, 0, none⟩) := KS_val (hall 0 _ 10 rfl rfl) rfl
  have e11 : a'.eval (.tmp 11) = .int .i64 n := KS_val (hall 1 _ 11 rfl rfl) rfl
  have e12 : a'.eval (.tmp 12) = .pointer (some ⟨N + 1 + 1, 1, none⟩) := KS_val (hall 2 _ 12 rfl rfl) rfl
  have e13 : a'.eval (.tmp 13) = .int .i64 m := KS_val (hall 3 _ 13 rfl rfl) rfl
  have e7 : a'.eval (.tmp 7) = .int .i64 n := KS_val (hall 4 _ 7 rfl rfl) rfl
  have e8 : a'.eval (.tmp 8) = .int .i64 m := KS_val (hall 5 _ 8 rfl rfl) rfl
  have ha := act_puts 64 rfl hsz hdf hk [10, 11, 12, 13, 7, 8] (by decide +kernel)
  simp only [puts, List.foldl_cons, List.foldl_nil, e10, e11, e12, e13, e7, e8] at ha
  simp only [Act.put, List.setIfInBounds_toArray, List.set_cons_succ, List.set_cons_zero] at ha
  clear hall hk hsz hdf e10 e11 e12 e13 e7 e8
  subst ha
  have B01 := hide (B0.out.kept hg)
  have B11 := hide (B1.out.kept hg)
  have L1 : Hid (Below N w w1) := LN.out.trans (Below.mono hg S0.out)
  have S1 : Hid (N ≤ w1.heap.size) := Nat.le_trans S0.out hg.size
  have T1 : Hid (Tabs w1) := HT.out.kept (L1.out.mono HNT.out)
  have ra : w1.rangeAt N 0 (By a.1) := B01.out.range0
  have he := eqA a b
  obtain ⟨bq, HBQ⟩ : ∃ bq, Hid (decide (a = b) = bq) := ⟨_, rfl⟩
  simp only [HBQ.out] at he
  clear hg
  by_cases q1 : (1 : Int) ≤ n
  · by_cases q2 : n ≤ 1099511627776
    · have HOK : Hid (1 ≤ n ∧ n ≤ 1099511627776) := ⟨q1, q2⟩
      have HC1 : Hid (checksC a a n n [] = true) := (show _ = _ by rw [checks_same, decide_eq_true HOK.out]; simp)
      have HC2 : Hid (checksC a b n n [] = bq) := (show _ = _ by rw [checks_same, decide_eq_true HOK.out, HBQ.out]; simp)
      go_wp2_with (first
        | (refine wpList_load_w9 (by rfl) 23 _ rfl N 0 rfl (By a.1) _ ra Tryd.underlying23 rfl (Tryd.sizeH a) ?_)
        | fail)
      have C1 := checks_any a a n n (.slice none 0 0) [] w1 T1.out (RdG_nil _)
      rw [HC1.out] at C1
      refine C1.mono ?_
      clear C1
      rintro e w2 ⟨rfl, hb2⟩
      have ra2 : w2.rangeAt N 0 (By a.1) := (B01.out.kept hb2).range0
      have rb2 : w2.rangeAt (N + 1) 0 (By b.1) := (B11.out.kept hb2).range0
      have B02 := hide (B01.out.kept hb2)
      have B12 := hide (B11.out.kept hb2)
      have L2 : Hid (Below N w w2) := L1.out.trans (hb2.mono S1.out)
      have S2 : Hid (N ≤ w2.heap.size) := Nat.le_trans S1.out hb2.size
      have T2 : Hid (Tabs w2) := HT.out.kept (L2.out.mono HNT.out)
      clear hb2 ra
      go_wp2_with (first
        | (refine wpList_load_w9 (by rfl) 23 _ rfl N 0 rfl (By a.1) _ ra2 Tryd.underlying23 rfl (Tryd.sizeH a) ?_)
        | (refine wpList_load_w9 (by rfl) 23 _ rfl (N + 1) 0 rfl (By b.1) _ rb2 Tryd.underlying23 rfl (Tryd.sizeH b) ?_)
        | fail)
      have C2 := checks_any a b n n (.slice none 0 0) [] w2 T2.out (RdG_nil _)
      rw [HC2.out] at C2
      refine C2.mono ?_
      clear C2
      rintro e w3 ⟨rfl, hb3⟩
      have ra3 : w3.rangeAt N 0 (By a.1) := (B02.out.kept hb3).range0
      have rb3 : w3.rangeAt (N + 1) 0 (By b.1) := (B12.out.kept hb3).range0
      have B03 := hide (B02.out.kept hb3)
      have B13 := hide (B12.out.kept hb3)
      have L3 : Hid (Below N w w3) := L2.out.trans (hb3.mono S2.out)
      have S3 : Hid (N ≤ w3.heap.size) := Nat.le_trans S2.out hb3.size
      clear hb3 ra2 rb2
      obtain ⟨w4, hr40, hg4, hrd4⟩ := hash_new w3 a
      have hr4 : (Instr.buildSlice 26 1 #[(0, .agg (By a.1).toArray)]).run Tryd.prog w3 = .ok (.slice (some ⟨w3.heap.size, 0, none⟩) 1 1) w4 := hr40
      clear hr40
      have R4 := hide hrd4
      have B04 := hide (B03.out.kept hg4)
      have B14 := hide (B13.out.kept hg4)
      have L4 : Hid (Below N w w4) := L3.out.trans (Below.mono hg4 S3.out)
      have S4 : Hid (N ≤ w4.heap.size) := Nat.le_trans S3.out hg4.size
      have T4 : Hid (Tabs w4) := HT.out.kept (L4.out.mono HNT.out)
      clear hg4 hrd4
      go_wp2_with (first
        | (refine wpList_load_w9 (by rfl) 23 _ rfl N 0 rfl (By a.1) _ ra3 Tryd.underlying23 rfl (Tryd.sizeH a) ?_)
        | (refine wpList_load_w9 (by rfl) 23 _ rfl (N + 1) 0 rfl (By b.1) _ rb3 Tryd.underlying23 rfl (Tryd.sizeH b) ?_)
        | (refine wpList_bsliceW (by rfl) 26 1 _ rfl (.slice (some ⟨w3.heap.size, 0, none⟩) 1 1) w4 (by simp [execOp, Act.eval, Act.put, hr4]) ?_)
        | fail)
      have C3 := checks_any a a n n (.slice (some ⟨w3.heap.size, 0, none⟩) 1 1) [a] w4 T4.out R4.out
      rw [checks_long] at C3
      refine C3.mono ?_
      clear C3
      rintro e w5 ⟨rfl, hb5⟩
      have ra5 : w5.rangeAt N 0 (By a.1) := (B04.out.kept hb5).range0
      have rb5 : w5.rangeAt (N + 1) 0 (By b.1) := (B14.out.kept hb5).range0
      have L5 : Hid (Below N w w5) := L4.out.trans (hb5.mono S4.out)
      have S5 : Hid (N ≤ w5.heap.size) := Nat.le_trans S4.out hb5.size
      have T5 : Hid (Tabs w5) := HT.out.kept (L5.out.mono HNT.out)
      clear hb5 ra3 rb3
      by_cases q5 : n ≤ m
      · go_wp2_with fail
        refine (lives_any w5 T5.out).mono ?_
        rintro e w6 ⟨rfl, hb6⟩
        go_wp2_with fail
        go_ret
        exact ⟨rfl, by rw [HNw.out]; exact L5.out.trans (hb6.mono S5.out)⟩
      · have HCM := hide (checks_more a b n m [] (by omega))
        have q5b : decide (n ≤ m) = false := decide_eq_false q5
        go_wp2_with (first
          | (refine wpList_load_w9 (by rfl) 23 _ rfl N 0 rfl (By a.1) _ ra5 Tryd.underlying23 rfl (Tryd.sizeH a) ?_)
          | (refine wpList_load_w9 (by rfl) 23 _ rfl (N + 1) 0 rfl (By b.1) _ rb5 Tryd.underlying23 rfl (Tryd.sizeH b) ?_)
          | fail)
        have C4 := checks_any a b n m (.slice none 0 0) [] w5 T5.out (RdG_nil _)
        rw [HCM.out] at C4
        refine C4.mono ?_
        clear C4
        rintro e w6 ⟨rfl, hb6⟩
        have L6 : Hid (Below N w w6) := L5.out.trans (hb6.mono S5.out)
        have S6 : Hid (N ≤ w6.heap.size) := Nat.le_trans S5.out hb6.size
        clear hb6 ra5 rb5
        go_wp2_with fail
        refine (lives_any w6 (HT.out.kept (L6.out.mono HNT.out))).mono ?_
        rintro e w7 ⟨rfl, hb7⟩
        go_wp2_with fail
        go_ret
        exact ⟨rfl, by rw [HNw.out]; exact L6.out.trans (hb7.mono S6.out)⟩
    · skip
      have HOK : Hid (¬ (1 ≤ n ∧ n ≤ 1099511627776)) := (show ¬ _ from fun h => q2 h.2)
      have HC1 : Hid (checksC a a n n [] = false) := (show _ = _ by rw [checks_same, decide_eq_false HOK.out]; simp)
      have HC2 : Hid (checksC a b n n [] = false) := (show _ = _ by rw [checks_same, decide_eq_false HOK.out, HBQ.out]; simp)
      go_wp2_with (first
        | (refine wpList_load_w9 (by rfl) 23 _ rfl N 0 rfl (By a.1) _ ra Tryd.underlying23 rfl (Tryd.sizeH a) ?_)
        | fail)
      have C1 := checks_any a a n n (.slice none 0 0) [] w1 T1.out (RdG_nil _)
      rw [HC1.out] at C1
      refine C1.mono ?_
      clear C1
      rintro e w2 ⟨rfl, hb2⟩
      have ra2 : w2.rangeAt N 0 (By a.1) := (B01.out.kept hb2).range0
      have rb2 : w2.rangeAt (N + 1) 0 (By b.1) := (B11.out.kept hb2).range0
      have B02 := hide (B01.out.kept hb2)
      have B12 := hide (B11.out.kept hb2)
      have L2 : Hid (Below N w w2) := L1.out.trans (hb2.mono S1.out)
      have S2 : Hid (N ≤ w2.heap.size) := Nat.le_trans S1.out hb2.size
      have T2 : Hid (Tabs w2) := HT.out.kept (L2.out.mono HNT.out)
      clear hb2 ra
      go_wp2_with (first
        | (refine wpList_load_w9 (by rfl) 23 _ rfl N 0 rfl (By a.1) _ ra2 Tryd.underlying23 rfl (Tryd.sizeH a) ?_)
        | (refine wpList_load_w9 (by rfl) 23 _ rfl (N + 1) 0 rfl (By b.1) _ rb2 Tryd.underlying23 rfl (Tryd.sizeH b) ?_)
        | fail)
      have C2 := checks_any a b n n (.slice none 0 0) [] w2 T2.out (RdG_nil _)
      rw [HC2.out] at C2
      refine C2.mono ?_
      clear C2
      rintro e w3 ⟨rfl, hb3⟩
      have ra3 : w3.rangeAt N 0 (By a.1) := (B02.out.kept hb3).range0
      have rb3 : w3.rangeAt (N + 1) 0 (By b.1) := (B12.out.kept hb3).range0
      have B03 := hide (B02.out.kept hb3)
      have B13 := hide (B12.out.kept hb3)
      have L3 : Hid (Below N w w3) := L2.out.trans (hb3.mono S2.out)
      have S3 : Hid (N ≤ w3.heap.size) := Nat.le_trans S2.out hb3.size
      clear hb3 ra2 rb2
      obtain ⟨w4, hr40, hg4, hrd4⟩ := hash_new w3 a
      have hr4 : (Instr.buildSlice 26 1 #[(0, .agg (By a.1).toArray)]).run Tryd.prog w3 = .ok (.slice (some ⟨w3.heap.size, 0, none⟩) 1 1) w4 := hr40
      clear hr40
      have R4 := hide hrd4
      have B04 := hide (B03.out.kept hg4)
      have B14 := hide (B13.out.kept hg4)
      have L4 : Hid (Below N w w4) := L3.out.trans (Below.mono hg4 S3.out)
      have S4 : Hid (N ≤ w4.heap.size) := Nat.le_trans S3.out hg4.size
      have T4 : Hid (Tabs w4) := HT.out.kept (L4.out.mono HNT.out)
      clear hg4 hrd4
      go_wp2_with (first
        | (refine wpList_load_w9 (by rfl) 23 _ rfl N 0 rfl (By a.1) _ ra3 Tryd.underlying23 rfl (Tryd.sizeH a) ?_)
        | (refine wpList_load_w9 (by rfl) 23 _ rfl (N + 1) 0 rfl (By b.1) _ rb3 Tryd.underlying23 rfl (Tryd.sizeH b) ?_)
        | (refine wpList_bsliceW (by rfl) 26 1 _ rfl (.slice (some ⟨w3.heap.size, 0, none⟩) 1 1) w4 (by simp [execOp, Act.eval, Act.put, hr4]) ?_)
        | fail)
      have C3 := checks_any a a n n (.slice (some ⟨w3.heap.size, 0, none⟩) 1 1) [a] w4 T4.out R4.out
      rw [checks_long] at C3
      refine C3.mono ?_
      clear C3
      rintro e w5 ⟨rfl, hb5⟩
      have ra5 : w5.rangeAt N 0 (By a.1) := (B04.out.kept hb5).range0
      have rb5 : w5.rangeAt (N + 1) 0 (By b.1) := (B14.out.kept hb5).range0
      have L5 : Hid (Below N w w5) := L4.out.trans (hb5.mono S4.out)
      have S5 : Hid (N ≤ w5.heap.size) := Nat.le_trans S4.out hb5.size
      have T5 : Hid (Tabs w5) := HT.out.kept (L5.out.mono HNT.out)
      clear hb5 ra3 rb3
      by_cases q5 : n ≤ m
      · go_wp2_with fail
        refine (lives_any w5 T5.out).mono ?_
        rintro e w6 ⟨rfl, hb6⟩
        go_wp2_with fail
        go_ret
        exact ⟨rfl, by rw [HNw.out]; exact L5.out.trans (hb6.mono S5.out)⟩
      · have HCM := hide (checks_more a b n m [] (by omega))
        have q5b : decide (n ≤ m) = false := decide_eq_false q5
        go_wp2_with (first
          | (refine wpList_load_w9 (by rfl) 23 _ rfl N 0 rfl (By a.1) _ ra5 Tryd.underlying23 rfl (Tryd.sizeH a) ?_)
          | (refine wpList_load_w9 (by rfl) 23 _ rfl (N + 1) 0 rfl (By b.1) _ rb5 Tryd.underlying23 rfl (Tryd.sizeH b) ?_)
          | fail)
        have C4 := checks_any a b n m (.slice none 0 0) [] w5 T5.out (RdG_nil _)
        rw [HCM.out] at C4
        refine C4.mono ?_
        clear C4
        rintro e w6 ⟨rfl, hb6⟩
        have L6 : Hid (Below N w w6) := L5.out.trans (hb6.mono S5.out)
        have S6 : Hid (N ≤ w6.heap.size) := Nat.le_trans S5.out hb6.size
        clear hb6 ra5 rb5
        go_wp2_with fail
        refine (lives_any w6 (HT.out.kept (L6.out.mono HNT.out))).mono ?_
        rintro e w7 ⟨rfl, hb7⟩
        go_wp2_with fail
        go_ret
        exact ⟨rfl, by rw [HNw.out]; exact L6.out.trans (hb7.mono S6.out)⟩
  · skip
    have HOK : Hid (¬ (1 ≤ n ∧ n ≤ 1099511627776)) := (show ¬ _ from fun h => q1 h.1)
    have HC1 : Hid (checksC a a n n [] = false) := (show _ = _ by rw [checks_same, decide_eq_false HOK.out]; simp)
    have HC2 : Hid (checksC a b n n [] = false) := (show _ = _ by rw [checks_same, decide_eq_false HOK.out, HBQ.out]; simp)
    go_wp2_with (first
      | (refine wpList_load_w9 (by rfl) 23 _ rfl N 0 rfl (By a.1) _ ra Tryd.underlying23 rfl (Tryd.sizeH a) ?_)
      | fail)
    have C1 := checks_any a a n n (.slice none 0 0) [] w1 T1.out (RdG_nil _)
    rw [HC1.out] at C1
    refine C1.mono ?_
    clear C1
    rintro e w2 ⟨rfl, hb2⟩
    have ra2 : w2.rangeAt N 0 (By a.1) := (B01.out.kept hb2).range0
    have rb2 : w2.rangeAt (N + 1) 0 (By b.1) := (B11.out.kept hb2).range0
    have B02 := hide (B01.out.kept hb2)
    have B12 := hide (B11.out.kept hb2)
    have L2 : Hid (Below N w w2) := L1.out.trans (hb2.mono S1.out)
    have S2 : Hid (N ≤ w2.heap.size) := Nat.le_trans S1.out hb2.size
    have T2 : Hid (Tabs w2) := HT.out.kept (L2.out.mono HNT.out)
    clear hb2 ra
    go_wp2_with (first
      | (refine wpList_load_w9 (by rfl) 23 _ rfl N 0 rfl (By a.1) _ ra2 Tryd.underlying23 rfl (Tryd.sizeH a) ?_)
      | (refine wpList_load_w9 (by rfl) 23 _ rfl (N + 1) 0 rfl (By b.1) _ rb2 Tryd.underlying23 rfl (Tryd.sizeH b) ?_)
      | fail)
    have C2 := checks_any a b n n (.slice none 0 0) [] w2 T2.out (RdG_nil _)
    rw [HC2.out] at C2
    refine C2.mono ?_
    clear C2
    rintro e w3 ⟨rfl, hb3⟩
    have ra3 : w3.rangeAt N 0 (By a.1) := (B02.out.kept hb3).range0
    have rb3 : w3.rangeAt (N + 1) 0 (By b.1) := (B12.out.kept hb3).range0
    have B03 := hide (B02.out.kept hb3)
    have B13 := hide (B12.out.kept hb3)
    have L3 : Hid (Below N w w3) := L2.out.trans (hb3.mono S2.out)
    have S3 : Hid (N ≤ w3.heap.size) := Nat.le_trans S2.out hb3.size
    clear hb3 ra2 rb2
    obtain ⟨w4, hr40, hg4, hrd4⟩ := hash_new w3 a
    have hr4 : (Instr.buildSlice 26 1 #[(0, .agg (By a.1).toArray)]).run Tryd.prog w3 = .ok (.slice (some ⟨w3.heap.size, 0, none⟩) 1 1) w4 := hr40
    clear hr40
    have R4 := hide hrd4
    have B04 := hide (B03.out.kept hg4)
    have B14 := hide (B13.out.kept hg4)
    have L4 : Hid (Below N w w4) := L3.out.trans (Below.mono hg4 S3.out)
    have S4 : Hid (N ≤ w4.heap.size) := Nat.le_trans S3.out hg4.size
    have T4 : Hid (Tabs w4) := HT.out.kept (L4.out.mono HNT.out)
    clear hg4 hrd4
    go_wp2_with (first
      | (refine wpList_load_w9 (by rfl) 23 _ rfl N 0 rfl (By a.1) _ ra3 Tryd.underlying23 rfl (Tryd.sizeH a) ?_)
      | (refine wpList_load_w9 (by rfl) 23 _ rfl (N + 1) 0 rfl (By b.1) _ rb3 Tryd.underlying23 rfl (Tryd.sizeH b) ?_)
      | (refine wpList_bsliceW (by rfl) 26 1 _ rfl (.slice (some ⟨w3.heap.size, 0, none⟩) 1 1) w4 (by simp [execOp, Act.eval, Act.put, hr4]) ?_)
      | fail)
    have C3 := checks_any a a n n (.slice (some ⟨w3.heap.size, 0, none⟩) 1 1) [a] w4 T4.out R4.out
    rw [checks_long] at C3
    refine C3.mono ?_
    clear C3
    rintro e w5 ⟨rfl, hb5⟩
    have ra5 : w5.rangeAt N 0 (By a.1) := (B04.out.kept hb5).range0
    have rb5 : w5.rangeAt (N + 1) 0 (By b.1) := (B14.out.kept hb5).range0
    have L5 : Hid (Below N w w5) := L4.out.trans (hb5.mono S4.out)
    have S5 : Hid (N ≤ w5.heap.size) := Nat.le_trans S4.out hb5.size
    have T5 : Hid (Tabs w5) := HT.out.kept (L5.out.mono HNT.out)
    clear hb5 ra3 rb3
    by_cases q5 : n ≤ m
    · go_wp2_with fail
      refine (lives_any w5 T5.out).mono ?_
      rintro e w6 ⟨rfl, hb6⟩
      go_wp2_with fail
      go_ret
      exact ⟨rfl, by rw [HNw.out]; exact L5.out.trans (hb6.mono S5.out)⟩
    · have HCM := hide (checks_more a b n m [] (by omega))
      have q5b : decide (n ≤ m) = false := decide_eq_false q5
      go_wp2_with (first
        | (refine wpList_load_w9 (by rfl) 23 _ rfl N 0 rfl (By a.1) _ ra5 Tryd.underlying23 rfl (Tryd.sizeH a) ?_)
        | (refine wpList_load_w9 (by rfl) 23 _ rfl (N + 1) 0 rfl (By b.1) _ rb5 Tryd.underlying23 rfl (Tryd.sizeH b) ?_)
        | fail)
      have C4 := checks_any a b n m (.slice none 0 0) [] w5 T5.out (RdG_nil _)
      rw [HCM.out] at C4
      refine C4.mono ?_
      clear C4
      rintro e w6 ⟨rfl, hb6⟩
      have L6 : Hid (Below N w w6) := L5.out.trans (hb6.mono S5.out)
      have S6 : Hid (N ≤ w6.heap.size) := Nat.le_trans S5.out hb6.size
      clear hb6 ra5 rb5
      go_wp2_with fail
      refine (lives_any w6 (HT.out.kept (L6.out.mono HNT.out))).mono ?_
      rintro e w7 ⟨rfl, hb7⟩
      go_wp2_with fail
      go_ret
      exact ⟨rfl, by rw [HNw.out]; exact L6.out.trans (hb7.mono S6.out)⟩
#print axioms proofSame_any
end Go.Proofs.YtfclmjfbcmjfbabDoor
