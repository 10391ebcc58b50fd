/-
  indenturelaw08.StoreScans: what the call does.
-/
import Derived.Test.YtgaoionnfkbhaaaStSa
namespace Go.Proofs.Ytgaoionnfkbhaaa
open Go.RowKit
theorem build0K (W : World) : (Instr.buildSlice 47 0 #[]).run Try.prog W = .ok (.slice (some ⟨W.heap.size, 0, none⟩) 0 0) (W.alloc (.cells #[] 9 (0, 0))) := by
  kernel_rfl
theorem wpList_build0K {ops : Array Oper} {rest : List Oper} {op : Oper} {a : Act} {w : World} {Q : Exit → Act → World → Prop} (hgd : op.guard = none) (ho : op.op = .buildSlice 47 0 #[])
    (h : wpList Try.prog ops Q rest (a.put op.dst (.slice (some ⟨w.heap.size, 0, none⟩) 0 0)) (w.alloc (.cells #[] 9 (0, 0)))) : wpList Try.prog ops Q (op :: rest) a w := by
  refine wpList_plain hgd fun K hK => ?_
  have hr := build0K w
  unfold Oper.wp execOp
  simp only [ho, hr, List.map_toArray, List.map_nil, Sem.run_bind, Sem.run_pure, Result.andThen_ok]
  exact hK _ _ h
theorem dec_str (a b : ByteArray) : decide (a = b) = (a.toList == b.toList) := by
  rw [Bool.eq_iff_iff, beq_iff_eq, decide_eq_true_eq]
  exact ba_inj.symm
theorem sumL_le (L : List Ac) (i : Nat) : sumL (L.take i) ≤ sumL L := by
  have e : sumL L = sumL (L.take i) + sumL (L.drop i) := by
    unfold sumL
    rw [← List.sum_append, ← List.map_append, List.take_append_drop]
  omega
set_option maxRecDepth 100000 in
set_option maxHeartbeats 4000000 in
theorem storeScans_any {w : World} {v : Value} {L : List Ac} (h : RdG AE w v L) (hok : AcsOk w L) {x : Ac} (hx : AcOk w x) : Calls Try.prog 5 #[v, .agg (AC x).toArray] w fun e w' => e = .returned (.bool true) ∧ Below w.heap.size w w' := by
  have HL := hide h
  have HOK := hide hok
  have HX := hide hx
  obtain ⟨a, cp, rfl⟩ := h.slice
  have hz := Zact8
  have hn : L.length ≤ 9223372036854775807 := Nat.le_trans h.cap h.max
  clear h hok hx
  obtain ⟨m, HM⟩ : ∃ m, Hid (L.length = m) := ⟨_, rfl⟩
  rw [HM.out] at HL hn ⊢
  have L1 : Hid (Below w.heap.size w (w.alloc (.cells (AC x).toArray 33 (0, 0)))) := (Below.refl _ _).alloc (Nat.le_refl _) _
  have B1 := hide (Blk.new w 33 (AC x))
  go_enter Try.func5, Try.ntmps5
  go_upto_region 1 with fail
  obtain ⟨X, HE1⟩ : ∃ E, Hid (w.heap.size = E) := ⟨_, rfl⟩
  obtain ⟨w1, hw1⟩ : ∃ y, y = w.alloc (.cells (AC x).toArray 33 (0, 0)) := ⟨_, rfl⟩
  rw [← hw1] at L1 B1 ⊢
  rw [HE1.out] at B1 ⊢
  clear hw1
  have H1L := hide (HL.out.kept L1.out)
  have H1O : Hid (AcsOk w1 L) := (show AcsOk w1 L from fun a ha => (HOK.out a ha).kept L1.out)
  have H1X := hide (HX.out.kept L1.out)
  clear HL HOK HX
  go_wp2_with fail
  refine ls_new.mono ?_
  rintro e w2 ⟨D, rfl, hls⟩
  have S2 := hide hls
  clear hls
  go_wp2_with fail
  refine (light_any (H1L.out.kept S2.out.lo) (fun a ha => (H1O.out a ha).kept S2.out.lo)).mono ?_
  rintro e w3 ⟨b, rfl, hlight, hb3⟩
  have S3 := hide (S2.out.kept hb3)
  have L3 : Hid (Below w.heap.size w w3) := L1.out.trans (S3.out.lo.mono L1.out.size)
  clear hb3
  cases b with
  | false =>
    go_wp2_with fail
    refine (lives_any w3).mono ?_
    rintro e wz ⟨rfl, hbz⟩
    have LZ : Hid (Below w.heap.size w wz) := L3.out.trans (hbz.mono (L3.out).size)
    clear hbz
    go_wp2_with fail
    go_ret
    exact ⟨rfl, LZ.out⟩
  | true =>
    have HLI := hide (hlight rfl)
    clear hlight
    have hm60 : m ≤ 60 := by have := HLI.out.1; rw [HM.out] at this; exact this
    have B3r := (B1.out.kept S3.out.lo).range0
    have L4 : Hid (Below w3.heap.size w3 (w3.alloc (.cells (AC x).toArray 33 (0, 0)))) := (Below.refl _ _).alloc (Nat.le_refl _) _
    have R4 : Hid (RdG AE (w3.alloc (.cells (AC x).toArray 33 (0, 0))) (.slice (some ⟨w3.heap.size, 0, none⟩) 1 1) [x]) := rdG_one (E := AE) w3 33 x
    have K4 : Hid (AcsOk (w3.alloc (.cells (AC x).toArray 33 (0, 0))) [x]) := (show AcsOk _ _ from fun a ha => by
      simp only [List.mem_singleton] at ha
      subst ha
      exact (H1X.out.kept S3.out.lo).kept L4.out)
    go_wp2_with (first
      | (refine wpList_load_2 rfl 33 _ rfl X 0 rfl (AC x) _ B3r Try.underlying33 rfl Try.size33 ?_)
      | (refine wpList_buildA_2 rfl _ rfl x rfl ?_)
      | fail)
    refine (light_any R4.out K4.out).mono ?_
    rintro e w5 ⟨b, rfl, hli, hb5⟩
    have S5 := hide (S3.out.kept (L4.out.trans (hb5.mono L4.out.size)))
    have L5 : Hid (Below w.heap.size w w5) := L1.out.trans (S5.out.lo.mono L1.out.size)
    clear hb5 R4 K4 L4 B3r
    cases b with
    | false =>
      go_wp2_with fail
      refine (lives_any w5).mono ?_
      rintro e wz ⟨rfl, hbz⟩
      have LZ : Hid (Below w.heap.size w wz) := L5.out.trans (hbz.mono (L5.out).size)
      clear hbz
      go_wp2_with fail
      go_ret
      exact ⟨rfl, LZ.out⟩
    | true =>
      have HLX := hide ((hli rfl).2.2 x (by simp))
      clear hli
      have A6 : Hid (Below w5.heap.size w5 (w5.alloc (.cells #[] 9 (0, 0)))) := (Below.refl _ _).alloc (Nat.le_refl _) _
      have O6 : Hid (OwnG KE (w5.alloc (.cells #[] 9 (0, 0))) w5.heap.size 9 (.slice (some ⟨w5.heap.size, 0, none⟩) 0 0) []) := ownG_none (E := KE) w5 w5.heap.size 9 (Nat.le_refl _)
      go_wp2_with (first
        | (refine wpList_build0K rfl rfl ?_)
        | fail)
      have S6 : Hid (LS w1 (w5.alloc (.cells #[] 9 (0, 0))) D 0 sp0 (fun b => (Value.slice (some ⟨w5.heap.size, 0, none⟩) 0 0).ownBlock = some b)) := ((S5.out.own A6.out (Nat.le_refl _) (show w5.heap.size < _ by simp)).less (fun b hb => .inr (by cases hb; rfl)))
      have hO6 := hide (O6.out.mono S5.out.lo.size)
      generalize (w5.alloc (.cells #[] 9 (0, 0))) = w6 at S6 hO6 ⊢
      generalize Value.slice (some ⟨w5.heap.size, 0, none⟩) 0 0 = vk0 at S6 hO6 ⊢
      clear A6 O6
      go_loopg [6, 40] m (fun g y x wr => ∃ (i : Nat) (s : SP) (vk : Value) (Ks : List ByteArray), g + i = m ∧ y = vk ∧ x = .int .i64 (i : Int) ∧ Hid (LS w1 wr D i s (fun b => vk.ownBlock = some b)) ∧ Hid (OwnG KE wr w1.heap.size 9 vk Ks) ∧ Hid (Ks.length ≤ sumL (L.take i)) ∧ Hid (KI s Ks))
      case atStart => exact ⟨0, sp0, _, [], by omega, rfl, rfl, S6, hO6, Nat.zero_le _, ki0⟩
      case round =>
        obtain ⟨i, s, vk, Ks, hgi, hvk, rfl, SR, OR, HKL, HKI⟩ := hrel
        replace hvk := hvk.symm
        subst hvk
        by_cases hlt : i < m
        · have q2 : (i : Int) < (m : Int) := by omega
          have hrd := hide (H1L.out.kept SR.out.lo)
          obtain ⟨b, off, rfl, hlb4, hx⟩ := (hrd.out).nth (by omega)
          have hlt' : i < L.length := by rw [HM.out]; exact hlt
          have hr : wr.rangeAt b (off + i * 6) (AC L[i]) := hx i hlt'
          obtain ⟨p, HPp⟩ : ∃ p, Hid (L[i] = p) := ⟨L[i], (show L[i] = L[i] from rfl)⟩
          rw [HPp.out] at hr
          clear hx hlb4
          go_upto_region 8 with (first
            | (refine wpList_load_mid rfl 33 _ rfl b (off + i * 6) rfl (AC p) _ hr Try.underlying33 rfl Try.size33 ?_)
            | (refine wpList_store_new rfl 33 _ _ rfl wr _ (AC p).toArray _ rfl rfl rfl Try.size33 rfl (all_one (AC_one p)) ?_)
            | fail)
          obtain ⟨E, HE⟩ : ∃ E, Hid (wr.heap.size = E) := ⟨_, rfl⟩
          rw [HE.out]
          obtain ⟨w4, hw4⟩ : ∃ x, x = wr.alloc (.cells (AC p).toArray 33 (0, 0)) := ⟨_, rfl⟩
          rw [← hw4]
          have G4 : Hid (Below wr.heap.size wr w4) := (show Below _ _ _ by rw [hw4]; exact (Below.refl _ _).alloc (Nat.le_refl _) _)
          have B4 : Hid (Blk w4 E 33 (AC p)) := (show Blk _ _ _ _ by rw [hw4, ← HE.out]; exact Blk.new wr 33 (AC p))
          clear hw4 hr
          have S4 := hide (SR.out.own G4.out (Nat.le_of_eq HE.out) B4.out.lt)
          have OK4 := hide (OR.out.kept G4.out)
          have HL60 := hide ((HLI.out.2.2 p (by rw [← HPp.out]; exact List.getElem_mem hlt')).1)
          have HSU : Hid (sumL (L.take (i + 1)) = sumL (L.take i) + p.l.length) := (show _ = _ by rw [sumL_take hlt', HPp.out])
          have HA := hide (H1O.out p (by rw [← HPp.out]; exact List.getElem_mem hlt'))
          have LOW := hide HA.out.low
          obtain ⟨kd, xn, xm, ad, ln, cpa, pl, fr, tt⟩ := p
          simp only at LOW HL60 HSU
          have NX0 : Hid (Ks.length ≤ sumL (L.take (i + 1))) := (show _ ≤ _ by have := HKL.out; rw [HSU.out]; omega)
          by_cases hk0 : kd = 0
          · subst hk0
            cases hq : instOk s (s.last + 1) pl with
            | false =>
              refine wp_region_tailsW Try.mixed (KS (fun i_ => match i_ with | 0 => .val (.pointer (some ⟨E, 0, none⟩)) | 1 => .val (.int .i64 0) | 2 | 3 => .val (.bool true) | 4 | 5 => .val (.pointer (some ⟨D, 0, none⟩)) | 6 => .val (.int .i64 s.last) | 7 => .val (.int .i64 (s.last + 1)) | 8 => .val (.pointer (some ⟨E, 3, none⟩)) | 9 => .val (.slice ad ln cpa) | _ => .free)) 224 rfl (by decide +kernel) 10 (by decide) (by decide +kernel) (KS_mono _) ?_ ?_
              · refine AllFrom.cons (fun a' w' hg hk hd => ?_) (AllFrom.cons (fun a' w' hg hk hd => ?_) (AllFrom.cons (fun a' w' hg hk hd => ?_) (AllFrom.cons (fun a' w' hg hk hd => ?_) (AllFrom.cons (fun a' w' hg hk hd => ?_) (AllFrom.cons (fun a' w' hg hk hd => ?_) (AllFrom.cons (fun a' w' hg hk hd => ?_) (AllFrom.cons (fun a' w' hg hk hd => ?_) (AllFrom.cons (fun a' w' hg hk hd => ?_) (AllFrom.cons (fun a' w' hg hk hd => ?_) AllFrom.nil)))))))))
                · -- 0: Op.fieldAddr 33 (Operand.tmp 8) 0
                  have e8 : a'.eval (.tmp 8) = .pointer (some ⟨E, 0, none⟩) := hk.at 8 (by decide +kernel)
                  refine ⟨wanted_none rfl, fun Q => ?_⟩
                  clear hd hk
                  exact wp_value (.pointer (some ⟨E, 0, none⟩)) (by simp only [execOp, e8]; go_simp) (KS_mkv rfl rfl)
                · -- 1: Op.load 3 (Operand.tmp 44)
                  have e44 : a'.eval (.tmp 44) = .pointer (some ⟨E, 0, none⟩) := KS_val (Deps.val hd 0 44 (by decide +kernel)) rfl
                  refine ⟨wanted_none rfl, fun Q => ?_⟩
                  have c := (B4.out.kept hg).cell (j := 0) rfl
                  simp only at c
                  clear hd hk
                  exact wp_value (.int .i64 0) (by simp only [execOp, e44]; go_simp) (KS_mkv rfl rfl)
                · -- 2: Op.binOp BinOp.eql 3 (Operand.tmp 45) (Operand.const (Value.
                  have e45 : a'.eval (.tmp 45) = .int .i64 0 := KS_val (Deps.val hd 1 45 (by decide +kernel)) rfl
                  refine ⟨wanted_none rfl, fun Q => ?_⟩
                  clear hd hk
                  exact wp_value (.bool true) (by simp only [execOp, e45]; go_simp) (KS_mkv rfl rfl)
                · -- 3: Op.move (Operand.tmp 46)
                  have e46 : a'.eval (.tmp 46) = .bool true := KS_val (Deps.val hd 2 46 (by decide +kernel)) rfl
                  refine ⟨wanted_none rfl, fun Q => ?_⟩
                  exact wp_value _ (by simp only [execOp, e46]; rfl) (KS_mkv rfl rfl)
                · -- 4: Op.move (Operand.tmp 5)
                  have e5 : a'.eval (.tmp 5) = .pointer (some ⟨D, 0, none⟩) := hk.at 5 (by decide +kernel)
                  refine ⟨wanted_some rfl 47 rfl (KS_val (Deps.val hd 3 47 (by decide +kernel)) rfl), fun Q => ?_⟩
                  exact wp_value _ (by simp only [execOp, e5]; rfl) (KS_mkv rfl rfl)
                · -- 5: Op.move (Operand.tmp 5)
                  have e5 : a'.eval (.tmp 5) = .pointer (some ⟨D, 0, none⟩) := hk.at 5 (by decide +kernel)
                  refine ⟨wanted_some rfl 47 rfl (KS_val (Deps.val hd 3 47 (by decide +kernel)) rfl), fun Q => ?_⟩
                  exact wp_value _ (by simp only [execOp, e5]; rfl) (KS_mkv rfl rfl)
                · -- 6: Op.call ( callee := Callee.value (Operand.func 13), args := 
                  have e49 : a'.eval (.tmp 49) = .pointer (some ⟨D, 0, none⟩) := KS_val (Deps.val hd 5 49 (by decide +kernel)) rfl
                  refine ⟨wanted_some rfl 47 rfl (KS_val (Deps.val hd 3 47 (by decide +kernel)) rfl), fun Q => ?_⟩
                  refine wp_call 13 _ (run_enter 13 _ _ rfl (by kernel_rfl)) ?_
                  simp only [List.map_toArray, List.map_nil, List.map_cons, e49]
                  refine (S4.out.kept hg).last.mono ?_
                  rintro e_ w_ ⟨rfl, hw_⟩
                  subst w_
                  exact ⟨_, rfl, KS_mkv rfl rfl, Gr.refl _⟩
                · -- 7: Op.binOp BinOp.add 3 (Operand.tmp 50) (Operand.const (Value.
                  have e50 : a'.eval (.tmp 50) = .int .i64 s.last := KS_val (Deps.val hd 6 50 (by decide +kernel)) rfl
                  refine ⟨wanted_some rfl 47 rfl (KS_val (Deps.val hd 3 47 (by decide +kernel)) rfl), fun Q => ?_⟩
                  exact wp_value (.int .i64 (s.last + 1)) (by simp only [execOp, e50]; go_simp; exact wr64 (by have := S4.out.bnd; omega) (by have := S4.out.bnd; omega)) (KS_mkv rfl rfl)
                · -- 8: Op.fieldAddr 33 (Operand.tmp 8) 3
                  have e8 : a'.eval (.tmp 8) = .pointer (some ⟨E, 0, none⟩) := hk.at 8 (by decide +kernel)
                  refine ⟨wanted_some rfl 47 rfl (KS_val (Deps.val hd 3 47 (by decide +kernel)) rfl), fun Q => ?_⟩
                  clear hd hk
                  exact wp_value (.pointer (some ⟨E, 3, none⟩)) (by simp only [execOp, e8]; go_simp) (KS_mkv rfl rfl)
                · -- 9: Op.load 31 (Operand.tmp 52)
                  have e52 : a'.eval (.tmp 52) = .pointer (some ⟨E, 3, none⟩) := KS_val (Deps.val hd 8 52 (by decide +kernel)) rfl
                  refine ⟨wanted_some rfl 47 rfl (KS_val (Deps.val hd 3 47 (by decide +kernel)) rfl), fun Q => ?_⟩
                  have c := (B4.out.kept hg).cell (j := 3) rfl
                  simp only at c
                  clear hd hk
                  exact wp_value (.slice ad ln cpa) (by simp only [execOp, e52]; go_simp) (KS_mkv rfl rfl)
              · intro a' w_ hsz hdf hk hall hg
                have e44 : a'.eval (.tmp 44) = .pointer (some ⟨E, 0, none⟩) := KS_val (hall 0 _ 44 (by decide) rfl rfl) rfl
                have e45 : a'.eval (.tmp 45) = .int .i64 0 := KS_val (hall 1 _ 45 (by decide) rfl rfl) rfl
                have e46 : a'.eval (.tmp 46) = .bool true := KS_val (hall 2 _ 46 (by decide) rfl rfl) rfl
                have e47 : a'.eval (.tmp 47) = .bool true := KS_val (hall 3 _ 47 (by decide) rfl rfl) rfl
                have e48 : a'.eval (.tmp 48) = .pointer (some ⟨D, 0, none⟩) := KS_val (hall 4 _ 48 (by decide) rfl rfl) rfl
                have e49 : a'.eval (.tmp 49) = .pointer (some ⟨D, 0, none⟩) := KS_val (hall 5 _ 49 (by decide) rfl rfl) rfl
                have e50 : a'.eval (.tmp 50) = .int .i64 s.last := KS_val (hall 6 _ 50 (by decide) rfl rfl) rfl
                have e51 : a'.eval (.tmp 51) = .int .i64 (s.last + 1) := KS_val (hall 7 _ 51 (by decide) rfl rfl) rfl
                have e52 : a'.eval (.tmp 52) = .pointer (some ⟨E, 3, none⟩) := KS_val (hall 8 _ 52 (by decide) rfl rfl) rfl
                have e53 : a'.eval (.tmp 53) = .slice ad ln cpa := KS_val (hall 9 _ 53 (by decide) rfl rfl) rfl
                obtain ⟨x54, e54⟩ : ∃ v, a'.eval (.tmp 54) = v := ⟨_, rfl⟩
                obtain ⟨x55, e55⟩ : ∃ v, a'.eval (.tmp 55) = v := ⟨_, rfl⟩
                obtain ⟨x56, e56⟩ : ∃ v, a'.eval (.tmp 56) = v := ⟨_, rfl⟩
                have hr_ := (HA.out.r.kept ((S4.out.kept hg).lo))
                simp only at hr_
                refine wpSeqW_call (wanted_some rfl 47 rfl e47) 24 _ (run_enter 24 _ _ rfl (by kernel_rfl)) ?_
                simp only [List.map_toArray, List.map_nil, List.map_cons, e48, e51, e53]
                refine ((S4.out.kept hg).install (by omega) hr_ HL60.out LOW.out (s.last + 1)).mono ?_
                rintro e_ w8 ⟨rfl, hls_, hsm_⟩
                refine ⟨_, rfl, ?_⟩
                rw [hq]
                have S8 := hide hls_
                have B8 := hide ((B4.out.kept hg).same hsm_ (.inr rfl))
                have O8 := hide ((OK4.out.kept hg).same hsm_ (fun _ h => .inl h))
                have ha := act_puts 224 rfl hsz hdf hk [44, 45, 46, 47, 48, 49, 50, 51, 52, 53, 54, 55, 56] (by decide +kernel)
                simp only [puts, List.foldl_cons, List.foldl_nil, e44, e45, e46, e47, e48, e49, e50, e51, e52, e53, e54, e55, e56] at ha
                simp only [Act.put, List.setIfInBounds_toArray, List.set_cons_succ, List.set_cons_zero] at ha
                clear hall hk hsz hdf hls_ hsm_ hr_ hg e44 e45 e46 e47 e48 e49 e50 e51 e52 e53 e54 e55 e56
                subst ha
                simp only [Act.put, List.setIfInBounds_toArray, List.set_cons_succ, List.set_cons_zero]
                refine wpSeqW_value rfl (.bool false) (by simp only [execOp]; go_simp) ?_
                simp only [Act.put, List.setIfInBounds_toArray, List.set_cons_succ, List.set_cons_zero]
                refine wpSeqW_value rfl (.bool false) (by simp only [execOp]; go_simp) ?_
                simp only [Act.put, List.setIfInBounds_toArray, List.set_cons_succ, List.set_cons_zero, wpSeqW]
                rw [instP_no hq] at S8
                go_wp2_with fail
                go_roundg (gk - 1)
                case measure => omega
                case rel => exact ⟨i + 1, s, vk, Ks, by omega, rfl, by go_num, S8.out.less (fun _ h => .inl h), O8, NX0, HKI⟩
            | true =>
              refine wp_region_tailsW Try.mixed (KS (fun i_ => match i_ with | 0 => .val (.pointer (some ⟨E, 0, none⟩)) | 1 => .val (.int .i64 0) | 2 | 3 => .val (.bool true) | 4 | 5 => .val (.pointer (some ⟨D, 0, none⟩)) | 6 => .val (.int .i64 s.last) | 7 => .val (.int .i64 (s.last + 1)) | 8 => .val (.pointer (some ⟨E, 3, none⟩)) | 9 => .val (.slice ad ln cpa) | _ => .free)) 224 rfl (by decide +kernel) 10 (by decide) (by decide +kernel) (KS_mono _) ?_ ?_
              · refine AllFrom.cons (fun a' w' hg hk hd => ?_) (AllFrom.cons (fun a' w' hg hk hd => ?_) (AllFrom.cons (fun a' w' hg hk hd => ?_) (AllFrom.cons (fun a' w' hg hk hd => ?_) (AllFrom.cons (fun a' w' hg hk hd => ?_) (AllFrom.cons (fun a' w' hg hk hd => ?_) (AllFrom.cons (fun a' w' hg hk hd => ?_) (AllFrom.cons (fun a' w' hg hk hd => ?_) (AllFrom.cons (fun a' w' hg hk hd => ?_) (AllFrom.cons (fun a' w' hg hk hd => ?_) AllFrom.nil)))))))))
                · -- 0: Op.fieldAddr 33 (Operand.tmp 8) 0
                  have e8 : a'.eval (.tmp 8) = .pointer (some ⟨E, 0, none⟩) := hk.at 8 (by decide +kernel)
                  refine ⟨wanted_none rfl, fun Q => ?_⟩
                  clear hd hk
                  exact wp_value (.pointer (some ⟨E, 0, none⟩)) (by simp only [execOp, e8]; go_simp) (KS_mkv rfl rfl)
                · -- 1: Op.load 3 (Operand.tmp 44)
                  have e44 : a'.eval (.tmp 44) = .pointer (some ⟨E, 0, none⟩) := KS_val (Deps.val hd 0 44 (by decide +kernel)) rfl
                  refine ⟨wanted_none rfl, fun Q => ?_⟩
                  have c := (B4.out.kept hg).cell (j := 0) rfl
                  simp only at c
                  clear hd hk
                  exact wp_value (.int .i64 0) (by simp only [execOp, e44]; go_simp) (KS_mkv rfl rfl)
                · -- 2: Op.binOp BinOp.eql 3 (Operand.tmp 45) (Operand.const (Value.
                  have e45 : a'.eval (.tmp 45) = .int .i64 0 := KS_val (Deps.val hd 1 45 (by decide +kernel)) rfl
                  refine ⟨wanted_none rfl, fun Q => ?_⟩
                  clear hd hk
                  exact wp_value (.bool true) (by simp only [execOp, e45]; go_simp) (KS_mkv rfl rfl)
                · -- 3: Op.move (Operand.tmp 46)
                  have e46 : a'.eval (.tmp 46) = .bool true := KS_val (Deps.val hd 2 46 (by decide +kernel)) rfl
                  refine ⟨wanted_none rfl, fun Q => ?_⟩
                  exact wp_value _ (by simp only [execOp, e46]; rfl) (KS_mkv rfl rfl)
                · -- 4: Op.move (Operand.tmp 5)
                  have e5 : a'.eval (.tmp 5) = .pointer (some ⟨D, 0, none⟩) := hk.at 5 (by decide +kernel)
                  refine ⟨wanted_some rfl 47 rfl (KS_val (Deps.val hd 3 47 (by decide +kernel)) rfl), fun Q => ?_⟩
                  exact wp_value _ (by simp only [execOp, e5]; rfl) (KS_mkv rfl rfl)
                · -- 5: Op.move (Operand.tmp 5)
                  have e5 : a'.eval (.tmp 5) = .pointer (some ⟨D, 0, none⟩) := hk.at 5 (by decide +kernel)
                  refine ⟨wanted_some rfl 47 rfl (KS_val (Deps.val hd 3 47 (by decide +kernel)) rfl), fun Q => ?_⟩
                  exact wp_value _ (by simp only [execOp, e5]; rfl) (KS_mkv rfl rfl)
                · -- 6: Op.call ( callee := Callee.value (Operand.func 13), args := 
                  have e49 : a'.eval (.tmp 49) = .pointer (some ⟨D, 0, none⟩) := KS_val (Deps.val hd 5 49 (by decide +kernel)) rfl
                  refine ⟨wanted_some rfl 47 rfl (KS_val (Deps.val hd 3 47 (by decide +kernel)) rfl), fun Q => ?_⟩
                  refine wp_call 13 _ (run_enter 13 _ _ rfl (by kernel_rfl)) ?_
                  simp only [List.map_toArray, List.map_nil, List.map_cons, e49]
                  refine (S4.out.kept hg).last.mono ?_
                  rintro e_ w_ ⟨rfl, hw_⟩
                  subst w_
                  exact ⟨_, rfl, KS_mkv rfl rfl, Gr.refl _⟩
                · -- 7: Op.binOp BinOp.add 3 (Operand.tmp 50) (Operand.const (Value.
                  have e50 : a'.eval (.tmp 50) = .int .i64 s.last := KS_val (Deps.val hd 6 50 (by decide +kernel)) rfl
                  refine ⟨wanted_some rfl 47 rfl (KS_val (Deps.val hd 3 47 (by decide +kernel)) rfl), fun Q => ?_⟩
                  exact wp_value (.int .i64 (s.last + 1)) (by simp only [execOp, e50]; go_simp; exact wr64 (by have := S4.out.bnd; omega) (by have := S4.out.bnd; omega)) (KS_mkv rfl rfl)
                · -- 8: Op.fieldAddr 33 (Operand.tmp 8) 3
                  have e8 : a'.eval (.tmp 8) = .pointer (some ⟨E, 0, none⟩) := hk.at 8 (by decide +kernel)
                  refine ⟨wanted_some rfl 47 rfl (KS_val (Deps.val hd 3 47 (by decide +kernel)) rfl), fun Q => ?_⟩
                  clear hd hk
                  exact wp_value (.pointer (some ⟨E, 3, none⟩)) (by simp only [execOp, e8]; go_simp) (KS_mkv rfl rfl)
                · -- 9: Op.load 31 (Operand.tmp 52)
                  have e52 : a'.eval (.tmp 52) = .pointer (some ⟨E, 3, none⟩) := KS_val (Deps.val hd 8 52 (by decide +kernel)) rfl
                  refine ⟨wanted_some rfl 47 rfl (KS_val (Deps.val hd 3 47 (by decide +kernel)) rfl), fun Q => ?_⟩
                  have c := (B4.out.kept hg).cell (j := 3) rfl
                  simp only at c
                  clear hd hk
                  exact wp_value (.slice ad ln cpa) (by simp only [execOp, e52]; go_simp) (KS_mkv rfl rfl)
              · intro a' w_ hsz hdf hk hall hg
                have e44 : a'.eval (.tmp 44) = .pointer (some ⟨E, 0, none⟩) := KS_val (hall 0 _ 44 (by decide) rfl rfl) rfl
                have e45 : a'.eval (.tmp 45) = .int .i64 0 := KS_val (hall 1 _ 45 (by decide) rfl rfl) rfl
                have e46 : a'.eval (.tmp 46) = .bool true := KS_val (hall 2 _ 46 (by decide) rfl rfl) rfl
                have e47 : a'.eval (.tmp 47) = .bool true := KS_val (hall 3 _ 47 (by decide) rfl rfl) rfl
                have e48 : a'.eval (.tmp 48) = .pointer (some ⟨D, 0, none⟩) := KS_val (hall 4 _ 48 (by decide) rfl rfl) rfl
                have e49 : a'.eval (.tmp 49) = .pointer (some ⟨D, 0, none⟩) := KS_val (hall 5 _ 49 (by decide) rfl rfl) rfl
                have e50 : a'.eval (.tmp 50) = .int .i64 s.last := KS_val (hall 6 _ 50 (by decide) rfl rfl) rfl
                have e51 : a'.eval (.tmp 51) = .int .i64 (s.last + 1) := KS_val (hall 7 _ 51 (by decide) rfl rfl) rfl
                have e52 : a'.eval (.tmp 52) = .pointer (some ⟨E, 3, none⟩) := KS_val (hall 8 _ 52 (by decide) rfl rfl) rfl
                have e53 : a'.eval (.tmp 53) = .slice ad ln cpa := KS_val (hall 9 _ 53 (by decide) rfl rfl) rfl
                obtain ⟨x54, e54⟩ : ∃ v, a'.eval (.tmp 54) = v := ⟨_, rfl⟩
                obtain ⟨x55, e55⟩ : ∃ v, a'.eval (.tmp 55) = v := ⟨_, rfl⟩
                obtain ⟨x56, e56⟩ : ∃ v, a'.eval (.tmp 56) = v := ⟨_, rfl⟩
                have hr_ := (HA.out.r.kept ((S4.out.kept hg).lo))
                simp only at hr_
                refine wpSeqW_call (wanted_some rfl 47 rfl e47) 24 _ (run_enter 24 _ _ rfl (by kernel_rfl)) ?_
                simp only [List.map_toArray, List.map_nil, List.map_cons, e48, e51, e53]
                refine ((S4.out.kept hg).install (by omega) hr_ HL60.out LOW.out (s.last + 1)).mono ?_
                rintro e_ w8 ⟨rfl, hls_, hsm_⟩
                refine ⟨_, rfl, ?_⟩
                rw [hq]
                have S8 := hide hls_
                have B8 := hide ((B4.out.kept hg).same hsm_ (.inr rfl))
                have O8 := hide ((OK4.out.kept hg).same hsm_ (fun _ h => .inl h))
                have ha := act_puts 224 rfl hsz hdf hk [44, 45, 46, 47, 48, 49, 50, 51, 52, 53, 54, 55, 56] (by decide +kernel)
                simp only [puts, List.foldl_cons, List.foldl_nil, e44, e45, e46, e47, e48, e49, e50, e51, e52, e53, e54, e55, e56] at ha
                simp only [Act.put, List.setIfInBounds_toArray, List.set_cons_succ, List.set_cons_zero] at ha
                clear hall hk hsz hdf hls_ hsm_ hr_ hg e44 e45 e46 e47 e48 e49 e50 e51 e52 e53 e54 e55 e56
                subst ha
                simp only [Act.put, List.setIfInBounds_toArray, List.set_cons_succ, List.set_cons_zero]
                refine wpSeqW_value rfl (.bool true) (by simp only [execOp]; go_simp) ?_
                simp only [Act.put, List.setIfInBounds_toArray, List.set_cons_succ, List.set_cons_zero]
                refine wpSeqW_value rfl (.bool true) (by simp only [execOp]; go_simp) ?_
                simp only [Act.put, List.setIfInBounds_toArray, List.set_cons_succ, List.set_cons_zero, wpSeqW]
                have KI8 := hide (HKI.out.install hq)
                obtain ⟨s8, HS8⟩ : ∃ y, Hid (instP s (s.last + 1) pl = y) := ⟨_, rfl⟩
                rw [HS8.out] at S8 KI8
                have d3 := B8.out.cell (j := 3) rfl
                simp only at d3
                have hr8 := hide (HA.out.r.kept S8.out.lo)
                simp only at hr8
                have hln : Hid (pl.length = ln) := hr8.out.len
                have hl60 : ln ≤ 60 := by rw [← hln.out]; exact HL60.out
                clear hq
                obtain ⟨g0, rfl⟩ : ∃ g0, g0 = gk := ⟨gk, rfl⟩
                go_wp2_with fail
                go_loopg [6, 60] ln (fun g y x wr => ∃ (j : Nat) (vj : Value), g + j = ln ∧ y = vj ∧ x = .int .i64 (j : Int) ∧ Hid (LS w1 wr D (i + 1) s8 (fun b => vj.ownBlock = some b)) ∧ Hid (OwnG KE wr w1.heap.size 9 vj (Ks ++ (pl.take j).map (·.1))))
                case atStart => exact ⟨0, vk, by omega, rfl, rfl, S8.out.less (fun _ h => .inl h), (show OwnG _ _ _ _ _ _ by rw [List.take_zero, List.map_nil, List.append_nil]; exact O8.out)⟩
                case round =>
                  obtain ⟨j, vj, hgj, hvj, rfl, SJ, OJ⟩ := hrel
                  replace hvj := hvj.symm
                  subst hvj
                  by_cases hlj : j < ln
                  · have q3 : (j : Int) < (ln : Int) := by omega
                    have hrj := hide (HA.out.r.kept SJ.out.lo)
                    simp only at hrj
                    obtain ⟨b2, off2, rfl, hlb9, hx⟩ := (hrj.out).nth (by omega)
                    have hlt' : j < pl.length := by rw [hln.out]; exact hlj
                    have hr : wr.rangeAt b2 (off2 + j * 3) (PC pl[j]) := hx j hlt'
                    obtain ⟨pp, HPpp⟩ : ∃ p, Hid (pl[j] = p) := ⟨pl[j], (show pl[j] = pl[j] from rfl)⟩
                    rw [HPpp.out] at hr
                    clear hx hlb9
                    go_upto_region 12 with (first
                      | (refine wpList_load_mid rfl 49 _ rfl b2 (off2 + j * 3) rfl (PC pp) _ hr Try.underlying49 rfl Try.size49 ?_)
                      | (refine wpList_store_new rfl 49 _ _ rfl wr _ (PC pp).toArray _ rfl rfl rfl Try.size49 rfl (all_one (PC_one pp)) ?_)
                      | fail)
                    obtain ⟨F, HF⟩ : ∃ E, Hid (wr.heap.size = E) := ⟨_, rfl⟩
                    rw [HF.out]
                    obtain ⟨w9, hw4⟩ : ∃ x, x = wr.alloc (.cells (PC pp).toArray 49 (0, 0)) := ⟨_, rfl⟩
                    rw [← hw4]
                    have G9 : Hid (Below wr.heap.size wr w9) := (show Below _ _ _ by rw [hw4]; exact (Below.refl _ _).alloc (Nat.le_refl _) _)
                    have B9 : Hid (Blk w9 F 49 (PC pp)) := (show Blk _ _ _ _ by rw [hw4, ← HF.out]; exact Blk.new wr 49 (PC pp))
                    clear hw4 hr
                    have S9 := hide (SJ.out.kept G9.out)
                    have O9 := hide (OJ.out.kept G9.out)
                    obtain ⟨ky, va, dd⟩ := pp
                    have c0 := B9.out.cell (j := 0) rfl
                    simp only at c0
                    have A9 : Hid (Below w9.heap.size w9 (w9.alloc (.cells #[.string ky] 9 (0, 0)))) := (Below.refl _ _).alloc (Nat.le_refl _) _
                    have OA : Hid (OwnG KE (w9.alloc (.cells #[.string ky] 9 (0, 0))) w1.heap.size 9 vj (Ks ++ (pl.take j).map (·.1))) := O9.out.kept A9.out
                    have RA : Hid (RdG KE (w9.alloc (.cells #[.string ky] 9 (0, 0))) (.slice (some ⟨w9.heap.size, 0, none⟩) 1 1) [ky]) := rdG_one (E := KE) w9 9 ky
                    have hkl : (Ks ++ (pl.take j).map (·.1)).length ≤ 1000 := by
                      have h1 := HKL.out
                      have h2 : sumL (L.take i) ≤ sumL L := sumL_le L i
                      have h3 := HLI.out.2.1
                      have h4 := HL60.out
                      rw [List.length_append, List.length_map, List.length_take]
                      omega
                    have hb1 : Hid (((Ks ++ (pl.take j).map (·.1)).length + [ky].length) * 16 ≤ 140737488355328) := (show ((Ks ++ (pl.take j).map (·.1)).length + 1) * 16 ≤ 140737488355328 by omega)
                    have hb2 : Hid ((Ks ++ (pl.take j).map (·.1)).length + [ky].length ≤ maxLen) := (show (Ks ++ (pl.take j).map (·.1)).length + 1 ≤ maxLen by simp only [maxLen]; omega)
                    have hb3 : Hid (w1.heap.size ≤ (w9.alloc (.cells #[.string ky] 9 (0, 0))).heap.size) := (show w1.heap.size ≤ _ from Nat.le_trans S9.out.lo.size A9.out.size)
                    clear hkl
                    go_wp2_with (first
                      | (at_builtin; refine wpList_append_at _ rfl _ _ 47 47 rfl w1.heap.size 9 (.string ⟨#[]⟩) 16 Try.underlying47 Try.info9 rfl _ _ rfl OA.out _ [ky] rfl RA.out 9 Try.underlying47 hb1.out hb2.out hb3.out ?_; intro v7 w7 o7; have O7 := hide o7.1; have G7 := hide o7.2; clear o7)
                      | fail)
                    have S7 := hide (((S9.out.kept A9.out).grown OA.out (Nat.le_refl _) (fun _ h => h) G7.out.1 O7.out G7.out.2).less (O' := fun b => v7.ownBlock = some b) (fun _ h => .inr h))
                    have O7' : Hid (OwnG KE w7 w1.heap.size 9 v7 (Ks ++ (pl.take (j + 1)).map (·.1))) := (show OwnG _ _ _ _ _ _ by
                      rw [List.take_succ_eq_append_getElem hlt', HPpp.out, List.map_append, ← List.append_assoc]
                      exact O7.out)
                    clear A9 OA RA hb1 hb2 hb3 O7 G7
                    go_wp2_with fail
                    go_roundg (gk - 1)
                    case measure => omega
                    case rel => exact ⟨j + 1, v7, by omega, rfl, by go_num, S7, O7'⟩
                  · obtain rfl : j = ln := by omega
                    have q3 : ¬ (j : Int) < (j : Int) := by omega
                    have NX : Hid ((Ks ++ pl.map (·.1)).length ≤ sumL (L.take (i + 1))) := (show _ ≤ _ by have := HKL.out; rw [HSU.out, List.length_append, List.length_map]; omega)
                    have OX : Hid (OwnG KE wr w1.heap.size 9 vj (Ks ++ pl.map (·.1))) := (show OwnG _ _ _ _ _ _ by
                      have := OJ.out
                      rw [List.take_of_length_le (by rw [hln.out]; exact Nat.le_refl _)] at this
                      exact this)
                    go_wp2_with fail
                    go_roundg (g0 - 1)
                    case measure => omega
                    case rel => exact ⟨i + 1, s8, vj, Ks ++ pl.map (·.1), by omega, rfl, by go_num, SJ, OX, NX, KI8⟩
          · have c0 := cell_regrown (B4.out.cell (j := 0) rfl)
            simp only at c0
            have q0 : (kd == 0) = false := by simp [hk0]
            simp only [Act.put]
            refine wp_region_quiet_below Try.mixed (by kernel_rfl) ?_
            repeat (go_big_quiet_step (fail))
            refine wpQuiet_nil ?_
            intro w5' hw5
            have D5 : Hid (Below w4.heap.size w4 w5') := (show Below _ _ _ by obtain ⟨⟨dq, osq⟩, rfl⟩ := hw5; exact below_regrown w4 dq osq)
            clear hw5 c0
            go_wp2_with fail
            go_roundg (gk - 1)
            case measure => omega
            case rel => exact ⟨i + 1, s, vk, Ks, by omega, rfl, by go_num, ((S4.out.kept D5.out).mono (by omega)).less (fun _ h => .inl h), OK4.out.kept D5.out, NX0, HKI⟩
        · obtain rfl : i = m := by omega
          have q2 : ¬ (i : Int) < (i : Int) := by omega
          obtain ⟨kdx, xn, xm, ad, ln, cpa, pl, fr, tt⟩ := x
          obtain ⟨ks, hinv, -⟩ := SR.out.good
          have HI := hide hinv
          have hks4 : ks.length ≤ 400 := by
            have h1 := HKI.out.len hinv
            have h2 := HKL.out
            have h3 := sumL_le L i
            have h4 := HLI.out.2.1
            omega
          have hbn := SR.out.bnd
          have hm0 : mayP s s.last = 0 := may0 (by omega) (Int.le_refl _)
          obtain ⟨Lr, HLr⟩ : ∃ l, Hid (scanL s ks fr tt s.last = l) := ⟨_, rfl⟩
          have hll : Lr.length ≤ 400 := by rw [← HLr.out]; exact Nat.le_trans scan_len hks4
          have HSC : Hid (scanS s ks fr tt s.last 1000 = (Lr, 0)) := (show _ = _ by
            unfold scanS
            rw [if_pos hm0, HLr.out, List.take_of_length_le (by show Lr.length ≤ 1000; omega)])
          have HSC2 : Hid (scanS s ks fr tt s.last 2 = (Lr.take 2, 0)) := (show _ = _ by
            unfold scanS
            rw [if_pos hm0, HLr.out]
            rfl)
          have BX := hide (B1.out.kept SR.out.lo)
          have RKr := hide OR.out.rd
          clear hinv hm0
          go_wp2_with fail
          refine wp_region_inv Try.mixed (KS (fun i_ => match i_ with | 0 | 5 => .val (.pointer (some ⟨D, 0, none⟩)) | 1 => .val (.pointer (some ⟨X, 4, none⟩)) | 2 => .val (.string fr) | 3 => .val (.pointer (some ⟨X, 5, none⟩)) | 4 => .val (.string tt) | 6 => .val (.int .i64 s.last) | 7 | 8 => .of (fun W x => ∃ v', x = .tuple #[v', .int .i64 0] ∧ RdG PE W v' (Lr)) (fun _ _ _ hg h => by obtain ⟨v', h1, h2⟩ := h; exact ⟨v', h1, h2.kept hg⟩) | 9 | 11 => .of (fun W x => RdG PE W x (Lr)) (fun _ _ _ hg h => RdG.kept h hg) | 10 | 12 => .val (.int .i64 0) | _ => .free)) 224 rfl (by decide +kernel) (KS_mono _) ?_ ?_
          · refine AllFrom.cons (fun a' w' hg hk hd => ?_) (AllFrom.cons (fun a' w' hg hk hd => ?_) (AllFrom.cons (fun a' w' hg hk hd => ?_) (AllFrom.cons (fun a' w' hg hk hd => ?_) (AllFrom.cons (fun a' w' hg hk hd => ?_) (AllFrom.cons (fun a' w' hg hk hd => ?_) (AllFrom.cons (fun a' w' hg hk hd => ?_) (AllFrom.cons (fun a' w' hg hk hd => ?_) (AllFrom.cons (fun a' w' hg hk hd => ?_) (AllFrom.cons (fun a' w' hg hk hd => ?_) (AllFrom.cons (fun a' w' hg hk hd => ?_) (AllFrom.cons (fun a' w' hg hk hd => ?_) (AllFrom.cons (fun a' w' hg hk hd => ?_) AllFrom.nil))))))))))))
            · -- 0: Op.move (Operand.tmp 5)
              intro Q
              have e5 : a'.eval (.tmp 5) = .pointer (some ⟨D, 0, none⟩) := hk.at 5 (by decide +kernel)
              exact wp_value _ (by simp only [execOp, e5]; rfl) (KS_mkv rfl rfl)
            · -- 1: Op.fieldAddr 33 (Operand.tmp 3) 4
              intro Q
              have e3 : a'.eval (.tmp 3) = .pointer (some ⟨X, 0, none⟩) := hk.at 3 (by decide +kernel)
              clear hd hk
              exact wp_value (.pointer (some ⟨X, 4, none⟩)) (by simp only [execOp, e3]; go_simp) (KS_mkv rfl rfl)
            · -- 2: Op.load 9 (Operand.tmp 73)
              intro Q
              have e73 : a'.eval (.tmp 73) = .pointer (some ⟨X, 4, none⟩) := KS_val (Deps.val hd 1 73 (by decide +kernel)) rfl
              have c := (BX.out.kept hg).cell (j := 4) rfl
              simp only at c
              clear hd hk
              exact wp_value (.string fr) (by simp only [execOp, e73]; go_simp) (KS_mkv rfl rfl)
            · -- 3: Op.fieldAddr 33 (Operand.tmp 3) 5
              intro Q
              have e3 : a'.eval (.tmp 3) = .pointer (some ⟨X, 0, none⟩) := hk.at 3 (by decide +kernel)
              clear hd hk
              exact wp_value (.pointer (some ⟨X, 5, none⟩)) (by simp only [execOp, e3]; go_simp) (KS_mkv rfl rfl)
            · -- 4: Op.load 9 (Operand.tmp 75)
              intro Q
              have e75 : a'.eval (.tmp 75) = .pointer (some ⟨X, 5, none⟩) := KS_val (Deps.val hd 3 75 (by decide +kernel)) rfl
              have c := (BX.out.kept hg).cell (j := 5) rfl
              simp only at c
              clear hd hk
              exact wp_value (.string tt) (by simp only [execOp, e75]; go_simp) (KS_mkv rfl rfl)
            · -- 5: Op.move (Operand.tmp 5)
              intro Q
              have e5 : a'.eval (.tmp 5) = .pointer (some ⟨D, 0, none⟩) := hk.at 5 (by decide +kernel)
              exact wp_value _ (by simp only [execOp, e5]; rfl) (KS_mkv rfl rfl)
            · -- 6: Op.call ( callee := Callee.value (Operand.func 13), args := 
              intro Q
              have e77 : a'.eval (.tmp 77) = .pointer (some ⟨D, 0, none⟩) := KS_val (Deps.val hd 5 77 (by decide +kernel)) rfl
              refine wp_call 13 _ (run_enter 13 _ _ rfl (by kernel_rfl)) ?_
              simp only [List.map_toArray, List.map_nil, List.map_cons, e77]
              refine (SR.out.kept hg).last.mono ?_
              rintro e_ w_ ⟨rfl, hw_⟩
              subst w_
              exact ⟨_, rfl, KS_mkv rfl rfl, Gr.refl _⟩
            · -- 7: Op.call ( callee := Callee.value (Operand.func 23), args := 
              intro Q
              have e72 : a'.eval (.tmp 72) = .pointer (some ⟨D, 0, none⟩) := KS_val (Deps.val hd 0 72 (by decide +kernel)) rfl
              have e74 : a'.eval (.tmp 74) = .string fr := KS_val (Deps.val hd 2 74 (by decide +kernel)) rfl
              have e76 : a'.eval (.tmp 76) = .string tt := KS_val (Deps.val hd 4 76 (by decide +kernel)) rfl
              have e78 : a'.eval (.tmp 78) = .int .i64 s.last := KS_val (Deps.val hd 6 78 (by decide +kernel)) rfl
              refine wp_call 23 _ (run_enter 23 _ _ rfl (by kernel_rfl)) ?_
              simp only [List.map_toArray, List.map_nil, List.map_cons, e72, e74, e76, e78]
              have hsc := (SR.out.kept hg).scan (by omega) HI.out fr tt s.last 1000
              rw [HSC.out] at hsc
              refine hsc.mono ?_
              rintro e_ w_ ⟨v', rfl, ho, hb⟩
              exact ⟨_, rfl, KS_mko rfl ⟨v', rfl, ho.rd⟩, hb⟩
            · -- 8: Op.move (Operand.tmp 79)
              intro Q
              have r79 := KS_of (Deps.val hd 7 79 (by decide +kernel)) rfl
              exact wp_value (a'.eval (.tmp 79)) (by simp only [execOp]; rfl) (KS_mko rfl r79)
            · -- 9: Op.extract (Operand.tmp 71) 0
              intro Q
              have r71 := KS_of (Deps.val hd 8 71 (by decide +kernel)) rfl
              obtain ⟨v', h1, h2⟩ := r71
              exact wp_value v' (by simp only [execOp, h1]; go_simp) (KS_mko rfl h2)
            · -- 10: Op.extract (Operand.tmp 71) 1
              intro Q
              have r71 := KS_of (Deps.val hd 8 71 (by decide +kernel)) rfl
              obtain ⟨v', h1, h2⟩ := r71
              exact wp_value (.int .i64 0) (by simp only [execOp, h1]; go_simp) (KS_mkv rfl rfl)
            · -- 11: Op.assign (Operand.tmp 80)
              intro Q
              have r80 := KS_of (Deps.val hd 9 80 (by decide +kernel)) rfl
              exact wp_value (a'.eval (.tmp 80)) (by simp only [execOp]; rfl) (KS_mko rfl r80)
            · -- 12: Op.assign (Operand.tmp 81)
              intro Q
              have e81 : a'.eval (.tmp 81) = .int .i64 0 := KS_val (Deps.val hd 10 81 (by decide +kernel)) rfl
              exact wp_value _ (by simp only [execOp, e81]; rfl) (KS_mkv rfl rfl)
          · intro a' wA hsz hdf hk hall hg
            have e72 : a'.eval (.tmp 72) = .pointer (some ⟨D, 0, none⟩) := KS_val (hall 0 _ 72 rfl rfl) rfl
            have e73 : a'.eval (.tmp 73) = .pointer (some ⟨X, 4, none⟩) := KS_val (hall 1 _ 73 rfl rfl) rfl
            have e74 : a'.eval (.tmp 74) = .string fr := KS_val (hall 2 _ 74 rfl rfl) rfl
            have e75 : a'.eval (.tmp 75) = .pointer (some ⟨X, 5, none⟩) := KS_val (hall 3 _ 75 rfl rfl) rfl
            have e76 : a'.eval (.tmp 76) = .string tt := KS_val (hall 4 _ 76 rfl rfl) rfl
            have e77 : a'.eval (.tmp 77) = .pointer (some ⟨D, 0, none⟩) := KS_val (hall 5 _ 77 rfl rfl) rfl
            have e78 : a'.eval (.tmp 78) = .int .i64 s.last := KS_val (hall 6 _ 78 rfl rfl) rfl
            have r79 := KS_of (hall 7 _ 79 rfl rfl) rfl
            obtain ⟨x79, e79⟩ : ∃ v, a'.eval (.tmp 79) = v := ⟨_, rfl⟩
            rw [e79] at r79
            have r71 := KS_of (hall 8 _ 71 rfl rfl) rfl
            obtain ⟨x71, e71⟩ : ∃ v, a'.eval (.tmp 71) = v := ⟨_, rfl⟩
            rw [e71] at r71
            have r80 := KS_of (hall 9 _ 80 rfl rfl) rfl
            obtain ⟨x80, e80⟩ : ∃ v, a'.eval (.tmp 80) = v := ⟨_, rfl⟩
            rw [e80] at r80
            have e81 : a'.eval (.tmp 81) = .int .i64 0 := KS_val (hall 10 _ 81 rfl rfl) rfl
            have r11 := KS_of (hall 11 _ 11 rfl rfl) rfl
            obtain ⟨x11, e11⟩ : ∃ v, a'.eval (.tmp 11) = v := ⟨_, rfl⟩
            rw [e11] at r11
            have e12 : a'.eval (.tmp 12) = .int .i64 0 := KS_val (hall 12 _ 12 rfl rfl) rfl
            have ha := act_puts 224 rfl hsz hdf hk [72, 73, 74, 75, 76, 77, 78, 79, 71, 80, 81, 11, 12] (by decide +kernel)
            simp only [puts, List.foldl_cons, List.foldl_nil, e72, e73, e74, e75, e76, e77, e78, e79, e71, e80, e81, e11, e12] at ha
            simp only [Act.put, List.setIfInBounds_toArray, List.set_cons_succ, List.set_cons_zero] at ha
            have GA := hide (show Below wr.heap.size wr wA from hg)
            have RRA := hide r11
            clear hall hk hsz hdf hg e72 e73 e74 e75 e76 e77 e78 e79 e71 e80 e81 e11 e12 r79 r71 r80 r11
            subst ha
            generalize x11 = v_wA at RRA ⊢
            have SA := hide (SR.out.kept GA.out)
            have BXA := hide (BX.out.kept GA.out)
            have RKA := hide (RKr.out.kept GA.out)
            clear GA BX RKr
            obtain ⟨a11, c11, e11⟩ := RRA.out.slice
            obtain ⟨ak, ck, ek⟩ := RKA.out.slice
            obtain ⟨n1, HN1⟩ : ∃ q, Hid (Lr.length = q) := ⟨_, rfl⟩
            obtain ⟨nk, HNK⟩ : ∃ q, Hid (Ks.length = q) := ⟨_, rfl⟩
            rw [HN1.out] at e11 hll
            rw [HNK.out] at ek
            subst e11 ek
            have hnk : nk ≤ 400 := by have h2 := HKL.out; have h3 := sumL_le L i; have h4 := HLI.out.2.1; rw [HNK.out] at h2; omega
            have LA : Hid (Below w.heap.size w wA) := L1.out.trans (SA.out.lo.mono L1.out.size)
            have hfr : fr.size ≤ 300 := HLX.out.2.1
            have htt : tt.size ≤ 300 := HLX.out.2.2
            go_wp2_with fail
            go_loopg [86] n1 (fun g x wr => ∃ (j : Nat), g + j = n1 ∧ x = .int .i64 (j : Int) ∧ Hid (Below wA.heap.size wA wr))
            case atStart => exact ⟨0, by omega, rfl, Below.refl _ _⟩
            case round =>
              obtain ⟨j, hgj, rfl, LJ⟩ := hrel
              by_cases hlj : j < n1
              · have q3 : (j : Int) < (n1 : Int) := by omega
                have hrj := hide (RRA.out.kept LJ.out)
                obtain ⟨b2, off2, rfl, hlb9, hx⟩ := (hrj.out).nth (by omega)
                have hlt' : j < Lr.length := by rw [HN1.out]; exact hlj
                have hr : wr.rangeAt b2 (off2 + j * 3) (PC Lr[j]) := hx j hlt'
                obtain ⟨pp, HPpp⟩ : ∃ p, Hid (Lr[j] = p) := ⟨Lr[j], (show Lr[j] = Lr[j] from rfl)⟩
                rw [HPpp.out] at hr
                clear hx hlb9
                go_upto_region 21 with (first
                  | (refine wpList_load_mid rfl 49 _ rfl b2 (off2 + j * 3) rfl (PC pp) _ hr Try.underlying49 rfl Try.size49 ?_)
                  | (refine wpList_store_new rfl 49 _ _ rfl wr _ (PC pp).toArray _ rfl rfl rfl Try.size49 rfl (all_one (PC_one pp)) ?_)
                  | fail)
                obtain ⟨F, HF⟩ : ∃ E, Hid (wr.heap.size = E) := ⟨_, rfl⟩
                rw [HF.out]
                obtain ⟨w9, hw4⟩ : ∃ x, x = wr.alloc (.cells (PC pp).toArray 49 (0, 0)) := ⟨_, rfl⟩
                rw [← hw4]
                have G9 : Hid (Below wr.heap.size wr w9) := (show Below _ _ _ by rw [hw4]; exact (Below.refl _ _).alloc (Nat.le_refl _) _)
                have B9 : Hid (Blk w9 F 49 (PC pp)) := (show Blk _ _ _ _ by rw [hw4, ← HF.out]; exact Blk.new wr 49 (PC pp))
                clear hw4 hr
                have S9 := hide ((SA.out.kept LJ.out).kept G9.out)
                have L9 : Hid (Below wA.heap.size wA w9) := LJ.out.trans (G9.out.mono LJ.out.size)
                have hin : pp ∈ scanL s ks fr tt s.last := by rw [HLr.out, ← HPpp.out]; exact List.getElem_mem hlt'
                obtain ⟨ky, va, dd⟩ := pp
                obtain ⟨i1, i2, i3, i4, i5⟩ := scan_in hin
                simp only at i1 i2 i3 i4 i5
                subst i5
                have hkm : ky.size ≤ maxLen := by
                  have := HKI.out.2 ky (HKI.out.1 ky ((HI.out.mem ky).1 i1))
                  simp only [maxLen]
                  omega
                have HG : Hid (getS s ky s.last = (va, 0)) := (show _ = _ by rw [getS_yes (by omega) (Int.le_refl _) i3, i4])
                have h1 : lt ky fr = false ∧ lt ky tt = true := by
                  unfold inr at i2
                  simpa using i2
                have q5 : Op.bytesLess ky.toList fr.toList = false := h1.1
                have q6 : ∀ W, (binOp .geq 9 (.string ky) (.string tt)).run Try.prog W = .ok (.bool false) W := fun W => by rw [sge, h1.2]; rfl
                have cG := quiet_of (w := w9) (fun W hW => (S9.out.kept hW).get (by omega) ky hkm s.last)
                have cL := quiet_of (w := w9) (fun W hW => (S9.out.kept hW).lastB)
                rw [HG.out] at cG
                have k0 := cell_regrown (B9.out.cell (j := 0) rfl)
                simp only at k0 cG
                clear hin i1 i2 i3 i4 h1
                simp only [Act.put]
                refine wp_region_quiet_below Try.mixed (by kernel_rfl) ?_
                repeat (go_big_quiet_step (first | with_reducible exact cL _ _ | with_reducible exact cG _ _))
                refine wpQuiet_nil ?_
                intro w10 hw10
                have D10 : Hid (Below w9.heap.size w9 w10) := (show Below _ _ _ by obtain ⟨⟨dq, osq⟩, rfl⟩ := hw10; exact below_regrown w9 dq osq)
                have L10 : Hid (Below wA.heap.size wA w10) := L9.out.trans (D10.out.mono L9.out.size)
                have B10 := hide (B9.out.kept D10.out)
                have BX10 := hide (BXA.out.kept L10.out)
                clear hw10 cG cL k0
                have k0 := cell_regrown (B10.out.cell (j := 0) rfl)
                have k1 := cell_regrown (B10.out.cell (j := 1) rfl)
                have k2 := cell_regrown (B10.out.cell (j := 2) rfl)
                have x4 := cell_regrown (BX10.out.cell (j := 4) rfl)
                have x5 := cell_regrown (BX10.out.cell (j := 5) rfl)
                simp only at k0 k1 k2 x4 x5
                by_cases hj0 : j = 0
                · subst hj0
                  have q7 : decide ((0 : Int) < ((0 : Nat) : Int)) = false := by simp
                  go_wp2_with fail
                  refine wp_region_quiet_below Try.mixed (by kernel_rfl) ?_
                  repeat (go_big_quiet_step (fail))
                  refine wpQuiet_nil ?_
                  intro w11 hw11
                  have D11 : Hid (Below w10.heap.size w10 w11) := (show Below _ _ _ by obtain ⟨⟨dq, osq⟩, rfl⟩ := hw11; exact below_regrown w10 dq osq)
                  have L11 : Hid (Below wA.heap.size wA w11) := L10.out.trans (D11.out.mono L10.out.size)
                  clear hw11 k0 k1 k2 x4 x5
                  go_wp2_with fail
                  go_roundg (gk - 1)
                  case measure => omega
                  case rel => exact ⟨0 + 1, by omega, by go_num, L11⟩
                · have q7 : decide ((0 : Int) < (j : Int)) = true := by simp; omega
                  obtain ⟨b3, off3, e3, hlb3, hx⟩ := (RRA.out.kept L10.out).nth (by omega)
                  have hj1 : j - 1 < Lr.length := by omega
                  have hc : w10.cell? ⟨b3, off3 + (j - 1) * 3, none⟩ = some (.string (Lr[j - 1]).1) := hx (j - 1) hj1 0 (.string (Lr[j - 1]).1) rfl
                  cases e3
                  obtain ⟨kp, HKP⟩ : ∃ k, Hid ((Lr[j - 1]).1 = k) := ⟨(Lr[j - 1]).1, (show _ = _ from rfl)⟩
                  have hup : lt kp ky = true := by
                    have hq : j - 1 + 1 < (scanL s ks fr tt s.last).length := by rw [HLr.out]; omega
                    have := scan_rise HI.out hq
                    simp only [HLr.out] at this
                    rw [HKP.out] at this
                    have e : Lr[j - 1 + 1]'(by omega) = Lr[j] := by congr 1; omega
                    rw [e, HPpp.out] at this
                    exact this
                  rw [HKP.out] at hc
                  have hcr := cell_regrown hc
                  have q8 : ∀ W, (binOp .leq 9 (.string ky) (.string kp)).run Try.prog W = .ok (.bool false) W := fun W => by rw [sle, hup]; rfl
                  have q9 : IntKind.i64.wrap ((j : Int) - 1) = ((j - 1 : Nat) : Int) := by rw [wr64 (by omega) (by omega)]; omega
                  have q10 : ((j - 1 : Nat) : Int) < (n1 : Int) := by omega
                  have q11 : decide (0 < j) = true := by simp; omega
                  clear hx hc hlb3 hup
                  go_wp2_with fail
                  refine wp_region_quiet_below Try.mixed (by kernel_rfl) ?_
                  repeat (go_big_quiet_step (fail))
                  refine wpQuiet_nil ?_
                  intro w11 hw11
                  have D11 : Hid (Below w10.heap.size w10 w11) := (show Below _ _ _ by obtain ⟨⟨dq, osq⟩, rfl⟩ := hw11; exact below_regrown w10 dq osq)
                  have L11 : Hid (Below wA.heap.size wA w11) := L10.out.trans (D11.out.mono L10.out.size)
                  clear hw11 k0 k1 k2 x4 x5
                  go_wp2_with fail
                  go_roundg (gk - 1)
                  case measure => omega
                  case rel => exact ⟨j + 1, by omega, by go_num, L11⟩
              · obtain rfl : j = n1 := by omega
                have q3 : ¬ (j : Int) < (j : Int) := by omega
                have SB := hide (SA.out.kept LJ.out)
                have BXB := hide (BXA.out.kept LJ.out)
                have RKB := hide (RKA.out.kept LJ.out)
                have RRB := hide (RRA.out.kept LJ.out)
                have LB : Hid (Below w.heap.size w wr) := LA.out.trans (LJ.out.mono LA.out.size)
                clear LJ SA BXA RKA RRA LA
                generalize wr = wB at SB BXB RKB RRB LB ⊢
                go_wp2_with fail
                go_loopg [144] nk (fun g x wr => ∃ (q : Nat), g + q = nk ∧ x = .int .i64 (q : Int) ∧ Hid (Below wB.heap.size wB wr))
                case atStart => exact ⟨0, by omega, rfl, Below.refl _ _⟩
                case round =>
                  obtain ⟨q, hgq, rfl, LQ⟩ := hrel
                  by_cases hlq : q < nk
                  · have q4 : (q : Int) < (nk : Int) := by omega
                    obtain ⟨b3, off3, rfl, hlb3, hx⟩ := (RKB.out.kept LQ.out).nth (by omega)
                    have hq' : q < Ks.length := by rw [HNK.out]; exact hlq
                    have hc3 := hx q hq' 0 (.string Ks[q]) rfl
                    obtain ⟨ky, HK⟩ : ∃ k, Hid (Ks[q] = k) := ⟨Ks[q], (show Ks[q] = Ks[q] from rfl)⟩
                    have hsz : ky.size ≤ 64 := HKI.out.2 ky (by rw [← HK.out]; exact List.getElem_mem hq')
                    have hkm : ky.size ≤ maxLen := by simp only [maxLen]; omega
                    rw [HK.out] at hc3
                    simp only [KE, Nat.mul_one, Nat.add_zero] at hc3
                    clear hx hlb3
                    obtain ⟨g0, rfl⟩ : ∃ g0, g0 = gk := ⟨gk, rfl⟩
                    go_wp2_with fail
                    clear hc3
                    go_loopg [19, 150] j (fun g y x wr => ∃ (r : Nat), g + r = j ∧ y = .bool (hasK (Lr.take r) ky) ∧ x = .int .i64 (r : Int) ∧ Hid (Below wB.heap.size wB wr))
                    case atStart => exact ⟨0, by omega, rfl, rfl, LQ⟩
                    case round =>
                      obtain ⟨r, hgr, rfl, rfl, LR⟩ := hrel
                      by_cases hlr : r < j
                      · have q5 : (r : Int) < (j : Int) := by omega
                        have hrr := hide (RRB.out.kept LR.out)
                        obtain ⟨b4, off4, rfl, hlb9, hx⟩ := (hrr.out).nth (by omega)
                        have hlt' : r < Lr.length := by rw [HN1.out]; exact hlr
                        have hr : wr.rangeAt b4 (off4 + r * 3) (PC Lr[r]) := hx r hlt'
                        obtain ⟨pp, HPpp⟩ : ∃ p, Hid (Lr[r] = p) := ⟨Lr[r], (show Lr[r] = Lr[r] from rfl)⟩
                        rw [HPpp.out] at hr
                        clear hx hlb9
                        go_upto_region 32 with (first
                          | (refine wpList_load_mid rfl 49 _ rfl b4 (off4 + r * 3) rfl (PC pp) _ hr Try.underlying49 rfl Try.size49 ?_)
                          | (refine wpList_store_new rfl 49 _ _ rfl wr _ (PC pp).toArray _ rfl rfl rfl Try.size49 rfl (all_one (PC_one pp)) ?_)
                          | fail)
                        obtain ⟨F, HF⟩ : ∃ E, Hid (wr.heap.size = E) := ⟨_, rfl⟩
                        rw [HF.out]
                        obtain ⟨w9, hw4⟩ : ∃ x, x = wr.alloc (.cells (PC pp).toArray 49 (0, 0)) := ⟨_, rfl⟩
                        rw [← hw4]
                        have G9 : Hid (Below wr.heap.size wr w9) := (show Below _ _ _ by rw [hw4]; exact (Below.refl _ _).alloc (Nat.le_refl _) _)
                        have B9 : Hid (Blk w9 F 49 (PC pp)) := (show Blk _ _ _ _ by rw [hw4, ← HF.out]; exact Blk.new wr 49 (PC pp))
                        clear hw4 hr
                        have L9 : Hid (Below wB.heap.size wB w9) := LR.out.trans (G9.out.mono LR.out.size)
                        obtain ⟨kp, va, dd⟩ := pp
                        have c0 := B9.out.cell (j := 0) rfl
                        simp only at c0
                        have HT : Hid (hasK (Lr.take (r + 1)) ky = (hasK (Lr.take r) ky || decide (kp = ky))) := (show _ = _ by rw [hasK_snoc hlt', HPpp.out])
                        obtain ⟨f0, HF0⟩ : ∃ y, Hid (hasK (Lr.take r) ky = y) := ⟨_, rfl⟩
                        obtain ⟨f1, hse⟩ : ∃ y, (kp.toList == ky.toList) = y := ⟨_, rfl⟩
                        rw [HF0.out, dec_str, hse] at HT
                        rw [HF0.out]
                        cases f0 with
                        | true =>
                          go_wp2_with fail
                          go_roundg (gk - 1)
                          case measure => omega
                          case rel => exact ⟨r + 1, by omega, by rw [HT.out]; rfl, by go_num, L9⟩
                        | false =>
                          go_wp2_with fail
                          go_roundg (gk - 1)
                          case measure => omega
                          case rel => exact ⟨r + 1, by omega, by rw [HT.out]; rfl, by go_num, L9⟩
                      · obtain rfl : r = j := by omega
                        have q5 : ¬ (r : Int) < (r : Int) := by omega
                        have SQ := hide (SB.out.kept LR.out)
                        have BXQ := hide (BXB.out.kept LR.out)
                        obtain ⟨gp, HGP⟩ : ∃ y, Hid ((getP (s.ch ky) s.last).2 = y) := ⟨_, rfl⟩
                        obtain ⟨f0, HF0⟩ : ∃ y, Hid (hasK (Lr.take r) ky = y) := ⟨_, rfl⟩
                        obtain ⟨l1, HL1⟩ : ∃ y, Hid (lt ky fr = y) := ⟨_, rfl⟩
                        obtain ⟨l2, HL2⟩ : ∃ y, Hid (lt ky tt = y) := ⟨_, rfl⟩
                        have HF : Hid (f0 = (gp && !l1 && l2)) := (show _ = _ by
                          rw [← HF0.out, List.take_of_length_le (Nat.le_of_eq HN1.out), ← HLr.out, hasK_eq HI.out, HGP.out, HL1.out, HL2.out])
                        rw [HF0.out]
                        have q6 : ∀ W, (binOp .geq 9 (.string ky) (.string fr)).run Try.prog W = .ok (.bool (!l1)) W := fun W => by rw [sge, HL1.out]; rfl
                        have q7 : Op.bytesLess ky.toList tt.toList = l2 := HL2.out
                        obtain ⟨g1, g2, HG⟩ : ∃ x y, Hid (getS s ky s.last = (x, y)) := ⟨_, _, rfl⟩
                        have hg2 : g2 = if gp = true then 0 else 8 := by
                          have e : g2 = (getS s ky s.last).2 := by rw [HG.out]
                          rw [e]
                          cases gp with
                          | true => rw [getS_yes (by omega) (Int.le_refl _) HGP.out]; rfl
                          | false => rw [getS_no (by omega) (Int.le_refl _) HGP.out]; rfl
                        have C5 := hide (SQ.out.get (by omega) ky hkm s.last)
                        rw [HG.out] at C5
                        go_wp2_with fail
                        refine SQ.out.last.mono ?_
                        rintro e w_ ⟨rfl, hw⟩
                        subst w_
                        go_wp2_with fail
                        refine C5.out.mono ?_
                        rintro e w9 ⟨rfl, hb9⟩
                        have L9 : Hid (Below wB.heap.size wB w9) := LR.out.trans (hb9.mono LR.out.size)
                        have B9 := hide (BXQ.out.kept hb9)
                        clear hb9 C5
                        have c4 := B9.out.cell (j := 4) rfl
                        have c5 := B9.out.cell (j := 5) rfl
                        simp only at c4 c5
                        cases gp with
                        | false =>
                          obtain rfl : g2 = 8 := hg2
                          obtain rfl : f0 = false := HF.out
                          go_wp2_with fail
                          go_roundg (g0 - 1)
                          case measure => omega
                          case rel => exact ⟨q + 1, by omega, by go_num, L9⟩
                        | true =>
                          obtain rfl : g2 = 0 := hg2
                          cases l1 with
                          | true =>
                            obtain rfl : f0 = false := HF.out
                            go_wp2_with fail
                            go_roundg (g0 - 1)
                            case measure => omega
                            case rel => exact ⟨q + 1, by omega, by go_num, L9⟩
                          | false =>
                            obtain rfl : f0 = l2 := HF.out
                            cases f0 with
                            | true =>
                              go_wp2_with fail
                              go_roundg (g0 - 1)
                              case measure => omega
                              case rel => exact ⟨q + 1, by omega, by go_num, L9⟩
                            | false =>
                              go_wp2_with fail
                              go_roundg (g0 - 1)
                              case measure => omega
                              case rel => exact ⟨q + 1, by omega, by go_num, L9⟩
                  · obtain rfl : q = nk := by omega
                    have q4 : ¬ (q : Int) < (q : Int) := by omega
                    have SC := hide (SB.out.kept LQ.out)
                    have BXC := hide (BXB.out.kept LQ.out)
                    have RRC := hide (RRB.out.kept LQ.out)
                    have LC : Hid (Below w.heap.size w wr) := LB.out.trans (LQ.out.mono LB.out.size)
                    clear LQ SB BXB RKB RRB LB
                    generalize wr = wC at SC BXC RRC LC ⊢
                    go_wp2_with fail
                    refine wp_region_inv Try.mixed (KS (fun i_ => match i_ with | 0 | 5 => .val (.pointer (some ⟨D, 0, none⟩)) | 1 => .val (.pointer (some ⟨X, 4, none⟩)) | 2 => .val (.string fr) | 3 => .val (.pointer (some ⟨X, 5, none⟩)) | 4 => .val (.string tt) | 6 => .val (.int .i64 s.last) | 7 | 8 => .of (fun W x => ∃ v', x = .tuple #[v', .int .i64 0] ∧ RdG PE W v' (Lr.take 2)) (fun _ _ _ hg h => by obtain ⟨v', h1, h2⟩ := h; exact ⟨v', h1, h2.kept hg⟩) | 9 | 11 => .of (fun W x => RdG PE W x (Lr.take 2)) (fun _ _ _ hg h => RdG.kept h hg) | 10 | 12 => .val (.int .i64 0) | _ => .free)) 224 rfl (by decide +kernel) (KS_mono _) ?_ ?_
                    · refine AllFrom.cons (fun a' w' hg hk hd => ?_) (AllFrom.cons (fun a' w' hg hk hd => ?_) (AllFrom.cons (fun a' w' hg hk hd => ?_) (AllFrom.cons (fun a' w' hg hk hd => ?_) (AllFrom.cons (fun a' w' hg hk hd => ?_) (AllFrom.cons (fun a' w' hg hk hd => ?_) (AllFrom.cons (fun a' w' hg hk hd => ?_) (AllFrom.cons (fun a' w' hg hk hd => ?_) (AllFrom.cons (fun a' w' hg hk hd => ?_) (AllFrom.cons (fun a' w' hg hk hd => ?_) (AllFrom.cons (fun a' w' hg hk hd => ?_) (AllFrom.cons (fun a' w' hg hk hd => ?_) (AllFrom.cons (fun a' w' hg hk hd => ?_) AllFrom.nil))))))))))))
                      · -- 0: Op.move (Operand.tmp 5)
                        intro Q
                        have e5 : a'.eval (.tmp 5) = .pointer (some ⟨D, 0, none⟩) := hk.at 5 (by decide +kernel)
                        exact wp_value _ (by simp only [execOp, e5]; rfl) (KS_mkv rfl rfl)
                      · -- 1: Op.fieldAddr 33 (Operand.tmp 3) 4
                        intro Q
                        have e3 : a'.eval (.tmp 3) = .pointer (some ⟨X, 0, none⟩) := hk.at 3 (by decide +kernel)
                        clear hd hk
                        exact wp_value (.pointer (some ⟨X, 4, none⟩)) (by simp only [execOp, e3]; go_simp) (KS_mkv rfl rfl)
                      · -- 2: Op.load 9 (Operand.tmp 189)
                        intro Q
                        have e189 : a'.eval (.tmp 189) = .pointer (some ⟨X, 4, none⟩) := KS_val (Deps.val hd 1 189 (by decide +kernel)) rfl
                        have c := (BXC.out.kept hg).cell (j := 4) rfl
                        simp only at c
                        clear hd hk
                        exact wp_value (.string fr) (by simp only [execOp, e189]; go_simp) (KS_mkv rfl rfl)
                      · -- 3: Op.fieldAddr 33 (Operand.tmp 3) 5
                        intro Q
                        have e3 : a'.eval (.tmp 3) = .pointer (some ⟨X, 0, none⟩) := hk.at 3 (by decide +kernel)
                        clear hd hk
                        exact wp_value (.pointer (some ⟨X, 5, none⟩)) (by simp only [execOp, e3]; go_simp) (KS_mkv rfl rfl)
                      · -- 4: Op.load 9 (Operand.tmp 191)
                        intro Q
                        have e191 : a'.eval (.tmp 191) = .pointer (some ⟨X, 5, none⟩) := KS_val (Deps.val hd 3 191 (by decide +kernel)) rfl
                        have c := (BXC.out.kept hg).cell (j := 5) rfl
                        simp only at c
                        clear hd hk
                        exact wp_value (.string tt) (by simp only [execOp, e191]; go_simp) (KS_mkv rfl rfl)
                      · -- 5: Op.move (Operand.tmp 5)
                        intro Q
                        have e5 : a'.eval (.tmp 5) = .pointer (some ⟨D, 0, none⟩) := hk.at 5 (by decide +kernel)
                        exact wp_value _ (by simp only [execOp, e5]; rfl) (KS_mkv rfl rfl)
                      · -- 6: Op.call ( callee := Callee.value (Operand.func 13), args := 
                        intro Q
                        have e193 : a'.eval (.tmp 193) = .pointer (some ⟨D, 0, none⟩) := KS_val (Deps.val hd 5 193 (by decide +kernel)) rfl
                        refine wp_call 13 _ (run_enter 13 _ _ rfl (by kernel_rfl)) ?_
                        simp only [List.map_toArray, List.map_nil, List.map_cons, e193]
                        refine (SC.out.kept hg).last.mono ?_
                        rintro e_ w_ ⟨rfl, hw_⟩
                        subst w_
                        exact ⟨_, rfl, KS_mkv rfl rfl, Gr.refl _⟩
                      · -- 7: Op.call ( callee := Callee.value (Operand.func 23), args := 
                        intro Q
                        have e188 : a'.eval (.tmp 188) = .pointer (some ⟨D, 0, none⟩) := KS_val (Deps.val hd 0 188 (by decide +kernel)) rfl
                        have e190 : a'.eval (.tmp 190) = .string fr := KS_val (Deps.val hd 2 190 (by decide +kernel)) rfl
                        have e192 : a'.eval (.tmp 192) = .string tt := KS_val (Deps.val hd 4 192 (by decide +kernel)) rfl
                        have e194 : a'.eval (.tmp 194) = .int .i64 s.last := KS_val (Deps.val hd 6 194 (by decide +kernel)) rfl
                        refine wp_call 23 _ (run_enter 23 _ _ rfl (by kernel_rfl)) ?_
                        simp only [List.map_toArray, List.map_nil, List.map_cons, e188, e190, e192, e194]
                        have hsc := (SC.out.kept hg).scan (by omega) HI.out fr tt s.last 2
                        rw [HSC2.out] at hsc
                        refine hsc.mono ?_
                        rintro e_ w_ ⟨v', rfl, ho, hb⟩
                        exact ⟨_, rfl, KS_mko rfl ⟨v', rfl, ho.rd⟩, hb⟩
                      · -- 8: Op.move (Operand.tmp 195)
                        intro Q
                        have r195 := KS_of (Deps.val hd 7 195 (by decide +kernel)) rfl
                        exact wp_value (a'.eval (.tmp 195)) (by simp only [execOp]; rfl) (KS_mko rfl r195)
                      · -- 9: Op.extract (Operand.tmp 187) 0
                        intro Q
                        have r187 := KS_of (Deps.val hd 8 187 (by decide +kernel)) rfl
                        obtain ⟨v', h1, h2⟩ := r187
                        exact wp_value v' (by simp only [execOp, h1]; go_simp) (KS_mko rfl h2)
                      · -- 10: Op.extract (Operand.tmp 187) 1
                        intro Q
                        have r187 := KS_of (Deps.val hd 8 187 (by decide +kernel)) rfl
                        obtain ⟨v', h1, h2⟩ := r187
                        exact wp_value (.int .i64 0) (by simp only [execOp, h1]; go_simp) (KS_mkv rfl rfl)
                      · -- 11: Op.assign (Operand.tmp 196)
                        intro Q
                        have r196 := KS_of (Deps.val hd 9 196 (by decide +kernel)) rfl
                        exact wp_value (a'.eval (.tmp 196)) (by simp only [execOp]; rfl) (KS_mko rfl r196)
                      · -- 12: Op.assign (Operand.tmp 197)
                        intro Q
                        have e197 : a'.eval (.tmp 197) = .int .i64 0 := KS_val (Deps.val hd 10 197 (by decide +kernel)) rfl
                        exact wp_value _ (by simp only [execOp, e197]; rfl) (KS_mkv rfl rfl)
                    · intro a' wD hsz hdf hk hall hg
                      have e188 : a'.eval (.tmp 188) = .pointer (some ⟨D, 0, none⟩) := KS_val (hall 0 _ 188 rfl rfl) rfl
                      have e189 : a'.eval (.tmp 189) = .pointer (some ⟨X, 4, none⟩) := KS_val (hall 1 _ 189 rfl rfl) rfl
                      have e190 : a'.eval (.tmp 190) = .string fr := KS_val (hall 2 _ 190 rfl rfl) rfl
                      have e191 : a'.eval (.tmp 191) = .pointer (some ⟨X, 5, none⟩) := KS_val (hall 3 _ 191 rfl rfl) rfl
                      have e192 : a'.eval (.tmp 192) = .string tt := KS_val (hall 4 _ 192 rfl rfl) rfl
                      have e193 : a'.eval (.tmp 193) = .pointer (some ⟨D, 0, none⟩) := KS_val (hall 5 _ 193 rfl rfl) rfl
                      have e194 : a'.eval (.tmp 194) = .int .i64 s.last := KS_val (hall 6 _ 194 rfl rfl) rfl
                      have r195 := KS_of (hall 7 _ 195 rfl rfl) rfl
                      obtain ⟨x195, e195⟩ : ∃ v, a'.eval (.tmp 195) = v := ⟨_, rfl⟩
                      rw [e195] at r195
                      have r187 := KS_of (hall 8 _ 187 rfl rfl) rfl
                      obtain ⟨x187, e187⟩ : ∃ v, a'.eval (.tmp 187) = v := ⟨_, rfl⟩
                      rw [e187] at r187
                      have r196 := KS_of (hall 9 _ 196 rfl rfl) rfl
                      obtain ⟨x196, e196⟩ : ∃ v, a'.eval (.tmp 196) = v := ⟨_, rfl⟩
                      rw [e196] at r196
                      have e197 : a'.eval (.tmp 197) = .int .i64 0 := KS_val (hall 10 _ 197 rfl rfl) rfl
                      have r24 := KS_of (hall 11 _ 24 rfl rfl) rfl
                      obtain ⟨x24, e24⟩ : ∃ v, a'.eval (.tmp 24) = v := ⟨_, rfl⟩
                      rw [e24] at r24
                      have e25 : a'.eval (.tmp 25) = .int .i64 0 := KS_val (hall 12 _ 25 rfl rfl) rfl
                      have ha := act_puts 224 rfl hsz hdf hk [188, 189, 190, 191, 192, 193, 194, 195, 187, 196, 197, 24, 25] (by decide +kernel)
                      simp only [puts, List.foldl_cons, List.foldl_nil, e188, e189, e190, e191, e192, e193, e194, e195, e187, e196, e197, e24, e25] at ha
                      simp only [Act.put, List.setIfInBounds_toArray, List.set_cons_succ, List.set_cons_zero] at ha
                      have GD := hide (show Below wC.heap.size wC wD from hg)
                      have RRD := hide r24
                      clear hall hk hsz hdf hg e188 e189 e190 e191 e192 e193 e194 e195 e187 e196 e197 e24 e25 r195 r187 r196 r24
                      subst ha
                      generalize x24 = v_wD at RRD ⊢
                      have LD : Hid (Below w.heap.size w wD) := LC.out.trans (GD.out.mono LC.out.size)
                      have RRE := hide (RRC.out.kept GD.out)
                      clear GD
                      obtain ⟨a2, c2, e2⟩ := RRD.out.slice
                      obtain ⟨l2, HL2⟩ : ∃ q, Hid ((Lr.take 2).length = q) := ⟨_, rfl⟩
                      have hl2 : l2 ≤ 2 ∧ l2 ≤ j ∧ (l2 = 2 ∨ l2 = j) := by
                        have h1 := HL2.out
                        have h2 := HN1.out
                        rw [List.length_take] at h1
                        omega
                      rw [HL2.out] at e2
                      subst e2
                      have hcap := RRE.out.cap
                      obtain ⟨hsl, hrs⟩ := slice_G_to (E := PE) (P := Try.prog) (t := 31) (e := 49) Try.underlying31 Try.size49 a11 j c11 l2 hl2.2.1 hcap
                      have RT := hide (hrs wD Lr RRE.out)
                      have htk : Lr.take 2 = Lr.take l2 := by
                        rw [← HL2.out, List.length_take]
                        rcases Nat.le_total 2 Lr.length with h | h
                        · rw [Nat.min_eq_left h]
                        · rw [Nat.min_eq_right h, List.take_of_length_le h, List.take_of_length_le (Nat.le_refl _)]
                      have CS := hide (vsame_any RRD.out RT.out)
                      rw [htk] at CS
                      simp only [decide_true] at CS
                      have q6 : decide ((l2 : Int) ≤ 2) = true := by simp; omega
                      clear hrs
                      go_wp2_with fail
                      refine CS.out.mono ?_
                      rintro e wE ⟨rfl, hbE⟩
                      have LE : Hid (Below w.heap.size w wE) := LD.out.trans (hbE.mono LD.out.size)
                      clear hbE CS
                      by_cases h2 : l2 = 2
                      · have q7 : decide ((l2 : Int) = 2) = true := by simp; omega
                        go_wp2_with fail
                        refine (lives_any wE).mono ?_
                        rintro e wz ⟨rfl, hbz⟩
                        have LZ : Hid (Below w.heap.size w wz) := LE.out.trans (hbz.mono (LE.out).size)
                        clear hbz
                        go_wp2_with fail
                        go_ret
                        exact ⟨rfl, LZ.out⟩
                      · have q7 : decide ((l2 : Int) = 2) = false := by simp; omega
                        have q8 : decide ((l2 : Int) = (j : Int)) = true := by simp; omega
                        go_wp2_with fail
                        refine (lives_any wE).mono ?_
                        rintro e wz ⟨rfl, hbz⟩
                        have LZ : Hid (Below w.heap.size w wz) := LE.out.trans (hbz.mono (LE.out).size)
                        clear hbz
                        go_wp2_with fail
                        go_ret
                        exact ⟨rfl, LZ.out⟩
#print axioms storeScans_any
end Go.Proofs.Ytgaoionnfkbhaaa
