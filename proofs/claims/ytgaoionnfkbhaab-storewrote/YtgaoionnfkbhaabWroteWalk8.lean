/-
  indenturelaw08.StoreWrote: what the call does.
-/
import Derived.Test.YtgaoionnfkbhaabStF
namespace Go.Proofs.Ytgaoionnfkbhaab
open Go.RowKit
theorem buildAw (a : Ac) (W : World) : (Instr.buildSlice 22 1 #[(0, .agg (AC a).toArray)]).run Try.prog W = .ok (.slice (some ⟨W.heap.size, 0, none⟩) 1 1) (W.alloc (.cells (AC a).toArray 25 (0, 0))) := by
  kernel_rfl
theorem wpList_buildA_w {ops : Array Oper} {rest : List Oper} {op : Oper} {a : Act} {w : World} {Q : Exit → Act → World → Prop} (hw : Region.wanted op (yielded ops a.tmps) = true) (x : Operand) (ho : op.op = .buildSlice 22 1 #[(0, x)]) (p : Ac) (hx : a.eval x = .agg (AC p).toArray)
    (h : wpList Try.prog ops Q rest (a.put op.dst (.slice (some ⟨w.heap.size, 0, none⟩) 1 1)) (w.alloc (.cells (AC p).toArray 25 (0, 0)))) : wpList Try.prog ops Q (op :: rest) a w := by
  refine wpList_step fun K hK => ?_
  rw [if_pos hw]
  have hr := buildAw p w
  unfold Oper.wp execOp
  simp only [ho, hx, hr, List.map_toArray, List.map_cons, List.map_nil, Sem.run_bind, Sem.run_pure, Result.andThen_ok]
  exact hK _ _ h
theorem wpList_load_aw {P : Program} {ops : Array Oper} {rest : List Oper} {o : Oper} {a : Act} {w : World} {Q : Exit → Act → World → Prop} (hw : Region.wanted o (yielded ops a.tmps) = true) (ty : TypeId) (x : Operand) (ho : o.op = .load ty x)
    (b off : Nat) (hx : a.eval x = .pointer (some ⟨b, off, none⟩)) (cs : List Value) (d : TypeDesc) (hc : w.rangeAt b off cs) (hu : P.underlying ty = some d) (hd : d.isRow = true) (hi : (P.info? ty).map (·.size) = some cs.length)
    (h : wpList P ops Q rest (a.put o.dst (.agg cs.toArray)) w) : wpList P ops Q (o :: rest) a w := by
  refine wpList_step fun K hK => ?_
  rw [if_pos hw]
  unfold Oper.wp execOp
  simp only [ho, hx, Instr.loadAt, Instr.sureAddr, Sem.run_bind, Sem.run_pure, Result.andThen_ok, run_loadVar_mid w b off ty cs d hc hu hd hi]
  exact hK _ _ h
theorem gt_str (a b : ByteArray) (W : World) : (binOp .gtr 9 (.string a) (.string b)).run Try.prog W = .ok (.bool (lt b a)) W := by
  rw [sgt]
  rfl
set_option maxRecDepth 100000 in
set_option maxHeartbeats 2000000 in
theorem storeWrote_any {w : World} {v : Value} {L : List Ac} (h : RdG AE w v L) (hok : AcsOk w L) {x : Ac} (hx : AcOk w x) (key : ByteArray) : Calls Try.prog 3 #[v, .agg (AC x).toArray, .string key] w fun e w' => e = .returned (.bool true) ∧ Below w.heap.size w w' := by
  have HL := hide h
  have HOK := hide hok
  have HX := hide hx
  obtain ⟨a, cp, rfl⟩ := h.slice
  have hz := Zact8
  have hn : L.length ≤ 9223372036854775807 := Nat.le_trans h.cap h.max
  clear h hok hx
  obtain ⟨m, HM⟩ : ∃ m, Hid (L.length = m) := ⟨_, rfl⟩
  rw [HM.out] at HL hn ⊢
  have L1 : Hid (Below w.heap.size w (w.alloc (.cells (AC x).toArray 25 (0, 0)))) := (Below.refl _ _).alloc (Nat.le_refl _) _
  have B1 := hide (Blk.new w 25 (AC x))
  go_enter Try.func3, Try.ntmps3
  go_upto_region 1 with fail
  obtain ⟨X, HE1⟩ : ∃ E, Hid (w.heap.size = E) := ⟨_, rfl⟩
  obtain ⟨w1, hw1⟩ : ∃ y, y = w.alloc (.cells (AC x).toArray 25 (0, 0)) := ⟨_, rfl⟩
  rw [← hw1] at L1 B1 ⊢
  rw [HE1.out] at B1 ⊢
  clear hw1
  have H1L := hide (HL.out.kept L1.out)
  have H1O : Hid (AcsOk w1 L) := (show AcsOk w1 L from fun a ha => (HOK.out a ha).kept L1.out)
  have H1X := hide (HX.out.kept L1.out)
  clear HL HOK HX
  go_wp2_with fail
  refine ls_new.mono ?_
  rintro e w2 ⟨D, rfl, hls⟩
  have S2 := hide hls
  clear hls
  go_wp2_with fail
  refine (light_any (H1L.out.kept S2.out.lo) (fun a ha => (H1O.out a ha).kept S2.out.lo)).mono ?_
  rintro e w3 ⟨b, rfl, hlight, hb3⟩
  have S3 := hide (S2.out.kept hb3)
  have L3 : Hid (Below w.heap.size w w3) := L1.out.trans (S3.out.lo.mono L1.out.size)
  clear hb3
  cases b with
  | false =>
    go_wp2_with fail
    refine (lives_any w3).mono ?_
    rintro e wz ⟨rfl, hbz⟩
    have LZ : Hid (Below w.heap.size w wz) := L3.out.trans (hbz.mono (L3.out).size)
    clear hbz
    go_wp2_with fail
    go_ret
    exact ⟨rfl, LZ.out⟩
  | true =>
    have HLI := hide (hlight rfl)
    clear hlight
    have hm60 : m ≤ 60 := by have := HLI.out.1; rw [HM.out] at this; exact this
    have B3r := (B1.out.kept S3.out.lo).range0
    have L4 : Hid (Below w3.heap.size w3 (w3.alloc (.cells (AC x).toArray 25 (0, 0)))) := (Below.refl _ _).alloc (Nat.le_refl _) _
    have R4 : Hid (RdG AE (w3.alloc (.cells (AC x).toArray 25 (0, 0))) (.slice (some ⟨w3.heap.size, 0, none⟩) 1 1) [x]) := rdG_one (E := AE) w3 25 x
    have K4 : Hid (AcsOk (w3.alloc (.cells (AC x).toArray 25 (0, 0))) [x]) := (show AcsOk _ _ from fun a ha => by
      simp only [List.mem_singleton] at ha
      subst ha
      exact (H1X.out.kept S3.out.lo).kept L4.out)
    go_wp2_with (first
      | (refine wpList_load_aw rfl 25 _ rfl X 0 rfl (AC x) _ B3r Try.underlying25 rfl Try.size25 ?_)
      | (refine wpList_buildA_w rfl _ rfl x rfl ?_)
      | fail)
    refine (light_any R4.out K4.out).mono ?_
    rintro e w5 ⟨b, rfl, hli, hb5⟩
    have S5 := hide (S3.out.kept (L4.out.trans (hb5.mono L4.out.size)))
    have L5 : Hid (Below w.heap.size w w5) := L1.out.trans (S5.out.lo.mono L1.out.size)
    clear hb5 R4 K4 L4 B3r
    cases b with
    | false =>
      go_wp2_with fail
      refine (lives_any w5).mono ?_
      rintro e wz ⟨rfl, hbz⟩
      have LZ : Hid (Below w.heap.size w wz) := L5.out.trans (hbz.mono (L5.out).size)
      clear hbz
      go_wp2_with fail
      go_ret
      exact ⟨rfl, LZ.out⟩
    | true =>
      have HLX := hide ((hli rfl).2.2 x (by simp))
      clear hli
      by_cases hkey : 200 < key.size
      · have q1 : decide ((200 : Int) < (key.size : Int)) = true := by simp; omega
        go_wp2_with fail
        refine (lives_any w5).mono ?_
        rintro e wz ⟨rfl, hbz⟩
        have LZ : Hid (Below w.heap.size w wz) := L5.out.trans (hbz.mono (L5.out).size)
        clear hbz
        go_wp2_with fail
        go_ret
        exact ⟨rfl, LZ.out⟩
      · have q1 : decide ((200 : Int) < (key.size : Int)) = false := by simp; omega
        go_wp2_with fail
        go_loopg [28] m (fun g x wr => ∃ (i : Nat) (s : SP), g + i = m ∧ x = .int .i64 (i : Int) ∧ Hid (LS w1 wr D i s (fun _ => False)))
        case atStart => exact ⟨0, sp0, by omega, rfl, S5⟩
        case round =>
          obtain ⟨i, s, hgi, rfl, SR⟩ := hrel
          by_cases hlt : i < m
          · have q2 : (i : Int) < (m : Int) := by omega
            have hrd := hide (H1L.out.kept SR.out.lo)
            obtain ⟨b, off, rfl, hlb4, hx⟩ := (hrd.out).nth (by omega)
            have hlt' : i < L.length := by rw [HM.out]; exact hlt
            have hr : wr.rangeAt b (off + i * 6) (AC L[i]) := hx i hlt'
            obtain ⟨p, HPp⟩ : ∃ p, Hid (L[i] = p) := ⟨L[i], (show L[i] = L[i] from rfl)⟩
            rw [HPp.out] at hr
            clear hx hlb4
            go_upto_region 7 with (first
              | (refine wpList_load_mid rfl 25 _ rfl b (off + i * 6) rfl (AC p) _ hr Try.underlying25 rfl Try.size25 ?_)
              | (refine wpList_store_new rfl 25 _ _ rfl wr _ (AC p).toArray _ rfl rfl rfl Try.size25 rfl (all_one (AC_one p)) ?_)
              | fail)
            obtain ⟨E, HE⟩ : ∃ E, Hid (wr.heap.size = E) := ⟨_, rfl⟩
            rw [HE.out]
            obtain ⟨w4, hw4⟩ : ∃ x, x = wr.alloc (.cells (AC p).toArray 25 (0, 0)) := ⟨_, rfl⟩
            rw [← hw4]
            have G4 : Hid (Below wr.heap.size wr w4) := (show Below _ _ _ by rw [hw4]; exact (Below.refl _ _).alloc (Nat.le_refl _) _)
            have B4 : Hid (Blk w4 E 25 (AC p)) := (show Blk _ _ _ _ by rw [hw4, ← HE.out]; exact Blk.new wr 25 (AC p))
            clear hw4 hr
            have S4 := hide (SR.out.own G4.out (Nat.le_of_eq HE.out) B4.out.lt)
            have HL60 := hide ((HLI.out.2.2 p (by rw [← HPp.out]; exact List.getElem_mem hlt')).1)
            have HA := hide (H1O.out p (by rw [← HPp.out]; exact List.getElem_mem hlt'))
            have LOW := hide HA.out.low
            have hbn := S4.out.bnd
            obtain ⟨kd, xn, xm, ad, ln, cpa, pl, fr, tt⟩ := p
            simp only at LOW HL60
            have c0 := B4.out.cell (j := 0) rfl
            simp only at c0
            by_cases hk0 : kd = 0
            · subst hk0
              go_wp2_with fail
              refine wp_region_tails Try.mixed (KS (fun i_ => match i_ with | 0 | 1 => .val (.pointer (some ⟨D, 0, none⟩)) | 2 => .val (.int .i64 s.last) | 3 => .val (.int .i64 (s.last + 1)) | 4 => .val (.pointer (some ⟨E, 3, none⟩)) | 5 => .val (.slice ad ln cpa) | _ => .free)) 116 rfl (by decide +kernel) 6 (by decide) (by decide +kernel) (KS_mono _) ?_ ?_
              · refine AllFrom.cons ⟨rfl, fun a' w' hg hk hd Q => ?_⟩ (AllFrom.cons ⟨rfl, fun a' w' hg hk hd Q => ?_⟩ (AllFrom.cons ⟨rfl, fun a' w' hg hk hd Q => ?_⟩ (AllFrom.cons ⟨rfl, fun a' w' hg hk hd Q => ?_⟩ (AllFrom.cons ⟨rfl, fun a' w' hg hk hd Q => ?_⟩ (AllFrom.cons ⟨rfl, fun a' w' hg hk hd Q => ?_⟩ AllFrom.nil)))))
                · -- 0: Op.move (Operand.tmp 7)
                  have e7 : a'.eval (.tmp 7) = .pointer (some ⟨D, 0, none⟩) := hk.at 7 (by decide +kernel)
                  exact wp_value _ (by simp only [execOp, e7]; rfl) (KS_mkv rfl rfl)
                · -- 1: Op.move (Operand.tmp 7)
                  have e7 : a'.eval (.tmp 7) = .pointer (some ⟨D, 0, none⟩) := hk.at 7 (by decide +kernel)
                  exact wp_value _ (by simp only [execOp, e7]; rfl) (KS_mkv rfl rfl)
                · -- 2: Op.call ( callee := Callee.value (Operand.func 8), args := #
                  have e36 : a'.eval (.tmp 36) = .pointer (some ⟨D, 0, none⟩) := KS_val (Deps.val hd 1 36 (by decide +kernel)) rfl
                  refine wp_call 8 _ (run_enter 8 _ _ rfl (by kernel_rfl)) ?_
                  simp only [List.map_toArray, List.map_nil, List.map_cons, e36]
                  refine (S4.out.kept hg).last.mono ?_
                  rintro e_ w_ ⟨rfl, hw_⟩
                  subst w_
                  exact ⟨_, rfl, KS_mkv rfl rfl, Gr.refl _⟩
                · -- 3: Op.binOp BinOp.add 3 (Operand.tmp 37) (Operand.const (Value.
                  have e37 : a'.eval (.tmp 37) = .int .i64 s.last := KS_val (Deps.val hd 2 37 (by decide +kernel)) rfl
                  exact wp_value (.int .i64 (s.last + 1)) (by simp only [execOp, e37]; go_simp; exact wr64 (by have := S4.out.bnd; omega) (by have := S4.out.bnd; omega)) (KS_mkv rfl rfl)
                · -- 4: Op.fieldAddr 25 (Operand.tmp 9) 3
                  have e9 : a'.eval (.tmp 9) = .pointer (some ⟨E, 0, none⟩) := hk.at 9 (by decide +kernel)
                  clear hd hk
                  exact wp_value (.pointer (some ⟨E, 3, none⟩)) (by simp only [execOp, e9]; go_simp) (KS_mkv rfl rfl)
                · -- 5: Op.load 23 (Operand.tmp 39)
                  have e39 : a'.eval (.tmp 39) = .pointer (some ⟨E, 3, none⟩) := KS_val (Deps.val hd 4 39 (by decide +kernel)) rfl
                  have c := (B4.out.kept hg).cell (j := 3) rfl
                  simp only at c
                  clear hd hk
                  exact wp_value (.slice ad ln cpa) (by simp only [execOp, e39]; go_simp) (KS_mkv rfl rfl)
              · intro a' w_ hsz hdf hk hall hg
                have e35 : a'.eval (.tmp 35) = .pointer (some ⟨D, 0, none⟩) := KS_val (hall 0 _ 35 (by decide) rfl rfl) rfl
                have e36 : a'.eval (.tmp 36) = .pointer (some ⟨D, 0, none⟩) := KS_val (hall 1 _ 36 (by decide) rfl rfl) rfl
                have e37 : a'.eval (.tmp 37) = .int .i64 s.last := KS_val (hall 2 _ 37 (by decide) rfl rfl) rfl
                have e38 : a'.eval (.tmp 38) = .int .i64 (s.last + 1) := KS_val (hall 3 _ 38 (by decide) rfl rfl) rfl
                have e39 : a'.eval (.tmp 39) = .pointer (some ⟨E, 3, none⟩) := KS_val (hall 4 _ 39 (by decide) rfl rfl) rfl
                have e40 : a'.eval (.tmp 40) = .slice ad ln cpa := KS_val (hall 5 _ 40 (by decide) rfl rfl) rfl
                obtain ⟨x41, e41⟩ : ∃ v, a'.eval (.tmp 41) = v := ⟨_, rfl⟩
                have hr_ := (HA.out.r.kept ((S4.out.kept hg).lo))
                simp only at hr_
                refine wpSeq_call rfl 7 _ (run_enter 7 _ _ rfl (by kernel_rfl)) ?_
                simp only [List.map_toArray, List.map_nil, List.map_cons, e35, e38, e40]
                refine ((S4.out.kept hg).install (by omega) hr_ HL60.out LOW.out (s.last + 1)).mono ?_
                rintro e_ w8 ⟨rfl, hls_, hsm_⟩
                refine ⟨_, rfl, ?_⟩
                obtain ⟨er_w8, HER_w8⟩ : ∃ x : Int, Hid ((if instOk s (s.last + 1) pl = true then 0 else 2) = x) := ⟨_, rfl⟩
                rw [HER_w8.out]
                have S8 := hide hls_
                have B_w8 := hide ((B4.out.kept hg).same hsm_ (.inr rfl))
                have ha := act_puts 116 rfl hsz hdf hk [35, 36, 37, 38, 39, 40, 41] (by decide +kernel)
                simp only [puts, List.foldl_cons, List.foldl_nil, e35, e36, e37, e38, e39, e40, e41] at ha
                simp only [Act.put, List.setIfInBounds_toArray, List.set_cons_succ, List.set_cons_zero] at ha
                clear hall hk hsz hdf hls_ hsm_ hr_ hg e35 e36 e37 e38 e39 e40 e41
                subst ha
                simp only [Act.put, List.setIfInBounds_toArray, List.set_cons_succ, List.set_cons_zero]
                go_wp2_with fail
                go_roundg (gk - 1)
                case measure => omega
                case rel => exact ⟨i + 1, _, by omega, by go_num, S8.out.less (fun _ h => h.elim)⟩
            · go_wp2_with fail
              go_roundg (gk - 1)
              case measure => omega
              case rel => exact ⟨i + 1, s, by omega, by go_num, (S4.out.mono (by omega)).less (fun _ h => h.elim)⟩
          · obtain rfl : i = m := by omega
            have q2 : ¬ (i : Int) < (i : Int) := by omega
            obtain ⟨kd, xn, xm, ad, ln, cpa, pl, fr, tt⟩ := x
            obtain ⟨-, hfr, htt⟩ := HLX.out
            simp only at hfr htt
            have hfm : fr.size ≤ maxLen := by simp only [maxLen]; omega
            obtain ⟨ks, hinv, -⟩ := SR.out.good
            have HI := hide hinv
            clear hinv
            obtain ⟨q, HQ⟩ : ∃ q, Hid (wroteS s fr xn = q) := ⟨_, rfl⟩
            have cW := quiet_of (w := wr) (fun W hW => (SR.out.kept hW).wrote (by omega) fr hfm xn)
            have cN := quiet_of (w := wr) (fun W hW => (SR.out.kept hW).next (by omega) fr xn)
            rw [HQ.out] at cN cW
            have BX := hide (B1.out.kept SR.out.lo)
            have c1 := cell_regrown (BX.out.cell (j := 1) rfl)
            have c4 := cell_regrown (BX.out.cell (j := 4) rfl)
            simp only at c1 c4
            go_wp2_with fail
            refine wp_region_quiet_below Try.mixed (by kernel_rfl) ?_
            repeat (go_big_quiet_step (first | with_reducible exact cW _ _ | with_reducible exact cN _ _))
            refine wpQuiet_nil ?_
            intro w6 hw6
            have D6 : Hid (Below wr.heap.size wr w6) := (show Below _ _ _ by obtain ⟨⟨dq, osq⟩, rfl⟩ := hw6; exact below_regrown wr dq osq)
            have S6 := hide (SR.out.kept D6.out)
            have L6 : Hid (Below w.heap.size w w6) := L1.out.trans (S6.out.lo.mono L1.out.size)
            have B6 := hide (B1.out.kept S6.out.lo)
            clear hw6 cW cN c1 c4 D6 BX HQ
            have d4 := B6.out.cell (j := 4) rfl
            have d5 := B6.out.cell (j := 5) rfl
            simp only at d4 d5
            cases h1 : lt key fr with
            | true =>
              have q3 : Op.bytesLess key.toList fr.toList = true := h1
              go_wp2_with fail
              refine (lives_any w6).mono ?_
              rintro e wz ⟨rfl, hbz⟩
              have LZ : Hid (Below w.heap.size w wz) := L6.out.trans (hbz.mono (L6.out).size)
              clear hbz
              go_wp2_with fail
              go_ret
              exact ⟨rfl, LZ.out⟩
            | false =>
              have q3 : Op.bytesLess key.toList fr.toList = false := h1
              cases h2 : lt tt key with
              | true =>
                have q4 : ∀ W, (binOp .gtr 9 (.string key) (.string tt)).run Try.prog W = .ok (.bool true) W := fun W => by rw [gt_str, h2]
                go_wp2_with fail
                refine (lives_any w6).mono ?_
                rintro e wz ⟨rfl, hbz⟩
                have LZ : Hid (Below w.heap.size w wz) := L6.out.trans (hbz.mono (L6.out).size)
                clear hbz
                go_wp2_with fail
                go_ret
                exact ⟨rfl, LZ.out⟩
              | false =>
                have q4 : ∀ W, (binOp .gtr 9 (.string key) (.string tt)).run Try.prog W = .ok (.bool false) W := fun W => by rw [gt_str, h2]
                obtain ⟨W1, HW1⟩ : ∃ q, Hid (withinS s ks fr key xn = q) := ⟨_, rfl⟩
                obtain ⟨W2, HW2⟩ : ∃ q, Hid (withinS s ks key tt xn = q) := ⟨_, rfl⟩
                have HW : Hid (withinS s ks fr tt xn = (W1 || W2)) := (show _ = _ by rw [within_split h1 h2, HW1.out, HW2.out])
                have HLA : Hid (s.last ≤ xn → W1 = false ∧ W2 = false) := (show _ → _ from fun hq => ⟨by rw [← HW1.out]; exact within_late HI.out hq, by rw [← HW2.out]; exact within_late HI.out hq⟩)
                have c0 := quiet_of (w := w6) (fun W hW => (S6.out.kept hW).within (by omega) HI.out fr tt xn)
                have c1 := quiet_of (w := w6) (fun W hW => (S6.out.kept hW).within (by omega) HI.out fr key xn)
                have c2 := quiet_of (w := w6) (fun W hW => (S6.out.kept hW).within (by omega) HI.out key tt xn)
                have cL := quiet_of (w := w6) (fun W hW => (S6.out.kept hW).lastB)
                have cV := quiet_of (w := w6) (fun W _ => lives_any W)
                rw [HW.out] at c0
                rw [HW1.out] at c1
                rw [HW2.out] at c2
                have k1 := cell_regrown (B6.out.cell (j := 1) rfl)
                have k4 := cell_regrown (B6.out.cell (j := 4) rfl)
                have k5 := cell_regrown (B6.out.cell (j := 5) rfl)
                simp only at k1 k4 k5
                go_wp2_with fail
                clear d4 d5 q3 q4 h1 h2 q1 q2 hkey
                by_cases hla : xn < s.last
                · have q5 : decide (xn < s.last) = true := by simp [hla]
                  cases W1 with
                  | true =>
                    refine wp_region_quiet_below Try.mixed (by kernel_rfl) ?_
                    repeat (go_big_quiet_step (first | with_reducible exact c0 _ _ | with_reducible exact c1 _ _ | with_reducible exact c2 _ _ | with_reducible exact cL _ _ | with_reducible exact cV _ _))
                    refine wpQuiet_nil ?_
                    intro w7 hw7
                    have D7 : Hid (Below w6.heap.size w6 w7) := (show Below _ _ _ by obtain ⟨⟨dq, osq⟩, rfl⟩ := hw7; exact below_regrown w6 dq osq)
                    have L7 : Hid (Below w.heap.size w w7) := L6.out.trans (D7.out.mono L6.out.size)
                    clear hw7 c0 c1 c2 cL cV k1 k4 k5
                    go_wp2_with fail
                    go_ret
                    exact ⟨rfl, L7.out⟩
                  | false =>
                    cases W2 with
                    | true =>
                      refine wp_region_quiet_below Try.mixed (by kernel_rfl) ?_
                      repeat (go_big_quiet_step (first | with_reducible exact c0 _ _ | with_reducible exact c1 _ _ | with_reducible exact c2 _ _ | with_reducible exact cL _ _ | with_reducible exact cV _ _))
                      refine wpQuiet_nil ?_
                      intro w7 hw7
                      have D7 : Hid (Below w6.heap.size w6 w7) := (show Below _ _ _ by obtain ⟨⟨dq, osq⟩, rfl⟩ := hw7; exact below_regrown w6 dq osq)
                      have L7 : Hid (Below w.heap.size w w7) := L6.out.trans (D7.out.mono L6.out.size)
                      clear hw7 c0 c1 c2 cL cV k1 k4 k5
                      go_wp2_with fail
                      go_ret
                      exact ⟨rfl, L7.out⟩
                    | false =>
                      refine wp_region_quiet_below Try.mixed (by kernel_rfl) ?_
                      repeat (go_big_quiet_step (first | with_reducible exact c0 _ _ | with_reducible exact c1 _ _ | with_reducible exact c2 _ _ | with_reducible exact cL _ _ | with_reducible exact cV _ _))
                      refine wpQuiet_nil ?_
                      intro w7 hw7
                      have D7 : Hid (Below w6.heap.size w6 w7) := (show Below _ _ _ by obtain ⟨⟨dq, osq⟩, rfl⟩ := hw7; exact below_regrown w6 dq osq)
                      have L7 : Hid (Below w.heap.size w w7) := L6.out.trans (D7.out.mono L6.out.size)
                      clear hw7 c0 c1 c2 cL cV k1 k4 k5
                      go_wp2_with fail
                      go_ret
                      exact ⟨rfl, L7.out⟩
                · have q5 : decide (xn < s.last) = false := by simp; omega
                  obtain ⟨rfl, rfl⟩ := HLA.out (by omega)
                  refine wp_region_quiet_below Try.mixed (by kernel_rfl) ?_
                  repeat (go_big_quiet_step (first | with_reducible exact c0 _ _ | with_reducible exact c1 _ _ | with_reducible exact c2 _ _ | with_reducible exact cL _ _ | with_reducible exact cV _ _))
                  refine wpQuiet_nil ?_
                  intro w7 hw7
                  have D7 : Hid (Below w6.heap.size w6 w7) := (show Below _ _ _ by obtain ⟨⟨dq, osq⟩, rfl⟩ := hw7; exact below_regrown w6 dq osq)
                  have L7 : Hid (Below w.heap.size w w7) := L6.out.trans (D7.out.mono L6.out.size)
                  clear hw7 c0 c1 c2 cL cV k1 k4 k5
                  go_wp2_with fail
                  go_ret
                  exact ⟨rfl, L7.out⟩
#print axioms storeWrote_any
end Go.Proofs.Ytgaoionnfkbhaab
