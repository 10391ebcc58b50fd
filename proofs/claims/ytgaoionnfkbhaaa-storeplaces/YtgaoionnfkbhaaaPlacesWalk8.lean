/-
  indenturelaw08.StorePlaces: what the call does.
-/
import Derived.Test.YtgaoionnfkbhaaaStV
namespace Go.Proofs.Ytgaoionnfkbhaaa
open Go.RowKit
set_option maxRecDepth 100000 in
set_option maxHeartbeats 8000000 in
theorem storePlaces_any {w : World} {v : Value} {L : List Ac} (h : RdG AE w v L) (hok : AcsOk w L) (z : Int) (key : ByteArray) : Calls Try.prog 8 #[v, .int .i64 z, .string key] w fun e w' => e = .returned (.bool true) ∧ Below w.heap.size w w' := by
  have HL := hide h
  have HOK := hide hok
  obtain ⟨a, cp, rfl⟩ := h.slice
  have hz := Zact8
  have hn : L.length ≤ 9223372036854775807 := Nat.le_trans h.cap h.max
  clear h hok
  obtain ⟨m, HM⟩ : ∃ m, Hid (L.length = m) := ⟨_, rfl⟩
  rw [HM.out] at HL hn ⊢
  go_enter Try.func8, Try.ntmps8
  go_wp2_with fail
  refine ls_new.mono ?_
  rintro e w1 ⟨D, rfl, hls⟩
  have S1 := hide hls
  have HD := hide (show True from trivial)
  clear hls HD
  go_wp2_with fail
  refine (light_any (HL.out.kept S1.out.lo) (fun a ha => (HOK.out a ha).kept S1.out.lo)).mono ?_
  rintro e w2 ⟨b, rfl, hlight, hb2⟩
  have S2 := hide (S1.out.kept hb2)
  clear hb2
  cases b with
  | false =>
    go_wp2_with fail
    refine (lives_any w2).mono ?_
    rintro e wz ⟨rfl, hbz⟩
    have LZ : Hid (Below w.heap.size w wz) := S2.out.lo.trans (hbz.mono (S2.out.lo).size)
    clear hbz
    go_wp2_with fail
    go_ret
    exact ⟨rfl, LZ.out⟩
  | true =>
    have HLI := hide (hlight rfl)
    clear hlight
    have hm60 : m ≤ 60 := by have := HLI.out.1; rw [HM.out] at this; exact this
    by_cases hkey : 200 < key.size
    · have q1 : decide ((200 : Int) < (key.size : Int)) = true := by simp; omega
      go_wp2_with fail
      refine (lives_any w2).mono ?_
      rintro e wz ⟨rfl, hbz⟩
      have LZ : Hid (Below w.heap.size w wz) := S2.out.lo.trans (hbz.mono (S2.out.lo).size)
      clear hbz
      go_wp2_with fail
      go_ret
      exact ⟨rfl, LZ.out⟩
    · have q1 : decide ((200 : Int) < (key.size : Int)) = false := by simp; omega
      have hkm : key.size ≤ maxLen := by simp only [maxLen]; omega
      go_wp2_with fail
      go_loopg [28] m (fun g x wr => ∃ (i : Nat) (s : SP), g + i = m ∧ x = .int .i64 (i : Int) ∧ Hid (LS w wr D (2 * i) s (fun _ => False)))
      case atStart => exact ⟨0, sp0, by omega, rfl, S2.out.mono (by omega)⟩
      case round =>
        obtain ⟨i, s, hgi, rfl, SR⟩ := hrel
        by_cases hlt : i < m
        · have q2 : (i : Int) < (m : Int) := by omega
          have hrd := hide (HL.out.kept SR.out.lo)
          obtain ⟨b, off, rfl, hlb4, hx⟩ := (hrd.out).nth (by omega)
          have hlt' : i < L.length := by rw [HM.out]; exact hlt
          have hr : wr.rangeAt b (off + i * 6) (AC L[i]) := hx i hlt'
          obtain ⟨p, HPp⟩ : ∃ p, Hid (L[i] = p) := ⟨L[i], (show L[i] = L[i] from rfl)⟩
          rw [HPp.out] at hr
          clear hx hlb4
          go_upto_region 7 with (first
            | (refine wpList_load_mid rfl 33 _ rfl b (off + i * 6) rfl (AC p) _ hr Try.underlying33 rfl Try.size33 ?_)
            | (refine wpList_store_new rfl 33 _ _ rfl wr _ (AC p).toArray _ rfl rfl rfl Try.size33 rfl (all_one (AC_one p)) ?_)
            | fail)
          obtain ⟨E, HE⟩ : ∃ E, Hid (wr.heap.size = E) := ⟨_, rfl⟩
          rw [HE.out]
          obtain ⟨w4, hw4⟩ : ∃ x, x = wr.alloc (.cells (AC p).toArray 33 (0, 0)) := ⟨_, rfl⟩
          rw [← hw4]
          have G4 : Hid (Below wr.heap.size wr w4) := (show Below _ _ _ by rw [hw4]; exact (Below.refl _ _).alloc (Nat.le_refl _) _)
          have B4 : Hid (Blk w4 E 33 (AC p)) := (show Blk _ _ _ _ by rw [hw4, ← HE.out]; exact Blk.new wr 33 (AC p))
          clear hw4 hr
          have S4 := hide (SR.out.own G4.out (Nat.le_of_eq HE.out) B4.out.lt)
          have HL60 := hide ((HLI.out.2.2 p (by rw [← HPp.out]; exact List.getElem_mem hlt')).1)
          have HA := hide (HOK.out p (by rw [← HPp.out]; exact List.getElem_mem hlt'))
          have LOW := hide HA.out.low
          have hbn := S4.out.bnd
          obtain ⟨kd, xn, xm, ad, ln, cpa, pl, fr, tt⟩ := p
          simp only at LOW HL60
          have hwl : IntKind.i64.wrap (s.last + 1) = s.last + 1 := wr64 (by omega) (by omega)
          go_wp2_with fail
          refine S4.out.last.mono ?_
          rintro e w_ ⟨rfl, hw⟩
          subst w_
          go_wp2_with fail
          refine S4.out.floor.mono ?_
          rintro e w_ ⟨rfl, hw⟩
          subst w_
          have c0 := B4.out.cell (j := 0) rfl
          have c1 := B4.out.cell (j := 1) rfl
          have c3 := B4.out.cell (j := 3) rfl
          simp only at c0 c1 c3
          have hr4 := hide (HA.out.r.kept S4.out.lo)
          simp only at hr4
          obtain ⟨q, HQ⟩ : ∃ q, Hid (goodP em pl = q) := ⟨_, rfl⟩
          obtain ⟨er, HER⟩ : ∃ x : Int, Hid ((if instOk s xn pl = true then 0 else 2) = x) := ⟨_, rfl⟩
          obtain ⟨s5, HS5⟩ : ∃ x, Hid (instP s xn pl = x) := ⟨_, rfl⟩
          have C5 := hide (S4.out.install (by omega) hr4.out HL60.out LOW.out xn)
          rw [HER.out, HS5.out] at C5
          have HI : Hid (instOk s xn pl = (q && decide (xn = s.last + 1))) := (show _ = _ by unfold instOk; rw [HQ.out])
          have hyes : Hid (instOk s xn pl = true → er = 0 ∧ s5.last = xn) := (show _ → _ from fun hq => ⟨by rw [← HER.out, hq]; rfl, by rw [← HS5.out]; unfold instP; rw [hq]; rfl⟩)
          have hno : Hid (instOk s xn pl = false → er = 2) := (show _ → _ from fun hq => by rw [← HER.out, hq]; rfl)
          by_cases hk0 : kd = 0
          · subst hk0
            go_wp2_with fail
            refine C5.out.mono ?_
            rintro e w5 ⟨rfl, hls, hsm⟩
            have S5 := hide hls
            have B5 := hide (B4.out.same hsm (.inr rfl))
            have d0 := B5.out.cell (j := 0) rfl
            have d1 := B5.out.cell (j := 1) rfl
            have d3 := B5.out.cell (j := 3) rfl
            simp only at d0 d1 d3
            have hr5 := hide (HA.out.r.kept S5.out.lo)
            simp only at hr5
            have hbn5 := S5.out.bnd
            clear hls hsm C5 c0 c1 c3
            have HG5 := hide (sGood_any hr5.out)
            rw [HQ.out] at HG5
            go_wp2_with fail
            refine HG5.out.mono ?_
            rintro e w6 ⟨rfl, hb6⟩
            have S6 := hide (S5.out.kept hb6)
            have B6 := hide (B5.out.kept hb6)
            clear hb6 d0 d1 d3 HG5
            have d0 := B6.out.cell (j := 0) rfl
            have d1 := B6.out.cell (j := 1) rfl
            have d3 := B6.out.cell (j := 3) rfl
            simp only at d0 d1 d3
            cases q with
            | false =>
              obtain rfl : er = 2 := hno.out (by rw [HI.out]; rfl)
              go_wp2_with fail
              refine wp_region_tails Try.mixed (KS (fun i_ => match i_ with | 0 | 1 => .val (.pointer (some ⟨D, 0, none⟩)) | 2 => .val (.int .i64 s5.last) | 3 => .val (.int .i64 (s5.last + 1)) | 4 => .val (.pointer (some ⟨E, 3, none⟩)) | 5 => .val (.slice ad ln cpa) | _ => .free)) 137 rfl (by decide +kernel) 6 (by decide) (by decide +kernel) (KS_mono _) ?_ ?_
              · refine AllFrom.cons ⟨rfl, fun a' w' hg hk hd Q => ?_⟩ (AllFrom.cons ⟨rfl, fun a' w' hg hk hd Q => ?_⟩ (AllFrom.cons ⟨rfl, fun a' w' hg hk hd Q => ?_⟩ (AllFrom.cons ⟨rfl, fun a' w' hg hk hd Q => ?_⟩ (AllFrom.cons ⟨rfl, fun a' w' hg hk hd Q => ?_⟩ (AllFrom.cons ⟨rfl, fun a' w' hg hk hd Q => ?_⟩ AllFrom.nil)))))
                · -- 0: Op.move (Operand.tmp 7)
                  have e7 : a'.eval (.tmp 7) = .pointer (some ⟨D, 0, none⟩) := hk.at 7 (by decide +kernel)
                  exact wp_value _ (by simp only [execOp, e7]; rfl) (KS_mkv rfl rfl)
                · -- 1: Op.move (Operand.tmp 7)
                  have e7 : a'.eval (.tmp 7) = .pointer (some ⟨D, 0, none⟩) := hk.at 7 (by decide +kernel)
                  exact wp_value _ (by simp only [execOp, e7]; rfl) (KS_mkv rfl rfl)
                · -- 2: Op.call ( callee := Callee.value (Operand.func 13), args := 
                  have e75 : a'.eval (.tmp 75) = .pointer (some ⟨D, 0, none⟩) := KS_val (Deps.val hd 1 75 (by decide +kernel)) rfl
                  refine wp_call 13 _ (run_enter 13 _ _ rfl (by kernel_rfl)) ?_
                  simp only [List.map_toArray, List.map_nil, List.map_cons, e75]
                  refine (S6.out.kept hg).last.mono ?_
                  rintro e_ w_ ⟨rfl, hw_⟩
                  subst w_
                  exact ⟨_, rfl, KS_mkv rfl rfl, Gr.refl _⟩
                · -- 3: Op.binOp BinOp.add 3 (Operand.tmp 76) (Operand.const (Value.
                  have e76 : a'.eval (.tmp 76) = .int .i64 s5.last := KS_val (Deps.val hd 2 76 (by decide +kernel)) rfl
                  exact wp_value (.int .i64 (s5.last + 1)) (by simp only [execOp, e76]; go_simp; exact wr64 (by have := S6.out.bnd; omega) (by have := S6.out.bnd; omega)) (KS_mkv rfl rfl)
                · -- 4: Op.fieldAddr 33 (Operand.tmp 9) 3
                  have e9 : a'.eval (.tmp 9) = .pointer (some ⟨E, 0, none⟩) := hk.at 9 (by decide +kernel)
                  clear hd hk
                  exact wp_value (.pointer (some ⟨E, 3, none⟩)) (by simp only [execOp, e9]; go_simp) (KS_mkv rfl rfl)
                · -- 5: Op.load 31 (Operand.tmp 78)
                  have e78 : a'.eval (.tmp 78) = .pointer (some ⟨E, 3, none⟩) := KS_val (Deps.val hd 4 78 (by decide +kernel)) rfl
                  have c := (B6.out.kept hg).cell (j := 3) rfl
                  simp only at c
                  clear hd hk
                  exact wp_value (.slice ad ln cpa) (by simp only [execOp, e78]; go_simp) (KS_mkv rfl rfl)
              · intro a' w_ hsz hdf hk hall hg
                have e74 : a'.eval (.tmp 74) = .pointer (some ⟨D, 0, none⟩) := KS_val (hall 0 _ 74 (by decide) rfl rfl) rfl
                have e75 : a'.eval (.tmp 75) = .pointer (some ⟨D, 0, none⟩) := KS_val (hall 1 _ 75 (by decide) rfl rfl) rfl
                have e76 : a'.eval (.tmp 76) = .int .i64 s5.last := KS_val (hall 2 _ 76 (by decide) rfl rfl) rfl
                have e77 : a'.eval (.tmp 77) = .int .i64 (s5.last + 1) := KS_val (hall 3 _ 77 (by decide) rfl rfl) rfl
                have e78 : a'.eval (.tmp 78) = .pointer (some ⟨E, 3, none⟩) := KS_val (hall 4 _ 78 (by decide) rfl rfl) rfl
                have e79 : a'.eval (.tmp 79) = .slice ad ln cpa := KS_val (hall 5 _ 79 (by decide) rfl rfl) rfl
                obtain ⟨x80, e80⟩ : ∃ v, a'.eval (.tmp 80) = v := ⟨_, rfl⟩
                have hr_ := (HA.out.r.kept ((S6.out.kept hg).lo))
                simp only at hr_
                refine wpSeq_call rfl 24 _ (run_enter 24 _ _ rfl (by kernel_rfl)) ?_
                simp only [List.map_toArray, List.map_nil, List.map_cons, e74, e77, e79]
                refine ((S6.out.kept hg).install (by omega) hr_ HL60.out LOW.out (s5.last + 1)).mono ?_
                rintro e_ w8 ⟨rfl, hls_, hsm_⟩
                refine ⟨_, rfl, ?_⟩
                obtain ⟨er_w8, HER_w8⟩ : ∃ x : Int, Hid ((if instOk s5 (s5.last + 1) pl = true then 0 else 2) = x) := ⟨_, rfl⟩
                rw [HER_w8.out]
                have S8 := hide hls_
                have B_w8 := hide ((B6.out.kept hg).same hsm_ (.inr rfl))
                have ha := act_puts 137 rfl hsz hdf hk [74, 75, 76, 77, 78, 79, 80] (by decide +kernel)
                simp only [puts, List.foldl_cons, List.foldl_nil, e74, e75, e76, e77, e78, e79, e80] at ha
                simp only [Act.put, List.setIfInBounds_toArray, List.set_cons_succ, List.set_cons_zero] at ha
                clear hall hk hsz hdf hls_ hsm_ hr_ hg e74 e75 e76 e77 e78 e79 e80
                subst ha
                simp only [Act.put, List.setIfInBounds_toArray, List.set_cons_succ, List.set_cons_zero]
                go_wp2_with fail
                go_roundg (gk - 1)
                case measure => omega
                case rel => exact ⟨i + 1, _, by omega, by go_num, (S8.out.mono (by omega)).less (fun _ h => h.elim)⟩
            | true =>
              by_cases hat : xn = s.last + 1
              · have hq : instOk s xn pl = true := by rw [HI.out, decide_eq_true hat]; rfl
                obtain ⟨her, hl5⟩ := hyes.out hq
                subst her
                have hat' : s.last + 1 = xn := hat.symm
                clear hat hq
                go_wp2_with fail
                refine S6.out.last.mono ?_
                rintro e w_ ⟨rfl, hw⟩
                subst w_
                rw [hl5]
                clear hl5
                go_wp2_with fail
                refine wp_region_tails Try.mixed (KS (fun i_ => match i_ with | 0 | 1 => .val (.pointer (some ⟨D, 0, none⟩)) | 2 => .val (.int .i64 s5.last) | 3 => .val (.int .i64 (s5.last + 1)) | 4 => .val (.pointer (some ⟨E, 3, none⟩)) | 5 => .val (.slice ad ln cpa) | _ => .free)) 137 rfl (by decide +kernel) 6 (by decide) (by decide +kernel) (KS_mono _) ?_ ?_
                · refine AllFrom.cons ⟨rfl, fun a' w' hg hk hd Q => ?_⟩ (AllFrom.cons ⟨rfl, fun a' w' hg hk hd Q => ?_⟩ (AllFrom.cons ⟨rfl, fun a' w' hg hk hd Q => ?_⟩ (AllFrom.cons ⟨rfl, fun a' w' hg hk hd Q => ?_⟩ (AllFrom.cons ⟨rfl, fun a' w' hg hk hd Q => ?_⟩ (AllFrom.cons ⟨rfl, fun a' w' hg hk hd Q => ?_⟩ AllFrom.nil)))))
                  · -- 0: Op.move (Operand.tmp 7)
                    have e7 : a'.eval (.tmp 7) = .pointer (some ⟨D, 0, none⟩) := hk.at 7 (by decide +kernel)
                    exact wp_value _ (by simp only [execOp, e7]; rfl) (KS_mkv rfl rfl)
                  · -- 1: Op.move (Operand.tmp 7)
                    have e7 : a'.eval (.tmp 7) = .pointer (some ⟨D, 0, none⟩) := hk.at 7 (by decide +kernel)
                    exact wp_value _ (by simp only [execOp, e7]; rfl) (KS_mkv rfl rfl)
                  · -- 2: Op.call ( callee := Callee.value (Operand.func 13), args := 
                    have e75 : a'.eval (.tmp 75) = .pointer (some ⟨D, 0, none⟩) := KS_val (Deps.val hd 1 75 (by decide +kernel)) rfl
                    refine wp_call 13 _ (run_enter 13 _ _ rfl (by kernel_rfl)) ?_
                    simp only [List.map_toArray, List.map_nil, List.map_cons, e75]
                    refine (S6.out.kept hg).last.mono ?_
                    rintro e_ w_ ⟨rfl, hw_⟩
                    subst w_
                    exact ⟨_, rfl, KS_mkv rfl rfl, Gr.refl _⟩
                  · -- 3: Op.binOp BinOp.add 3 (Operand.tmp 76) (Operand.const (Value.
                    have e76 : a'.eval (.tmp 76) = .int .i64 s5.last := KS_val (Deps.val hd 2 76 (by decide +kernel)) rfl
                    exact wp_value (.int .i64 (s5.last + 1)) (by simp only [execOp, e76]; go_simp; exact wr64 (by have := S6.out.bnd; omega) (by have := S6.out.bnd; omega)) (KS_mkv rfl rfl)
                  · -- 4: Op.fieldAddr 33 (Operand.tmp 9) 3
                    have e9 : a'.eval (.tmp 9) = .pointer (some ⟨E, 0, none⟩) := hk.at 9 (by decide +kernel)
                    clear hd hk
                    exact wp_value (.pointer (some ⟨E, 3, none⟩)) (by simp only [execOp, e9]; go_simp) (KS_mkv rfl rfl)
                  · -- 5: Op.load 31 (Operand.tmp 78)
                    have e78 : a'.eval (.tmp 78) = .pointer (some ⟨E, 3, none⟩) := KS_val (Deps.val hd 4 78 (by decide +kernel)) rfl
                    have c := (B6.out.kept hg).cell (j := 3) rfl
                    simp only at c
                    clear hd hk
                    exact wp_value (.slice ad ln cpa) (by simp only [execOp, e78]; go_simp) (KS_mkv rfl rfl)
                · intro a' w_ hsz hdf hk hall hg
                  have e74 : a'.eval (.tmp 74) = .pointer (some ⟨D, 0, none⟩) := KS_val (hall 0 _ 74 (by decide) rfl rfl) rfl
                  have e75 : a'.eval (.tmp 75) = .pointer (some ⟨D, 0, none⟩) := KS_val (hall 1 _ 75 (by decide) rfl rfl) rfl
                  have e76 : a'.eval (.tmp 76) = .int .i64 s5.last := KS_val (hall 2 _ 76 (by decide) rfl rfl) rfl
                  have e77 : a'.eval (.tmp 77) = .int .i64 (s5.last + 1) := KS_val (hall 3 _ 77 (by decide) rfl rfl) rfl
                  have e78 : a'.eval (.tmp 78) = .pointer (some ⟨E, 3, none⟩) := KS_val (hall 4 _ 78 (by decide) rfl rfl) rfl
                  have e79 : a'.eval (.tmp 79) = .slice ad ln cpa := KS_val (hall 5 _ 79 (by decide) rfl rfl) rfl
                  obtain ⟨x80, e80⟩ : ∃ v, a'.eval (.tmp 80) = v := ⟨_, rfl⟩
                  have hr_ := (HA.out.r.kept ((S6.out.kept hg).lo))
                  simp only at hr_
                  refine wpSeq_call rfl 24 _ (run_enter 24 _ _ rfl (by kernel_rfl)) ?_
                  simp only [List.map_toArray, List.map_nil, List.map_cons, e74, e77, e79]
                  refine ((S6.out.kept hg).install (by omega) hr_ HL60.out LOW.out (s5.last + 1)).mono ?_
                  rintro e_ w8 ⟨rfl, hls_, hsm_⟩
                  refine ⟨_, rfl, ?_⟩
                  obtain ⟨er_w8, HER_w8⟩ : ∃ x : Int, Hid ((if instOk s5 (s5.last + 1) pl = true then 0 else 2) = x) := ⟨_, rfl⟩
                  rw [HER_w8.out]
                  have S8 := hide hls_
                  have B_w8 := hide ((B6.out.kept hg).same hsm_ (.inr rfl))
                  have ha := act_puts 137 rfl hsz hdf hk [74, 75, 76, 77, 78, 79, 80] (by decide +kernel)
                  simp only [puts, List.foldl_cons, List.foldl_nil, e74, e75, e76, e77, e78, e79, e80] at ha
                  simp only [Act.put, List.setIfInBounds_toArray, List.set_cons_succ, List.set_cons_zero] at ha
                  clear hall hk hsz hdf hls_ hsm_ hr_ hg e74 e75 e76 e77 e78 e79 e80
                  subst ha
                  simp only [Act.put, List.setIfInBounds_toArray, List.set_cons_succ, List.set_cons_zero]
                  go_wp2_with fail
                  go_roundg (gk - 1)
                  case measure => omega
                  case rel => exact ⟨i + 1, _, by omega, by go_num, (S8.out.mono (by omega)).less (fun _ h => h.elim)⟩
              · have hq : instOk s xn pl = false := by rw [HI.out, decide_eq_false hat]; rfl
                obtain rfl : er = 2 := hno.out hq
                clear hq
                go_wp2_with fail
                refine wp_region_tails Try.mixed (KS (fun i_ => match i_ with | 0 | 1 => .val (.pointer (some ⟨D, 0, none⟩)) | 2 => .val (.int .i64 s5.last) | 3 => .val (.int .i64 (s5.last + 1)) | 4 => .val (.pointer (some ⟨E, 3, none⟩)) | 5 => .val (.slice ad ln cpa) | _ => .free)) 137 rfl (by decide +kernel) 6 (by decide) (by decide +kernel) (KS_mono _) ?_ ?_
                · refine AllFrom.cons ⟨rfl, fun a' w' hg hk hd Q => ?_⟩ (AllFrom.cons ⟨rfl, fun a' w' hg hk hd Q => ?_⟩ (AllFrom.cons ⟨rfl, fun a' w' hg hk hd Q => ?_⟩ (AllFrom.cons ⟨rfl, fun a' w' hg hk hd Q => ?_⟩ (AllFrom.cons ⟨rfl, fun a' w' hg hk hd Q => ?_⟩ (AllFrom.cons ⟨rfl, fun a' w' hg hk hd Q => ?_⟩ AllFrom.nil)))))
                  · -- 0: Op.move (Operand.tmp 7)
                    have e7 : a'.eval (.tmp 7) = .pointer (some ⟨D, 0, none⟩) := hk.at 7 (by decide +kernel)
                    exact wp_value _ (by simp only [execOp, e7]; rfl) (KS_mkv rfl rfl)
                  · -- 1: Op.move (Operand.tmp 7)
                    have e7 : a'.eval (.tmp 7) = .pointer (some ⟨D, 0, none⟩) := hk.at 7 (by decide +kernel)
                    exact wp_value _ (by simp only [execOp, e7]; rfl) (KS_mkv rfl rfl)
                  · -- 2: Op.call ( callee := Callee.value (Operand.func 13), args := 
                    have e75 : a'.eval (.tmp 75) = .pointer (some ⟨D, 0, none⟩) := KS_val (Deps.val hd 1 75 (by decide +kernel)) rfl
                    refine wp_call 13 _ (run_enter 13 _ _ rfl (by kernel_rfl)) ?_
                    simp only [List.map_toArray, List.map_nil, List.map_cons, e75]
                    refine (S6.out.kept hg).last.mono ?_
                    rintro e_ w_ ⟨rfl, hw_⟩
                    subst w_
                    exact ⟨_, rfl, KS_mkv rfl rfl, Gr.refl _⟩
                  · -- 3: Op.binOp BinOp.add 3 (Operand.tmp 76) (Operand.const (Value.
                    have e76 : a'.eval (.tmp 76) = .int .i64 s5.last := KS_val (Deps.val hd 2 76 (by decide +kernel)) rfl
                    exact wp_value (.int .i64 (s5.last + 1)) (by simp only [execOp, e76]; go_simp; exact wr64 (by have := S6.out.bnd; omega) (by have := S6.out.bnd; omega)) (KS_mkv rfl rfl)
                  · -- 4: Op.fieldAddr 33 (Operand.tmp 9) 3
                    have e9 : a'.eval (.tmp 9) = .pointer (some ⟨E, 0, none⟩) := hk.at 9 (by decide +kernel)
                    clear hd hk
                    exact wp_value (.pointer (some ⟨E, 3, none⟩)) (by simp only [execOp, e9]; go_simp) (KS_mkv rfl rfl)
                  · -- 5: Op.load 31 (Operand.tmp 78)
                    have e78 : a'.eval (.tmp 78) = .pointer (some ⟨E, 3, none⟩) := KS_val (Deps.val hd 4 78 (by decide +kernel)) rfl
                    have c := (B6.out.kept hg).cell (j := 3) rfl
                    simp only at c
                    clear hd hk
                    exact wp_value (.slice ad ln cpa) (by simp only [execOp, e78]; go_simp) (KS_mkv rfl rfl)
                · intro a' w_ hsz hdf hk hall hg
                  have e74 : a'.eval (.tmp 74) = .pointer (some ⟨D, 0, none⟩) := KS_val (hall 0 _ 74 (by decide) rfl rfl) rfl
                  have e75 : a'.eval (.tmp 75) = .pointer (some ⟨D, 0, none⟩) := KS_val (hall 1 _ 75 (by decide) rfl rfl) rfl
                  have e76 : a'.eval (.tmp 76) = .int .i64 s5.last := KS_val (hall 2 _ 76 (by decide) rfl rfl) rfl
                  have e77 : a'.eval (.tmp 77) = .int .i64 (s5.last + 1) := KS_val (hall 3 _ 77 (by decide) rfl rfl) rfl
                  have e78 : a'.eval (.tmp 78) = .pointer (some ⟨E, 3, none⟩) := KS_val (hall 4 _ 78 (by decide) rfl rfl) rfl
                  have e79 : a'.eval (.tmp 79) = .slice ad ln cpa := KS_val (hall 5 _ 79 (by decide) rfl rfl) rfl
                  obtain ⟨x80, e80⟩ : ∃ v, a'.eval (.tmp 80) = v := ⟨_, rfl⟩
                  have hr_ := (HA.out.r.kept ((S6.out.kept hg).lo))
                  simp only at hr_
                  refine wpSeq_call rfl 24 _ (run_enter 24 _ _ rfl (by kernel_rfl)) ?_
                  simp only [List.map_toArray, List.map_nil, List.map_cons, e74, e77, e79]
                  refine ((S6.out.kept hg).install (by omega) hr_ HL60.out LOW.out (s5.last + 1)).mono ?_
                  rintro e_ w8 ⟨rfl, hls_, hsm_⟩
                  refine ⟨_, rfl, ?_⟩
                  obtain ⟨er_w8, HER_w8⟩ : ∃ x : Int, Hid ((if instOk s5 (s5.last + 1) pl = true then 0 else 2) = x) := ⟨_, rfl⟩
                  rw [HER_w8.out]
                  have S8 := hide hls_
                  have B_w8 := hide ((B6.out.kept hg).same hsm_ (.inr rfl))
                  have ha := act_puts 137 rfl hsz hdf hk [74, 75, 76, 77, 78, 79, 80] (by decide +kernel)
                  simp only [puts, List.foldl_cons, List.foldl_nil, e74, e75, e76, e77, e78, e79, e80] at ha
                  simp only [Act.put, List.setIfInBounds_toArray, List.set_cons_succ, List.set_cons_zero] at ha
                  clear hall hk hsz hdf hls_ hsm_ hr_ hg e74 e75 e76 e77 e78 e79 e80
                  subst ha
                  simp only [Act.put, List.setIfInBounds_toArray, List.set_cons_succ, List.set_cons_zero]
                  go_wp2_with fail
                  go_roundg (gk - 1)
                  case measure => omega
                  case rel => exact ⟨i + 1, _, by omega, by go_num, (S8.out.mono (by omega)).less (fun _ h => h.elim)⟩
          · by_cases hk1 : kd = 1
            · subst hk1
              go_wp2_with fail
              refine C5.out.mono ?_
              rintro e w5 ⟨rfl, hls, hsm⟩
              have S5 := hide hls
              have B5 := hide (B4.out.same hsm (.inr rfl))
              have d0 := B5.out.cell (j := 0) rfl
              have d1 := B5.out.cell (j := 1) rfl
              have d3 := B5.out.cell (j := 3) rfl
              simp only at d0 d1 d3
              have hr5 := hide (HA.out.r.kept S5.out.lo)
              simp only at hr5
              have hbn5 := S5.out.bnd
              clear hls hsm C5 c0 c1 c3
              have HG5 := hide (sGood_any hr5.out)
              rw [HQ.out] at HG5
              go_wp2_with fail
              refine HG5.out.mono ?_
              rintro e w6 ⟨rfl, hb6⟩
              have S6 := hide (S5.out.kept hb6)
              have B6 := hide (B5.out.kept hb6)
              clear hb6 d0 d1 d3 HG5
              have d0 := B6.out.cell (j := 0) rfl
              have d1 := B6.out.cell (j := 1) rfl
              have d3 := B6.out.cell (j := 3) rfl
              simp only at d0 d1 d3
              cases q with
              | false =>
                obtain rfl : er = 2 := hno.out (by rw [HI.out]; rfl)
                go_wp2_with fail
                go_roundg (gk - 1)
                case measure => omega
                case rel => exact ⟨i + 1, _, by omega, by go_num, (S6.out.mono (by omega)).less (fun _ h => h.elim)⟩
              | true =>
                by_cases hat : xn = s.last + 1
                · have hq : instOk s xn pl = true := by rw [HI.out, decide_eq_true hat]; rfl
                  obtain ⟨her, hl5⟩ := hyes.out hq
                  subst her
                  have hat' : s.last + 1 = xn := hat.symm
                  clear hat hq
                  go_wp2_with fail
                  refine S6.out.last.mono ?_
                  rintro e w_ ⟨rfl, hw⟩
                  subst w_
                  rw [hl5]
                  clear hl5
                  go_wp2_with fail
                  go_roundg (gk - 1)
                  case measure => omega
                  case rel => exact ⟨i + 1, _, by omega, by go_num, (S6.out.mono (by omega)).less (fun _ h => h.elim)⟩
                · have hq : instOk s xn pl = false := by rw [HI.out, decide_eq_false hat]; rfl
                  obtain rfl : er = 2 := hno.out hq
                  clear hq
                  go_wp2_with fail
                  go_roundg (gk - 1)
                  case measure => omega
                  case rel => exact ⟨i + 1, _, by omega, by go_num, (S6.out.mono (by omega)).less (fun _ h => h.elim)⟩
            · by_cases hk2 : kd = 2
              · subst hk2
                obtain ⟨ec, HEC⟩ : ∃ x : Int, Hid ((if collOk s xn = true then 0 else 2) = x) := ⟨_, rfl⟩
                have C6 := hide (S4.out.collect (by omega) xn)
                rw [HEC.out] at C6
                go_wp2_with fail
                refine C6.out.mono ?_
                rintro e w5 ⟨rfl, hls, hsm⟩
                have S5 := hide hls
                have B5 := hide (B4.out.same hsm (.inr rfl))
                have d1 := B5.out.cell (j := 1) rfl
                simp only at d1
                clear hls hsm C6 c0 c1 c3
                by_cases h1 : s.floor ≤ xn
                · have q3 : decide (s.floor ≤ xn) = true := by simp [h1]
                  by_cases h2 : xn ≤ s.last
                  · have q4 : decide (xn ≤ s.last) = true := by simp [h2]
                    obtain rfl : ec = 0 := by rw [← HEC.out]; unfold collOk; simp [h1, h2]
                    go_wp2_with fail
                    go_roundg (gk - 1)
                    case measure => omega
                    case rel => exact ⟨i + 1, _, by omega, by go_num, (S5.out.mono (by omega)).less (fun _ h => h.elim)⟩
                  · have q4 : decide (xn ≤ s.last) = false := by simp; omega
                    obtain rfl : ec = 2 := by rw [← HEC.out]; unfold collOk; rw [q4]; simp
                    go_wp2_with fail
                    go_roundg (gk - 1)
                    case measure => omega
                    case rel => exact ⟨i + 1, _, by omega, by go_num, (S5.out.mono (by omega)).less (fun _ h => h.elim)⟩
                · have q3 : decide (s.floor ≤ xn) = false := by simp; omega
                  obtain rfl : ec = 2 := by rw [← HEC.out]; unfold collOk; rw [q3]; simp
                  go_wp2_with fail
                  go_roundg (gk - 1)
                  case measure => omega
                  case rel => exact ⟨i + 1, _, by omega, by go_num, (S5.out.mono (by omega)).less (fun _ h => h.elim)⟩
              · go_wp2_with fail
                go_roundg (gk - 1)
                case measure => omega
                case rel => exact ⟨i + 1, s, by omega, by go_num, (S4.out.mono (by omega)).less (fun _ h => h.elim)⟩
        · obtain rfl : i = m := by omega
          have q2 : ¬ (i : Int) < (i : Int) := by omega
          obtain ⟨g1, g2, HG⟩ : ∃ x y, Hid (getS s key z = (x, y)) := ⟨_, _, rfl⟩
          have C5 := hide (SR.out.get (by omega) key hkm z)
          rw [HG.out] at C5
          have HG2 : Hid (g2 = (getS s key z).2) := (show _ = _ by rw [HG.out])
          go_wp2_with fail
          refine C5.out.mono ?_
          rintro e w5 ⟨rfl, hb5⟩
          have S5 := hide (SR.out.kept hb5)
          clear hb5 C5
          go_wp2_with fail
          refine S5.out.floor.mono ?_
          rintro e w_ ⟨rfl, hw⟩
          subst w_
          by_cases h1 : z < s.floor
          · have q3 : decide (z < s.floor) = true := by simp [h1]
            obtain rfl : g2 = 11 := by rw [HG2.out]; unfold getS mayP; simp [h1]
            go_wp2_with fail
            refine (lives_any w5).mono ?_
            rintro e wz ⟨rfl, hbz⟩
            have LZ : Hid (Below w.heap.size w wz) := S5.out.lo.trans (hbz.mono (S5.out.lo).size)
            clear hbz
            go_wp2_with fail
            go_ret
            exact ⟨rfl, LZ.out⟩
          · have q3 : decide (z < s.floor) = false := by simp; omega
            go_wp2_with fail
            refine S5.out.last.mono ?_
            rintro e w_ ⟨rfl, hw⟩
            subst w_
            by_cases h2 : s.last < z
            · have q4 : decide (s.last < z) = true := by simp [h2]
              have hn1 : ¬ z < s.floor := by omega
              obtain rfl : g2 = 2 := by rw [HG2.out]; unfold getS mayP; rw [if_neg hn1, if_pos h2]; rfl
              clear hn1
              go_wp2_with fail
              refine (lives_any w5).mono ?_
              rintro e wz ⟨rfl, hbz⟩
              have LZ : Hid (Below w.heap.size w wz) := S5.out.lo.trans (hbz.mono (S5.out.lo).size)
              clear hbz
              go_wp2_with fail
              go_ret
              exact ⟨rfl, LZ.out⟩
            · have q4 : decide (s.last < z) = false := by simp; omega
              have hmay : mayP s z = 0 := by unfold mayP; rw [if_neg (by omega), if_neg (by omega)]
              have hg : g2 = 0 ∨ g2 = 8 := by
                rw [HG2.out]
                unfold getS
                rw [if_pos hmay]
                cases (getP (s.ch key) z).2
                · exact .inr rfl
                · exact .inl rfl
              clear hmay
              rcases hg with rfl | rfl
              · go_wp2_with fail
                refine (lives_any w5).mono ?_
                rintro e wz ⟨rfl, hbz⟩
                have LZ : Hid (Below w.heap.size w wz) := S5.out.lo.trans (hbz.mono (S5.out.lo).size)
                clear hbz
                go_wp2_with fail
                go_ret
                exact ⟨rfl, LZ.out⟩
              · go_wp2_with fail
                refine (lives_any w5).mono ?_
                rintro e wz ⟨rfl, hbz⟩
                have LZ : Hid (Below w.heap.size w wz) := S5.out.lo.trans (hbz.mono (S5.out.lo).size)
                clear hbz
                go_wp2_with fail
                go_ret
                exact ⟨rfl, LZ.out⟩
#print axioms storePlaces_any
end Go.Proofs.Ytgaoionnfkbhaaa
