/-
  StoreCopies: the walk.
-/
import Derived.Test.YtgaoionnfkbhaaaRfO
namespace Go.Proofs.Ytgaoionnfkbhaaa
open Go.RowKit
set_option maxRecDepth 100000 in
set_option maxHeartbeats 8000000 in
theorem storeCopies_any {w : World} {v : Value} {L : List Ac} (h : RdG AE w v L) (hok : AcsOk w L) {x : Ac} (hx : AcOk w x) : Calls Try.prog 6 #[v, .agg (AC x).toArray] w fun e w' => e = .returned (.bool true) ∧ Below w.heap.size w w' := by
  have HL := hide h
  have HOK := hide hok
  have HX := hide hx
  obtain ⟨a, cp, rfl⟩ := h.slice
  have hz := Zact8
  have hn : L.length ≤ 9223372036854775807 := Nat.le_trans h.cap h.max
  clear h hok hx
  obtain ⟨m, HM⟩ : ∃ m, Hid (L.length = m) := ⟨_, rfl⟩
  rw [HM.out] at HL hn ⊢
  have L1 : Hid (Below w.heap.size w (w.alloc (.cells (AC x).toArray 33 (0, 0)))) := (Below.refl _ _).alloc (Nat.le_refl _) _
  have B1 := hide (Blk.new w 33 (AC x))
  go_enter Try.func6, Try.ntmps6
  go_upto_region 1 with fail
  obtain ⟨X, HE1⟩ : ∃ E, Hid (w.heap.size = E) := ⟨_, rfl⟩
  obtain ⟨w1, hw1⟩ : ∃ y, y = w.alloc (.cells (AC x).toArray 33 (0, 0)) := ⟨_, rfl⟩
  rw [← hw1] at L1 B1 ⊢
  rw [HE1.out] at B1 ⊢
  clear hw1
  have H1L := hide (HL.out.kept L1.out)
  have H1O : Hid (AcsOk w1 L) := (show AcsOk w1 L from fun a ha => (HOK.out a ha).kept L1.out)
  have H1X := hide (HX.out.kept L1.out)
  clear HL HOK HX
  go_wp2_with fail
  refine ls_new.mono ?_
  rintro e wn ⟨D, rfl, hls⟩
  have SN := hide hls
  clear hls
  have hbd : ∀ W, (Instr.build 30 #[]).run Try.prog W = .ok (.agg #[.slice none 0 0, .int .i64 0, .int .i64 0]) W := fun W => by kernel_rfl
  have S2 : Hid (LR2 w1 (wn.alloc (.cells (RC (.slice none 0 0) 0 0).toArray 30 (0, 0))) D wn.heap.size 0 sp0 sp0 (fun _ => False)) := lr_new SN.out ((Below.refl _ _).alloc (Nat.le_refl _) _) (Nat.le_refl _) (Blk.new wn 30 (RC (.slice none 0 0) 0 0))
  go_upto_region 2 with fail
  obtain ⟨R, HR⟩ : ∃ R, Hid (wn.heap.size = R) := ⟨_, rfl⟩
  rw [HR.out] at S2 ⊢
  obtain ⟨w2, hw2⟩ : ∃ x, x = wn.alloc (.cells (RC (.slice none 0 0) 0 0).toArray 30 (0, 0)) := ⟨_, rfl⟩
  rw [← hw2] at S2
  have hw2' : wn.alloc (.cells #[.slice none 0 0, .int .i64 0, .int .i64 0] 30 (0, 0)) = w2 := hw2.symm
  rw [hw2']
  clear hw2 hw2' hbd SN
  go_wp2_with fail
  refine (light_any (H1L.out.kept S2.out.lo) (fun a ha => (H1O.out a ha).kept S2.out.lo)).mono ?_
  rintro e w3 ⟨b, rfl, hlight, hb3⟩
  have S3 := hide (S2.out.kept hb3)
  have L3 : Hid (Below w.heap.size w w3) := L1.out.trans (S3.out.lo.mono L1.out.size)
  clear hb3
  cases b with
  | false =>
    go_wp2_with fail
    refine (lives_any w3).mono ?_
    rintro e wz ⟨rfl, hbz⟩
    have LZ : Hid (Below w.heap.size w wz) := L3.out.trans (hbz.mono (L3.out).size)
    clear hbz
    go_wp2_with fail
    go_ret
    exact ⟨rfl, LZ.out⟩
  | true =>
    have HLI := hide (hlight rfl)
    clear hlight
    have hm60 : m ≤ 60 := by have := HLI.out.1; rw [HM.out] at this; exact this
    have B3r := (B1.out.kept S3.out.lo).range0
    have L4 : Hid (Below w3.heap.size w3 (w3.alloc (.cells (AC x).toArray 33 (0, 0)))) := (Below.refl _ _).alloc (Nat.le_refl _) _
    have R4 : Hid (RdG AE (w3.alloc (.cells (AC x).toArray 33 (0, 0))) (.slice (some ⟨w3.heap.size, 0, none⟩) 1 1) [x]) := rdG_one (E := AE) w3 33 x
    have K4 : Hid (AcsOk (w3.alloc (.cells (AC x).toArray 33 (0, 0))) [x]) := (show AcsOk _ _ from fun a ha => by
      simp only [List.mem_singleton] at ha
      subst ha
      exact (H1X.out.kept S3.out.lo).kept L4.out)
    go_wp2_with (first
      | (refine wpList_load_2 rfl 33 _ rfl X 0 rfl (AC x) _ B3r Try.underlying33 rfl Try.size33 ?_)
      | (refine wpList_buildA_2 rfl _ rfl x rfl ?_)
      | fail)
    refine (light_any R4.out K4.out).mono ?_
    rintro e w5 ⟨b, rfl, hli, hb5⟩
    have S5 := hide (S3.out.kept (L4.out.trans (hb5.mono L4.out.size)))
    have L5 : Hid (Below w.heap.size w w5) := L1.out.trans (S5.out.lo.mono L1.out.size)
    clear hb5 R4 K4 L4 B3r
    cases b with
    | false =>
      go_wp2_with fail
      refine (lives_any w5).mono ?_
      rintro e wz ⟨rfl, hbz⟩
      have LZ : Hid (Below w.heap.size w wz) := L5.out.trans (hbz.mono (L5.out).size)
      clear hbz
      go_wp2_with fail
      go_ret
      exact ⟨rfl, LZ.out⟩
    | true =>
      have HLX := hide ((hli rfl).2.2 x (by simp))
      clear hli
      go_wp2_with fail
      go_loopg [31] m (fun g y wr => ∃ (i : Nat) (s : SP), g + i = m ∧ y = .int .i64 (i : Int) ∧ Hid (LR2 w1 wr D R (2 * i) s s (fun _ => False)))
      case atStart => exact ⟨0, sp0, by omega, rfl, S5⟩
      case round =>
        obtain ⟨i, s, hgi, rfl, SR⟩ := hrel
        by_cases hlt : i < m
        · have q2 : (i : Int) < (m : Int) := by omega
          have hrd := hide (H1L.out.kept SR.out.lo)
          obtain ⟨b, off, rfl, hlb4, hx⟩ := (hrd.out).nth (by omega)
          have hlt' : i < L.length := by rw [HM.out]; exact hlt
          have hr : wr.rangeAt b (off + i * 6) (AC L[i]) := hx i hlt'
          obtain ⟨p, HPp⟩ : ∃ p, Hid (L[i] = p) := ⟨L[i], (show L[i] = L[i] from rfl)⟩
          rw [HPp.out] at hr
          clear hx hlb4
          go_upto_region 7 with (first
            | (refine wpList_load_mid rfl 33 _ rfl b (off + i * 6) rfl (AC p) _ hr Try.underlying33 rfl Try.size33 ?_)
            | (refine wpList_store_new rfl 33 _ _ rfl wr _ (AC p).toArray _ rfl rfl rfl Try.size33 rfl (all_one (AC_one p)) ?_)
            | fail)
          obtain ⟨E, HE⟩ : ∃ E, Hid (wr.heap.size = E) := ⟨_, rfl⟩
          rw [HE.out]
          obtain ⟨w4, hw4⟩ : ∃ x, x = wr.alloc (.cells (AC p).toArray 33 (0, 0)) := ⟨_, rfl⟩
          rw [← hw4]
          have G4 : Hid (Below wr.heap.size wr w4) := (show Below _ _ _ by rw [hw4]; exact (Below.refl _ _).alloc (Nat.le_refl _) _)
          have B4 : Hid (Blk w4 E 33 (AC p)) := (show Blk _ _ _ _ by rw [hw4, ← HE.out]; exact Blk.new wr 33 (AC p))
          clear hw4 hr
          have S4 := hide (SR.out.kept G4.out)
          have hmem := List.getElem_mem hlt'
          rw [HPp.out] at hmem
          have CA := hide (act_any S4.out (by omega) (H1O.out p hmem) (HLI.out.2.2 p hmem).1)
          have hrl := B4.out.range0
          clear hmem
          go_wp2_with (first
            | (refine wpList_load_mid rfl 33 _ rfl E 0 rfl (AC p) _ hrl Try.underlying33 rfl Try.size33 ?_)
            | fail)
          refine CA.out.mono ?_
          rintro e w6 ⟨rfl, k1, -, -⟩
          have S6 := hide (k1.mono (j := 2 * (i + 1)) (by omega))
          clear k1 CA hrl
          go_wp2_with fail
          go_roundg (gk - 1)
          case measure => omega
          case rel => exact ⟨i + 1, _, by omega, by go_num, S6⟩
        · obtain rfl : i = m := by omega
          have q2 : ¬ (i : Int) < (i : Int) := by omega
          have hbn := SR.out.bnd
          have CC := hide (SR.out.copy (by omega))
          go_wp2_with fail
          refine CC.out.mono ?_
          rintro e w4 ⟨C, rfl, hcp, hb4⟩
          have P4 := hide hcp
          clear hcp hb4 CC
          obtain ⟨W, K5⟩ : ∃ W, Hid (KeepP s s.last W) := (show ∃ W, KeepP s s.last W by obtain ⟨ks5, h5, -⟩ := P4.out.lsC.good; exact keep_start h5)
          go_wp2_with fail
          refine P4.out.lsC.last.mono ?_
          rintro e w_ ⟨rfl, hw⟩
          subst w_
          have C5 := hide (P4.out.lsC.scanK (by omega) K5.out)
          go_wp2_with fail
          refine C5.out.mono ?_
          rintro e w5 ⟨v5, rfl, ho5, hb5⟩
          have P5 := hide (P4.out.row hb5 ho5)
          have R5 := hide ho5.rd
          clear ho5 hb5 C5
          obtain ⟨kd, xn, xm, ad, ln, cpa, pl, fr, tt⟩ := x
          simp only at HLX
          have T6 : Hid (CT w1 D C R (2 * i) (2 * i) s s s v5 W 0 w5) := ⟨P5.out, R5.out⟩
          go_upto_region 11 with fail
          refine wp_region_chain8 Try.mixed (fun i_ => match i_ with | 0 | 1 => .pointer (some ⟨D, 0, none⟩) | 2 => .int .i64 s.last | 3 => .pointer (some ⟨X, 3, none⟩) | 4 => .slice ad ln cpa | 5 | 6 => .int .i64 2 | _ => undef) (CT w1 D C R (2 * i) (2 * i) s s s v5 W) [2, 5] [[2]] 115 rfl (by decide +kernel) (by decide +kernel) (by decide) (by decide +kernel) ?_ ?_ ?_
          · exact fun w' hh hg => T6.out.zero hg
          · refine AllFrom.cons ?_ (AllFrom.cons ?_ (AllFrom.cons ?_ (AllFrom.cons ?_ (AllFrom.cons ?_ (AllFrom.cons ?_ (AllFrom.cons ?_ AllFrom.nil))))))
            · -- 0: Op.move (Operand.tmp 5)
              refine ⟨.inl rfl, .inl ⟨by decide, 0, 1, [], [0], by decide +kernel, by decide +kernel, ?_⟩⟩
              intro s_ a' w' hlo hhi hsl hk hd hT
              have e5 : a'.eval (.tmp 5) = .pointer (some ⟨D, 0, none⟩) := hk.at 5 (by decide +kernel)
              simp only [execOp, e5]
              rfl
            · -- 1: Op.move (Operand.tmp 5)
              refine ⟨.inl rfl, .inl ⟨by decide, 0, 0, [], [1], by decide +kernel, by decide +kernel, ?_⟩⟩
              intro s_ a' w' hlo hhi hsl hk hd hT
              have e5 : a'.eval (.tmp 5) = .pointer (some ⟨D, 0, none⟩) := hk.at 5 (by decide +kernel)
              simp only [execOp, e5]
              rfl
            · -- 2: Op.call ( callee := Callee.value (Operand.func 13), args := 
              refine ⟨.inl rfl, .inr ⟨0, rfl, ?_⟩⟩
              intro a' w' hk hd hT
              have e50 : a'.eval (.tmp 50) = .pointer (some ⟨D, 0, none⟩) := hd 1 50 (by decide +kernel)
              refine wp_call_at 13 _ _ (run_enter 13 _ _ rfl (by kernel_rfl)) ?_
              simp only [List.map_toArray, List.map_nil, List.map_cons, e50]
              have hP : CP w1 w' D C R (2 * i) (2 * i) s s (InB v5) := hT.1
              refine hP.lsD.lastB.mono ?_
              rintro e_ w7 ⟨he, hb⟩
              exact ⟨he, hP.kept hb, hT.2.kept hb⟩
            · -- 3: Op.fieldAddr 33 (Operand.tmp 3) 3
              refine ⟨.inl rfl, .inl ⟨by decide, 0, 1, [], [4, 3], by decide +kernel, by decide +kernel, ?_⟩⟩
              intro s_ a' w' hlo hhi hsl hk hd hT
              have e3 : a'.eval (.tmp 3) = .pointer (some ⟨X, 0, none⟩) := hk.at 3 (by decide +kernel)
              clear hd hk hT
              simp only [execOp, e3]
              go_simp
            · -- 4: Op.load 31 (Operand.tmp 52)
              refine ⟨.inl rfl, .inl ⟨by decide, 0, 1, [], [4], by decide +kernel, by decide +kernel, ?_⟩⟩
              intro s_ a' w' hlo hhi hsl hk hd hT
              have e52 : a'.eval (.tmp 52) = .pointer (some ⟨X, 3, none⟩) := hd 3 52 (by decide +kernel)
              have cc : w'.cell? ⟨X, 3, none⟩ = some (.slice ad ln cpa) := (B1.out.kept hT.lo).cell (j := 3) rfl
              clear hd hk
              simp only [execOp, e52]
              go_simp
            · -- 5: Op.call ( callee := Callee.value (Operand.func 24), args := 
              refine ⟨.inl rfl, .inr ⟨1, rfl, ?_⟩⟩
              intro a' w' hk hd hT
              have e49 : a'.eval (.tmp 49) = .pointer (some ⟨D, 0, none⟩) := hd 0 49 (by decide +kernel)
              have e51 : a'.eval (.tmp 51) = .int .i64 s.last := hd 2 51 (by decide +kernel)
              have e53 : a'.eval (.tmp 53) = .slice ad ln cpa := hd 4 53 (by decide +kernel)
              refine wp_call_at 24 _ _ (run_enter 24 _ _ rfl (by kernel_rfl)) ?_
              simp only [List.map_toArray, List.map_nil, List.map_cons, e49, e51, e53]
              have hP : CP w1 w' D C R (2 * i) (2 * i) s s (InB v5) := hT.1
              refine (hP.install (by omega) H1X.out.r HLX.out.1 s.last).mono ?_
              rintro e_ w7 ⟨he, hp, hs⟩
              rw [instP_last] at he
              rw [instP_no (instP_last _ _)] at hp
              exact ⟨he, hp, hT.2.same hs (fun _ h => h)⟩
            · -- 6: Op.assign (Operand.tmp 54)
              refine ⟨.inl rfl, .inl ⟨by decide, 2, 2, [5], [], by decide +kernel, by decide +kernel, ?_⟩⟩
              intro s_ a' w' hlo hhi hsl hk hd hT
              have e54 : a'.eval (.tmp 54) = .int .i64 2 := hd 5 54 (by decide +kernel)
              simp only [execOp, e54]
              rfl
          · intro a' w9 hsz hdf hk hall hT
            have e49 : a'.eval (.tmp 49) = .pointer (some ⟨D, 0, none⟩) := hall 0 _ 49 rfl rfl
            have e50 : a'.eval (.tmp 50) = .pointer (some ⟨D, 0, none⟩) := hall 1 _ 50 rfl rfl
            have e51 : a'.eval (.tmp 51) = .int .i64 s.last := hall 2 _ 51 rfl rfl
            have e52 : a'.eval (.tmp 52) = .pointer (some ⟨X, 3, none⟩) := hall 3 _ 52 rfl rfl
            have e53 : a'.eval (.tmp 53) = .slice ad ln cpa := hall 4 _ 53 rfl rfl
            have e54 : a'.eval (.tmp 54) = .int .i64 2 := hall 5 _ 54 rfl rfl
            have e12 : a'.eval (.tmp 12) = .int .i64 2 := hall 6 _ 12 rfl rfl
            have ha := act_puts 115 rfl hsz hdf hk [49, 50, 51, 52, 53, 54, 12] (by decide +kernel)
            simp only [puts, List.foldl_cons, List.foldl_nil, e49, e50, e51, e52, e53, e54, e12] at ha
            simp only [Act.put, List.setIfInBounds_toArray, List.set_cons_succ, List.set_cons_zero] at ha
            clear hall hk hsz hdf e49 e50 e51 e52 e53 e54 e12
            subst ha
            have T7 : Hid (CT w1 D C R (2 * i + 1) (2 * i) s (instP s (s.last + 1) pl) s v5 W 0 w9) := ⟨hT.1, hT.2⟩
            clear hT
            obtain ⟨er, HER⟩ : ∃ x : Int, Hid ((if instOk s (s.last + 1) pl = true then 0 else 2) = x) := ⟨_, rfl⟩
            obtain ⟨s3, HS3⟩ : ∃ x, Hid (instP s (s.last + 1) pl = x) := ⟨_, rfl⟩
            rw [HS3.out] at T7
            go_upto_region 12 with fail
            refine wp_region_chain8 Try.mixed (fun i_ => match i_ with | 0 | 1 => .pointer (some ⟨D, 0, none⟩) | 2 => .int .i64 s.last | 3 => .int .i64 (s.last + 1) | 4 => .pointer (some ⟨X, 3, none⟩) | 5 => .slice ad ln cpa | 6 | 7 => .int .i64 er | _ => undef) (CT w1 D C R (2 * i + 1) (2 * i) s s3 s v5 W) [2, 6] [[2]] 115 rfl (by decide +kernel) (by decide +kernel) (by decide) (by decide +kernel) ?_ ?_ ?_
            · exact fun w' hh hg => T7.out.zero hg
            · refine AllFrom.cons ?_ (AllFrom.cons ?_ (AllFrom.cons ?_ (AllFrom.cons ?_ (AllFrom.cons ?_ (AllFrom.cons ?_ (AllFrom.cons ?_ (AllFrom.cons ?_ AllFrom.nil)))))))
              · -- 0: Op.move (Operand.tmp 5)
                refine ⟨.inl rfl, .inl ⟨by decide, 0, 1, [], [0], by decide +kernel, by decide +kernel, ?_⟩⟩
                intro s_ a' w' hlo hhi hsl hk hd hT
                have e5 : a'.eval (.tmp 5) = .pointer (some ⟨D, 0, none⟩) := hk.at 5 (by decide +kernel)
                simp only [execOp, e5]
                rfl
              · -- 1: Op.move (Operand.tmp 5)
                refine ⟨.inl rfl, .inl ⟨by decide, 0, 0, [], [1], by decide +kernel, by decide +kernel, ?_⟩⟩
                intro s_ a' w' hlo hhi hsl hk hd hT
                have e5 : a'.eval (.tmp 5) = .pointer (some ⟨D, 0, none⟩) := hk.at 5 (by decide +kernel)
                simp only [execOp, e5]
                rfl
              · -- 2: Op.call ( callee := Callee.value (Operand.func 13), args := 
                refine ⟨.inl rfl, .inr ⟨0, rfl, ?_⟩⟩
                intro a' w' hk hd hT
                have e56 : a'.eval (.tmp 56) = .pointer (some ⟨D, 0, none⟩) := hd 1 56 (by decide +kernel)
                refine wp_call_at 13 _ _ (run_enter 13 _ _ rfl (by kernel_rfl)) ?_
                simp only [List.map_toArray, List.map_nil, List.map_cons, e56]
                have hP : CP w1 w' D C R (2 * i + 1) (2 * i) s s (InB v5) := hT.1
                refine hP.lsD.lastB.mono ?_
                rintro e_ w7 ⟨he, hb⟩
                exact ⟨he, hP.kept hb, hT.2.kept hb⟩
              · -- 3: Op.binOp BinOp.add 3 (Operand.tmp 57) (Operand.const (Value.
                refine ⟨.inl rfl, .inl ⟨by decide, 1, 1, [2], [3], by decide +kernel, by decide +kernel, ?_⟩⟩
                intro s_ a' w' hlo hhi hsl hk hd hT
                have e57 : a'.eval (.tmp 57) = .int .i64 s.last := hd 2 57 (by decide +kernel)
                simp only [execOp, e57]
                go_simp
                exact wr64 (by omega) (by omega)
              · -- 4: Op.fieldAddr 33 (Operand.tmp 3) 3
                refine ⟨.inl rfl, .inl ⟨by decide, 0, 1, [], [5, 4], by decide +kernel, by decide +kernel, ?_⟩⟩
                intro s_ a' w' hlo hhi hsl hk hd hT
                have e3 : a'.eval (.tmp 3) = .pointer (some ⟨X, 0, none⟩) := hk.at 3 (by decide +kernel)
                clear hd hk hT
                simp only [execOp, e3]
                go_simp
              · -- 5: Op.load 31 (Operand.tmp 59)
                refine ⟨.inl rfl, .inl ⟨by decide, 0, 1, [], [5], by decide +kernel, by decide +kernel, ?_⟩⟩
                intro s_ a' w' hlo hhi hsl hk hd hT
                have e59 : a'.eval (.tmp 59) = .pointer (some ⟨X, 3, none⟩) := hd 4 59 (by decide +kernel)
                have cc : w'.cell? ⟨X, 3, none⟩ = some (.slice ad ln cpa) := (B1.out.kept hT.lo).cell (j := 3) rfl
                clear hd hk
                simp only [execOp, e59]
                go_simp
              · -- 6: Op.call ( callee := Callee.value (Operand.func 24), args := 
                refine ⟨.inl rfl, .inr ⟨1, rfl, ?_⟩⟩
                intro a' w' hk hd hT
                have e55 : a'.eval (.tmp 55) = .pointer (some ⟨D, 0, none⟩) := hd 0 55 (by decide +kernel)
                have e58 : a'.eval (.tmp 58) = .int .i64 (s.last + 1) := hd 3 58 (by decide +kernel)
                have e60 : a'.eval (.tmp 60) = .slice ad ln cpa := hd 5 60 (by decide +kernel)
                refine wp_call_at 24 _ _ (run_enter 24 _ _ rfl (by kernel_rfl)) ?_
                simp only [List.map_toArray, List.map_nil, List.map_cons, e55, e58, e60]
                have hP : CP w1 w' D C R (2 * i + 1) (2 * i) s s (InB v5) := hT.1
                refine (hP.install (by omega) H1X.out.r HLX.out.1 (s.last + 1)).mono ?_
                rintro e_ w7 ⟨he, hp, hs⟩
                rw [HER.out] at he
                rw [HS3.out] at hp
                exact ⟨he, hp, hT.2.same hs (fun _ h => h)⟩
              · -- 7: Op.assign (Operand.tmp 61)
                refine ⟨.inl rfl, .inl ⟨by decide, 2, 2, [6], [], by decide +kernel, by decide +kernel, ?_⟩⟩
                intro s_ a' w' hlo hhi hsl hk hd hT
                have e61 : a'.eval (.tmp 61) = .int .i64 er := hd 6 61 (by decide +kernel)
                simp only [execOp, e61]
                rfl
            · intro a' w9' hsz hdf hk hall hT
              have e55 : a'.eval (.tmp 55) = .pointer (some ⟨D, 0, none⟩) := hall 0 _ 55 rfl rfl
              have e56 : a'.eval (.tmp 56) = .pointer (some ⟨D, 0, none⟩) := hall 1 _ 56 rfl rfl
              have e57 : a'.eval (.tmp 57) = .int .i64 s.last := hall 2 _ 57 rfl rfl
              have e58 : a'.eval (.tmp 58) = .int .i64 (s.last + 1) := hall 3 _ 58 rfl rfl
              have e59 : a'.eval (.tmp 59) = .pointer (some ⟨X, 3, none⟩) := hall 4 _ 59 rfl rfl
              have e60 : a'.eval (.tmp 60) = .slice ad ln cpa := hall 5 _ 60 rfl rfl
              have e61 : a'.eval (.tmp 61) = .int .i64 er := hall 6 _ 61 rfl rfl
              have e13 : a'.eval (.tmp 13) = .int .i64 er := hall 7 _ 13 rfl rfl
              have ha := act_puts 115 rfl hsz hdf hk [55, 56, 57, 58, 59, 60, 61, 13] (by decide +kernel)
              simp only [puts, List.foldl_cons, List.foldl_nil, e55, e56, e57, e58, e59, e60, e61, e13] at ha
              simp only [Act.put, List.setIfInBounds_toArray, List.set_cons_succ, List.set_cons_zero] at ha
              clear hall hk hsz hdf e55 e56 e57 e58 e59 e60 e61 e13
              subst ha
              have P8 : Hid (CP w1 w9' D C R (2 * i + 2) (2 * i) s3 s (InB v5)) := hT.1
              have R8 := hide hT.2
              clear hT
              go_wp2_with fail
              refine P8.out.lsD.last.mono ?_
              rintro e w_ ⟨rfl, hw⟩
              subst w_
              go_wp2_with fail
              refine (P8.out.collect (by omega) s3.last).mono ?_
              rintro e w8 ⟨x8, rfl, hcp, hsm⟩
              have P9 := hide hcp
              have R9 := hide (R8.out.same hsm (fun _ h => h))
              obtain ⟨s4, HS4⟩ : ∃ x, Hid (collP s3 s3.last = x) := ⟨_, rfl⟩
              rw [HS4.out] at P9
              clear hcp hsm
              go_wp2_with fail
              refine P9.out.lsC.last.mono ?_
              rintro e w_ ⟨rfl, hw⟩
              subst w_
              have C9 := hide (P9.out.lsC.scanK (by omega) K5.out)
              go_wp2_with fail
              refine C9.out.mono ?_
              rintro e wq ⟨v9, rfl, hoq, hbq⟩
              have T9 : Hid (FT w1 D C R (2 * i + 2) (2 * i) s4 s v5 v9 W wq) := ⟨P9.out.none.kept hbq, R9.out.kept hbq, hoq.rd⟩
              clear hoq hbq C9
              obtain ⟨b3, HB3⟩ : ∃ b, Hid (goodP em pl = b) := ⟨_, rfl⟩
              have hq3 : decide (er = 0) = b3 := by
                rw [← HER.out, instOk_next, HB3.out]
                cases b3 <;> rfl
              obtain ⟨V, HV⟩ : ∃ V, Hid (∀ ks, Inv s ks → versS s ks = V) := keys_free s 0 (versS s)
              go_upto_region 15 with fail
              refine wp_region_chain8 Try.mixed (fun i_ => match i_ with | 0 | 3 => .int .i64 0 | 1 | 2 | 4 | 5 | 6 | 9 | 10 | 11 | 13 | 14 | 15 | 21 | 22 | 23 | 30 | 31 | 32 | 37 | 38 | 39 | 40 | 41 | 42 => .bool true | 7 => v5 | 8 => v9 | 12 => .int .i64 2 | 16 => .int .i64 er | 17 | 20 => .bool b3 | 18 => .pointer (some ⟨X, 3, none⟩) | 19 => .slice ad ln cpa | 24 | 33 => .pointer (some ⟨C, 0, none⟩) | 25 | 29 => .int .i64 s.last | 26 | 27 | 35 => .pointer (some ⟨R, 0, none⟩) | 28 => .pointer (some ⟨R, 1, none⟩) | 34 | 36 => .int .i64 (V : Int) | _ => undef) (fun _ w' => FT w1 D C R (2 * i + 2) (2 * i) s4 s v5 v9 W w') [9, 20, 25, 34, 36, 40] [[15, 11, 9], [23, 20], [32, 25], [34], [39, 36]] 115 rfl (by decide +kernel) (by decide +kernel) (by decide) (by decide +kernel) ?_ ?_ ?_
              · exact fun w' hh hg => T9.out.kept hg
              · refine AllFrom.cons ?_ (AllFrom.cons ?_ (AllFrom.cons ?_ (AllFrom.cons ?_ (AllFrom.cons ?_ (AllFrom.cons ?_ (AllFrom.cons ?_ (AllFrom.cons ?_ (AllFrom.cons ?_ (AllFrom.cons ?_ (AllFrom.cons ?_ (AllFrom.cons ?_ (AllFrom.cons ?_ (AllFrom.cons ?_ (AllFrom.cons ?_ (AllFrom.cons ?_ (AllFrom.cons ?_ (AllFrom.cons ?_ (AllFrom.cons ?_ (AllFrom.cons ?_ (AllFrom.cons ?_ (AllFrom.cons ?_ (AllFrom.cons ?_ (AllFrom.cons ?_ (AllFrom.cons ?_ (AllFrom.cons ?_ (AllFrom.cons ?_ (AllFrom.cons ?_ (AllFrom.cons ?_ (AllFrom.cons ?_ (AllFrom.cons ?_ (AllFrom.cons ?_ (AllFrom.cons ?_ (AllFrom.cons ?_ (AllFrom.cons ?_ (AllFrom.cons ?_ (AllFrom.cons ?_ (AllFrom.cons ?_ (AllFrom.cons ?_ (AllFrom.cons ?_ (AllFrom.cons ?_ (AllFrom.cons ?_ (AllFrom.cons ?_ AllFrom.nil))))))))))))))))))))))))))))))))))))))))))
                · -- 0: Op.move (Operand.tmp 11)
                  refine ⟨.inl rfl, .inl ⟨by decide, 0, 0, [], [6, 2, 1, 0], by decide +kernel, by decide +kernel, ?_⟩⟩
                  intro s_ a' w' hlo hhi hsl hk hd hT
                  have e11 : a'.eval (.tmp 11) = .int .i64 0 := hk.at 11 (by decide +kernel)
                  simp only [execOp, e11]
                  rfl
                · -- 1: Op.binOp BinOp.eql 40 (Operand.tmp 73) (Operand.const (Value
                  refine ⟨.inl rfl, .inl ⟨by decide, 0, 0, [], [6, 2, 1], by decide +kernel, by decide +kernel, ?_⟩⟩
                  intro s_ a' w' hlo hhi hsl hk hd hT
                  have e73 : a'.eval (.tmp 73) = .int .i64 0 := hd 0 73 (by decide +kernel)
                  clear hd hk hT
                  simp only [execOp, e73]
                  go_simp
                · -- 2: Op.move (Operand.tmp 74)
                  refine ⟨.inl rfl, .inl ⟨by decide, 0, 0, [], [6, 2], by decide +kernel, by decide +kernel, ?_⟩⟩
                  intro s_ a' w' hlo hhi hsl hk hd hT
                  have e74 : a'.eval (.tmp 74) = .bool true := hd 1 74 (by decide +kernel)
                  simp only [execOp, e74]
                  rfl
                · -- 3: Op.move (Operand.tmp 15)
                  refine ⟨.inr ⟨2, 75, true, rfl, by decide +kernel, rfl⟩, .inl ⟨by decide, 0, 0, [], [6, 5, 4, 3], by decide +kernel, by decide +kernel, ?_⟩⟩
                  intro s_ a' w' hlo hhi hsl hk hd hT
                  have e15 : a'.eval (.tmp 15) = .int .i64 0 := hk.at 15 (by decide +kernel)
                  simp only [execOp, e15]
                  rfl
                · -- 4: Op.binOp BinOp.eql 40 (Operand.tmp 76) (Operand.const (Value
                  refine ⟨.inr ⟨2, 75, true, rfl, by decide +kernel, rfl⟩, .inl ⟨by decide, 0, 0, [], [6, 5, 4], by decide +kernel, by decide +kernel, ?_⟩⟩
                  intro s_ a' w' hlo hhi hsl hk hd hT
                  have e76 : a'.eval (.tmp 76) = .int .i64 0 := hd 3 76 (by decide +kernel)
                  clear hd hk hT
                  simp only [execOp, e76]
                  go_simp
                · -- 5: Op.pick (Operand.tmp 75) (Operand.tmp 77) (Operand.const (Va
                  refine ⟨.inl rfl, .inl ⟨by decide, 0, 0, [], [6, 5], by decide +kernel, by decide +kernel, ?_⟩⟩
                  intro s_ a' w' hlo hhi hsl hk hd hT
                  have e75 : a'.eval (.tmp 75) = .bool true := hd 2 75 (by decide +kernel)
                  have e77 : a'.eval (.tmp 77) = .bool true := hd 4 77 (by decide +kernel)
                  clear hd hk hT
                  simp only [execOp, e75, e77]
                  go_simp
                · -- 6: Op.move (Operand.tmp 78)
                  refine ⟨.inl rfl, .inl ⟨by decide, 0, 0, [], [6], by decide +kernel, by decide +kernel, ?_⟩⟩
                  intro s_ a' w' hlo hhi hsl hk hd hT
                  have e78 : a'.eval (.tmp 78) = .bool true := hd 5 78 (by decide +kernel)
                  simp only [execOp, e78]
                  rfl
                · -- 7: Op.move (Operand.tmp 10)
                  refine ⟨.inr ⟨6, 79, true, rfl, by decide +kernel, rfl⟩, .inl ⟨by decide, 0, 0, [], [7], by decide +kernel, by decide +kernel, ?_⟩⟩
                  intro s_ a' w' hlo hhi hsl hk hd hT
                  have e10 : a'.eval (.tmp 10) = v5 := hk.at 10 (by decide +kernel)
                  simp only [execOp, e10]
                  rfl
                · -- 8: Op.move (Operand.tmp 14)
                  refine ⟨.inr ⟨6, 79, true, rfl, by decide +kernel, rfl⟩, .inl ⟨by decide, 0, 0, [], [8], by decide +kernel, by decide +kernel, ?_⟩⟩
                  intro s_ a' w' hlo hhi hsl hk hd hT
                  have e14 : a'.eval (.tmp 14) = v9 := hk.at 14 (by decide +kernel)
                  simp only [execOp, e14]
                  rfl
                · -- 9: Op.call ( callee := Callee.value (Operand.func 26), args := 
                  refine ⟨.inr ⟨6, 79, true, rfl, by decide +kernel, rfl⟩, .inr ⟨0, rfl, ?_⟩⟩
                  intro a' w' hk hd hT
                  have e80 : a'.eval (.tmp 80) = v5 := hd 7 80 (by decide +kernel)
                  have e81 : a'.eval (.tmp 81) = v9 := hd 8 81 (by decide +kernel)
                  refine wp_call_at 26 _ _ (run_enter 26 _ _ rfl (by kernel_rfl)) ?_
                  simp only [List.map_toArray, List.map_nil, List.map_cons, e80, e81]
                  have hs_ := vsame_any hT.2.1 hT.2.2
                  rw [decide_eq_true rfl] at hs_
                  refine (hs_).mono ?_
                  rintro e_ w7 ⟨he, hb⟩
                  exact ⟨he, hT.kept hb⟩
                · -- 10: Op.pick (Operand.tmp 79) (Operand.tmp 82) (Operand.const (Va
                  refine ⟨.inl rfl, .inl ⟨by decide, 1, 1, [9], [15, 11, 10], by decide +kernel, by decide +kernel, ?_⟩⟩
                  intro s_ a' w' hlo hhi hsl hk hd hT
                  have e79 : a'.eval (.tmp 79) = .bool true := hd 6 79 (by decide +kernel)
                  have e82 : a'.eval (.tmp 82) = .bool true := hd 9 82 (by decide +kernel)
                  clear hd hk hT
                  simp only [execOp, e79, e82]
                  go_simp
                · -- 11: Op.move (Operand.tmp 83)
                  refine ⟨.inl rfl, .inl ⟨by decide, 1, 1, [9], [15, 11], by decide +kernel, by decide +kernel, ?_⟩⟩
                  intro s_ a' w' hlo hhi hsl hk hd hT
                  have e83 : a'.eval (.tmp 83) = .bool true := hd 10 83 (by decide +kernel)
                  simp only [execOp, e83]
                  rfl
                · -- 12: Op.move (Operand.tmp 12)
                  refine ⟨.inr ⟨11, 84, true, rfl, by decide +kernel, rfl⟩, .inl ⟨by decide, 1, 1, [11, 9], [15, 14, 13, 12], by decide +kernel, by decide +kernel, ?_⟩⟩
                  intro s_ a' w' hlo hhi hsl hk hd hT
                  have e12 : a'.eval (.tmp 12) = .int .i64 2 := hk.at 12 (by decide +kernel)
                  simp only [execOp, e12]
                  rfl
                · -- 13: Op.binOp BinOp.eql 40 (Operand.tmp 85) (Operand.const (Value
                  refine ⟨.inr ⟨11, 84, true, rfl, by decide +kernel, rfl⟩, .inl ⟨by decide, 1, 1, [11, 9], [15, 14, 13], by decide +kernel, by decide +kernel, ?_⟩⟩
                  intro s_ a' w' hlo hhi hsl hk hd hT
                  have e85 : a'.eval (.tmp 85) = .int .i64 2 := hd 12 85 (by decide +kernel)
                  clear hd hk hT
                  simp only [execOp, e85]
                  go_simp
                · -- 14: Op.pick (Operand.tmp 84) (Operand.tmp 86) (Operand.const (Va
                  refine ⟨.inl rfl, .inl ⟨by decide, 1, 1, [11, 9], [15, 14], by decide +kernel, by decide +kernel, ?_⟩⟩
                  intro s_ a' w' hlo hhi hsl hk hd hT
                  have e84 : a'.eval (.tmp 84) = .bool true := hd 11 84 (by decide +kernel)
                  have e86 : a'.eval (.tmp 86) = .bool true := hd 13 86 (by decide +kernel)
                  clear hd hk hT
                  simp only [execOp, e84, e86]
                  go_simp
                · -- 15: Op.move (Operand.tmp 87)
                  refine ⟨.inl rfl, .inl ⟨by decide, 1, 1, [11, 9], [15], by decide +kernel, by decide +kernel, ?_⟩⟩
                  intro s_ a' w' hlo hhi hsl hk hd hT
                  have e87 : a'.eval (.tmp 87) = .bool true := hd 14 87 (by decide +kernel)
                  simp only [execOp, e87]
                  rfl
                · -- 16: Op.move (Operand.tmp 13)
                  refine ⟨.inr ⟨15, 88, true, rfl, by decide +kernel, rfl⟩, .inl ⟨by decide, 1, 2, [15, 11, 9], [23, 22, 21, 17, 16], by decide +kernel, by decide +kernel, ?_⟩⟩
                  intro s_ a' w' hlo hhi hsl hk hd hT
                  have e13 : a'.eval (.tmp 13) = .int .i64 er := hk.at 13 (by decide +kernel)
                  simp only [execOp, e13]
                  rfl
                · -- 17: Op.binOp BinOp.eql 40 (Operand.tmp 89) (Operand.const (Value
                  refine ⟨.inr ⟨15, 88, true, rfl, by decide +kernel, rfl⟩, .inl ⟨by decide, 1, 2, [15, 11, 9], [23, 22, 21, 17], by decide +kernel, by decide +kernel, ?_⟩⟩
                  intro s_ a' w' hlo hhi hsl hk hd hT
                  have e89 : a'.eval (.tmp 89) = .int .i64 er := hd 16 89 (by decide +kernel)
                  clear hd hk hT
                  simp only [execOp, e89]
                  go_simp
                  exact hq3
                · -- 18: Op.fieldAddr 33 (Operand.tmp 3) 3
                  refine ⟨.inr ⟨15, 88, true, rfl, by decide +kernel, rfl⟩, .inl ⟨by decide, 1, 1, [15, 11, 9], [19, 18], by decide +kernel, by decide +kernel, ?_⟩⟩
                  intro s_ a' w' hlo hhi hsl hk hd hT
                  have e3 : a'.eval (.tmp 3) = .pointer (some ⟨X, 0, none⟩) := hk.at 3 (by decide +kernel)
                  clear hd hk hT
                  simp only [execOp, e3]
                  go_simp
                · -- 19: Op.load 31 (Operand.tmp 91)
                  refine ⟨.inr ⟨15, 88, true, rfl, by decide +kernel, rfl⟩, .inl ⟨by decide, 1, 1, [15, 11, 9], [19], by decide +kernel, by decide +kernel, ?_⟩⟩
                  intro s_ a' w' hlo hhi hsl hk hd hT
                  have e91 : a'.eval (.tmp 91) = .pointer (some ⟨X, 3, none⟩) := hd 18 91 (by decide +kernel)
                  have cc : w'.cell? ⟨X, 3, none⟩ = some (.slice ad ln cpa) := (B1.out.kept hT.1.lo).cell (j := 3) rfl
                  clear hd hk
                  simp only [execOp, e91]
                  go_simp
                · -- 20: Op.call ( callee := Callee.value (Operand.func 21), args := 
                  refine ⟨.inr ⟨15, 88, true, rfl, by decide +kernel, rfl⟩, .inr ⟨1, rfl, ?_⟩⟩
                  intro a' w' hk hd hT
                  have e92 : a'.eval (.tmp 92) = .slice ad ln cpa := hd 19 92 (by decide +kernel)
                  refine wp_call_at 21 _ _ (run_enter 21 _ _ rfl (by kernel_rfl)) ?_
                  simp only [List.map_toArray, List.map_nil, List.map_cons, e92]
                  refine (HB3.out ▸ sGood_any (H1X.out.r.kept hT.1.lo)).mono ?_
                  rintro e_ w7 ⟨he, hb⟩
                  exact ⟨he, hT.kept hb⟩
                · -- 21: Op.binOp BinOp.eql 4 (Operand.tmp 90) (Operand.tmp 93) 4
                  refine ⟨.inr ⟨15, 88, true, rfl, by decide +kernel, rfl⟩, .inl ⟨by decide, 2, 2, [20], [23, 22, 21], by decide +kernel, by decide +kernel, ?_⟩⟩
                  intro s_ a' w' hlo hhi hsl hk hd hT
                  have e90 : a'.eval (.tmp 90) = .bool b3 := hd 17 90 (by decide +kernel)
                  have e93 : a'.eval (.tmp 93) = .bool b3 := hd 20 93 (by decide +kernel)
                  clear hd hk hT
                  simp only [execOp, e90, e93]
                  go_simp
                · -- 22: Op.pick (Operand.tmp 88) (Operand.tmp 94) (Operand.const (Va
                  refine ⟨.inl rfl, .inl ⟨by decide, 2, 2, [21, 20], [23, 22], by decide +kernel, by decide +kernel, ?_⟩⟩
                  intro s_ a' w' hlo hhi hsl hk hd hT
                  have e88 : a'.eval (.tmp 88) = .bool true := hd 15 88 (by decide +kernel)
                  have e94 : a'.eval (.tmp 94) = .bool true := hd 21 94 (by decide +kernel)
                  clear hd hk hT
                  simp only [execOp, e88, e94]
                  go_simp
                · -- 23: Op.move (Operand.tmp 95)
                  refine ⟨.inl rfl, .inl ⟨by decide, 2, 2, [20], [23], by decide +kernel, by decide +kernel, ?_⟩⟩
                  intro s_ a' w' hlo hhi hsl hk hd hT
                  have e95 : a'.eval (.tmp 95) = .bool true := hd 22 95 (by decide +kernel)
                  simp only [execOp, e95]
                  rfl
                · -- 24: Op.move (Operand.tmp 9)
                  refine ⟨.inr ⟨23, 96, true, rfl, by decide +kernel, rfl⟩, .inl ⟨by decide, 2, 2, [23, 20], [24], by decide +kernel, by decide +kernel, ?_⟩⟩
                  intro s_ a' w' hlo hhi hsl hk hd hT
                  have e9 : a'.eval (.tmp 9) = .pointer (some ⟨C, 0, none⟩) := hk.at 9 (by decide +kernel)
                  simp only [execOp, e9]
                  rfl
                · -- 25: Op.call ( callee := Callee.value (Operand.func 13), args := 
                  refine ⟨.inr ⟨23, 96, true, rfl, by decide +kernel, rfl⟩, .inr ⟨2, rfl, ?_⟩⟩
                  intro a' w' hk hd hT
                  have e97 : a'.eval (.tmp 97) = .pointer (some ⟨C, 0, none⟩) := hd 24 97 (by decide +kernel)
                  refine wp_call_at 13 _ _ (run_enter 13 _ _ rfl (by kernel_rfl)) ?_
                  simp only [List.map_toArray, List.map_nil, List.map_cons, e97]
                  refine (hT.1.lsC.lastB).mono ?_
                  rintro e_ w7 ⟨he, hb⟩
                  exact ⟨he, hT.kept hb⟩
                · -- 26: Op.move (Operand.tmp 6)
                  refine ⟨.inr ⟨23, 96, true, rfl, by decide +kernel, rfl⟩, .inl ⟨by decide, 2, 3, [23, 20], [32, 31, 30, 29, 28, 27, 26], by decide +kernel, by decide +kernel, ?_⟩⟩
                  intro s_ a' w' hlo hhi hsl hk hd hT
                  have e6 : a'.eval (.tmp 6) = .pointer (some ⟨R, 0, none⟩) := hk.at 6 (by decide +kernel)
                  simp only [execOp, e6]
                  rfl
                · -- 27: Op.nilCheck (Operand.tmp 99)
                  refine ⟨.inr ⟨23, 96, true, rfl, by decide +kernel, rfl⟩, .inl ⟨by decide, 2, 3, [23, 20], [32, 31, 30, 29, 28, 27], by decide +kernel, by decide +kernel, ?_⟩⟩
                  intro s_ a' w' hlo hhi hsl hk hd hT
                  have e99 : a'.eval (.tmp 99) = .pointer (some ⟨R, 0, none⟩) := hd 26 99 (by decide +kernel)
                  clear hd hk hT
                  simp only [execOp, e99]
                  go_simp
                · -- 28: Op.fieldAddr 30 (Operand.tmp 100) 1
                  refine ⟨.inr ⟨23, 96, true, rfl, by decide +kernel, rfl⟩, .inl ⟨by decide, 2, 3, [23, 20], [32, 31, 30, 29, 28], by decide +kernel, by decide +kernel, ?_⟩⟩
                  intro s_ a' w' hlo hhi hsl hk hd hT
                  have e100 : a'.eval (.tmp 100) = .pointer (some ⟨R, 0, none⟩) := hd 27 100 (by decide +kernel)
                  clear hd hk hT
                  simp only [execOp, e100]
                  go_simp
                · -- 29: Op.load 3 (Operand.tmp 101)
                  refine ⟨.inr ⟨23, 96, true, rfl, by decide +kernel, rfl⟩, .inl ⟨by decide, 2, 3, [23, 20], [32, 31, 30, 29], by decide +kernel, by decide +kernel, ?_⟩⟩
                  intro s_ a' w' hlo hhi hsl hk hd hT
                  have e101 : a'.eval (.tmp 101) = .pointer (some ⟨R, 1, none⟩) := hd 28 101 (by decide +kernel)
                  obtain ⟨vr_, rs_, hr_, -⟩ := hT.1.rs
                  have cc : w'.cell? ⟨R, 1, none⟩ = some (.int .i64 s.last) := hr_.d.cell (j := 1) rfl
                  clear hd hk
                  simp only [execOp, e101]
                  go_simp
                · -- 30: Op.binOp BinOp.eql 3 (Operand.tmp 98) (Operand.tmp 102) 3
                  refine ⟨.inr ⟨23, 96, true, rfl, by decide +kernel, rfl⟩, .inl ⟨by decide, 3, 3, [25], [32, 31, 30], by decide +kernel, by decide +kernel, ?_⟩⟩
                  intro s_ a' w' hlo hhi hsl hk hd hT
                  have e98 : a'.eval (.tmp 98) = .int .i64 s.last := hd 25 98 (by decide +kernel)
                  have e102 : a'.eval (.tmp 102) = .int .i64 s.last := hd 29 102 (by decide +kernel)
                  clear hd hk hT
                  simp only [execOp, e98, e102]
                  go_simp
                · -- 31: Op.pick (Operand.tmp 96) (Operand.tmp 103) (Operand.const (V
                  refine ⟨.inl rfl, .inl ⟨by decide, 3, 3, [30, 25], [32, 31], by decide +kernel, by decide +kernel, ?_⟩⟩
                  intro s_ a' w' hlo hhi hsl hk hd hT
                  have e96 : a'.eval (.tmp 96) = .bool true := hd 23 96 (by decide +kernel)
                  have e103 : a'.eval (.tmp 103) = .bool true := hd 30 103 (by decide +kernel)
                  clear hd hk hT
                  simp only [execOp, e96, e103]
                  go_simp
                · -- 32: Op.move (Operand.tmp 104)
                  refine ⟨.inl rfl, .inl ⟨by decide, 3, 3, [25], [32], by decide +kernel, by decide +kernel, ?_⟩⟩
                  intro s_ a' w' hlo hhi hsl hk hd hT
                  have e104 : a'.eval (.tmp 104) = .bool true := hd 31 104 (by decide +kernel)
                  simp only [execOp, e104]
                  rfl
                · -- 33: Op.move (Operand.tmp 9)
                  refine ⟨.inr ⟨32, 105, true, rfl, by decide +kernel, rfl⟩, .inl ⟨by decide, 3, 3, [32, 25], [33], by decide +kernel, by decide +kernel, ?_⟩⟩
                  intro s_ a' w' hlo hhi hsl hk hd hT
                  have e9 : a'.eval (.tmp 9) = .pointer (some ⟨C, 0, none⟩) := hk.at 9 (by decide +kernel)
                  simp only [execOp, e9]
                  rfl
                · -- 34: Op.call ( callee := Callee.value (Operand.func 15), args := 
                  refine ⟨.inr ⟨32, 105, true, rfl, by decide +kernel, rfl⟩, .inr ⟨3, rfl, ?_⟩⟩
                  intro a' w' hk hd hT
                  have e106 : a'.eval (.tmp 106) = .pointer (some ⟨C, 0, none⟩) := hd 33 106 (by decide +kernel)
                  refine wp_call_at 15 _ _ (run_enter 15 _ _ rfl (by kernel_rfl)) ?_
                  simp only [List.map_toArray, List.map_nil, List.map_cons, e106]
                  refine (hT.1.versions (by omega) HV.out).mono ?_
                  rintro e_ w7 ⟨he, hb⟩
                  exact ⟨he, hT.kept hb⟩
                · -- 35: Op.move (Operand.tmp 6)
                  refine ⟨.inr ⟨32, 105, true, rfl, by decide +kernel, rfl⟩, .inl ⟨by decide, 3, 4, [32, 25], [35], by decide +kernel, by decide +kernel, ?_⟩⟩
                  intro s_ a' w' hlo hhi hsl hk hd hT
                  have e6 : a'.eval (.tmp 6) = .pointer (some ⟨R, 0, none⟩) := hk.at 6 (by decide +kernel)
                  simp only [execOp, e6]
                  rfl
                · -- 36: Op.call ( callee := Callee.value (Operand.func 16), args := 
                  refine ⟨.inr ⟨32, 105, true, rfl, by decide +kernel, rfl⟩, .inr ⟨4, rfl, ?_⟩⟩
                  intro a' w' hk hd hT
                  have e108 : a'.eval (.tmp 108) = .pointer (some ⟨R, 0, none⟩) := hd 35 108 (by decide +kernel)
                  refine wp_call_at 16 _ _ (run_enter 16 _ _ rfl (by kernel_rfl)) ?_
                  simp only [List.map_toArray, List.map_nil, List.map_cons, e108]
                  refine (hT.1.vversions (by omega) HV.out).mono ?_
                  rintro e_ w7 ⟨he, hb⟩
                  exact ⟨he, hT.kept hb⟩
                · -- 37: Op.binOp BinOp.eql 3 (Operand.tmp 107) (Operand.tmp 109) 3
                  refine ⟨.inr ⟨32, 105, true, rfl, by decide +kernel, rfl⟩, .inl ⟨by decide, 5, 5, [36], [39, 38, 37], by decide +kernel, by decide +kernel, ?_⟩⟩
                  intro s_ a' w' hlo hhi hsl hk hd hT
                  have e107 : a'.eval (.tmp 107) = .int .i64 (V : Int) := hd 34 107 (by decide +kernel)
                  have e109 : a'.eval (.tmp 109) = .int .i64 (V : Int) := hd 36 109 (by decide +kernel)
                  clear hd hk hT
                  simp only [execOp, e107, e109]
                  go_simp
                · -- 38: Op.pick (Operand.tmp 105) (Operand.tmp 110) (Operand.const (
                  refine ⟨.inl rfl, .inl ⟨by decide, 5, 5, [37, 36], [39, 38], by decide +kernel, by decide +kernel, ?_⟩⟩
                  intro s_ a' w' hlo hhi hsl hk hd hT
                  have e105 : a'.eval (.tmp 105) = .bool true := hd 32 105 (by decide +kernel)
                  have e110 : a'.eval (.tmp 110) = .bool true := hd 37 110 (by decide +kernel)
                  clear hd hk hT
                  simp only [execOp, e105, e110]
                  go_simp
                · -- 39: Op.move (Operand.tmp 111)
                  refine ⟨.inl rfl, .inl ⟨by decide, 5, 5, [36], [39], by decide +kernel, by decide +kernel, ?_⟩⟩
                  intro s_ a' w' hlo hhi hsl hk hd hT
                  have e111 : a'.eval (.tmp 111) = .bool true := hd 38 111 (by decide +kernel)
                  simp only [execOp, e111]
                  rfl
                · -- 40: Op.call ( callee := Callee.value (Operand.func 10), args := 
                  refine ⟨.inr ⟨39, 112, true, rfl, by decide +kernel, rfl⟩, .inr ⟨5, rfl, ?_⟩⟩
                  intro a' w' hk hd hT
                  refine wp_call_at 10 _ _ (run_enter 10 _ _ rfl (by kernel_rfl)) ?_
                  simp only [List.map_toArray, List.map_nil]
                  refine (lives_any _).mono ?_
                  rintro e_ w7 ⟨he, hb⟩
                  exact ⟨he, hT.kept hb⟩
                · -- 41: Op.pick (Operand.tmp 112) (Operand.tmp 113) (Operand.const (
                  refine ⟨.inl rfl, .inl ⟨by decide, 6, 6, [40], [], by decide +kernel, by decide +kernel, ?_⟩⟩
                  intro s_ a' w' hlo hhi hsl hk hd hT
                  have e112 : a'.eval (.tmp 112) = .bool true := hd 39 112 (by decide +kernel)
                  have e113 : a'.eval (.tmp 113) = .bool true := hd 40 113 (by decide +kernel)
                  clear hd hk hT
                  simp only [execOp, e112, e113]
                  go_simp
                · -- 42: Op.assign (Operand.tmp 114)
                  refine ⟨.inl rfl, .inl ⟨by decide, 6, 6, [40], [], by decide +kernel, by decide +kernel, ?_⟩⟩
                  intro s_ a' w' hlo hhi hsl hk hd hT
                  have e114 : a'.eval (.tmp 114) = .bool true := hd 41 114 (by decide +kernel)
                  simp only [execOp, e114]
                  rfl
              · intro a' w9'' hsz hdf hk hall hT
                have e73 : a'.eval (.tmp 73) = .int .i64 0 := hall 0 _ 73 rfl rfl
                have e74 : a'.eval (.tmp 74) = .bool true := hall 1 _ 74 rfl rfl
                have e75 : a'.eval (.tmp 75) = .bool true := hall 2 _ 75 rfl rfl
                have e76 : a'.eval (.tmp 76) = .int .i64 0 := hall 3 _ 76 rfl rfl
                have e77 : a'.eval (.tmp 77) = .bool true := hall 4 _ 77 rfl rfl
                have e78 : a'.eval (.tmp 78) = .bool true := hall 5 _ 78 rfl rfl
                have e79 : a'.eval (.tmp 79) = .bool true := hall 6 _ 79 rfl rfl
                have e80 : a'.eval (.tmp 80) = v5 := hall 7 _ 80 rfl rfl
                have e81 : a'.eval (.tmp 81) = v9 := hall 8 _ 81 rfl rfl
                have e82 : a'.eval (.tmp 82) = .bool true := hall 9 _ 82 rfl rfl
                have e83 : a'.eval (.tmp 83) = .bool true := hall 10 _ 83 rfl rfl
                have e84 : a'.eval (.tmp 84) = .bool true := hall 11 _ 84 rfl rfl
                have e85 : a'.eval (.tmp 85) = .int .i64 2 := hall 12 _ 85 rfl rfl
                have e86 : a'.eval (.tmp 86) = .bool true := hall 13 _ 86 rfl rfl
                have e87 : a'.eval (.tmp 87) = .bool true := hall 14 _ 87 rfl rfl
                have e88 : a'.eval (.tmp 88) = .bool true := hall 15 _ 88 rfl rfl
                have e89 : a'.eval (.tmp 89) = .int .i64 er := hall 16 _ 89 rfl rfl
                have e90 : a'.eval (.tmp 90) = .bool b3 := hall 17 _ 90 rfl rfl
                have e91 : a'.eval (.tmp 91) = .pointer (some ⟨X, 3, none⟩) := hall 18 _ 91 rfl rfl
                have e92 : a'.eval (.tmp 92) = .slice ad ln cpa := hall 19 _ 92 rfl rfl
                have e93 : a'.eval (.tmp 93) = .bool b3 := hall 20 _ 93 rfl rfl
                have e94 : a'.eval (.tmp 94) = .bool true := hall 21 _ 94 rfl rfl
                have e95 : a'.eval (.tmp 95) = .bool true := hall 22 _ 95 rfl rfl
                have e96 : a'.eval (.tmp 96) = .bool true := hall 23 _ 96 rfl rfl
                have e97 : a'.eval (.tmp 97) = .pointer (some ⟨C, 0, none⟩) := hall 24 _ 97 rfl rfl
                have e98 : a'.eval (.tmp 98) = .int .i64 s.last := hall 25 _ 98 rfl rfl
                have e99 : a'.eval (.tmp 99) = .pointer (some ⟨R, 0, none⟩) := hall 26 _ 99 rfl rfl
                have e100 : a'.eval (.tmp 100) = .pointer (some ⟨R, 0, none⟩) := hall 27 _ 100 rfl rfl
                have e101 : a'.eval (.tmp 101) = .pointer (some ⟨R, 1, none⟩) := hall 28 _ 101 rfl rfl
                have e102 : a'.eval (.tmp 102) = .int .i64 s.last := hall 29 _ 102 rfl rfl
                have e103 : a'.eval (.tmp 103) = .bool true := hall 30 _ 103 rfl rfl
                have e104 : a'.eval (.tmp 104) = .bool true := hall 31 _ 104 rfl rfl
                have e105 : a'.eval (.tmp 105) = .bool true := hall 32 _ 105 rfl rfl
                have e106 : a'.eval (.tmp 106) = .pointer (some ⟨C, 0, none⟩) := hall 33 _ 106 rfl rfl
                have e107 : a'.eval (.tmp 107) = .int .i64 (V : Int) := hall 34 _ 107 rfl rfl
                have e108 : a'.eval (.tmp 108) = .pointer (some ⟨R, 0, none⟩) := hall 35 _ 108 rfl rfl
                have e109 : a'.eval (.tmp 109) = .int .i64 (V : Int) := hall 36 _ 109 rfl rfl
                have e110 : a'.eval (.tmp 110) = .bool true := hall 37 _ 110 rfl rfl
                have e111 : a'.eval (.tmp 111) = .bool true := hall 38 _ 111 rfl rfl
                have e112 : a'.eval (.tmp 112) = .bool true := hall 39 _ 112 rfl rfl
                have e113 : a'.eval (.tmp 113) = .bool true := hall 40 _ 113 rfl rfl
                have e114 : a'.eval (.tmp 114) = .bool true := hall 41 _ 114 rfl rfl
                have e4 : a'.eval (.tmp 4) = .bool true := hall 42 _ 4 rfl rfl
                have ha := act_puts 115 rfl hsz hdf hk [73, 74, 75, 76, 77, 78, 79, 80, 81, 82, 83, 84, 85, 86, 87, 88, 89, 90, 91, 92, 93, 94, 95, 96, 97, 98, 99, 100, 101, 102, 103, 104, 105, 106, 107, 108, 109, 110, 111, 112, 113, 114, 4] (by decide +kernel)
                simp only [puts, List.foldl_cons, List.foldl_nil, e73, e74, e75, e76, e77, e78, e79, e80, e81, e82, e83, e84, e85, e86, e87, e88, e89, e90, e91, e92, e93, e94, e95, e96, e97, e98, e99, e100, e101, e102, e103, e104, e105, e106, e107, e108, e109, e110, e111, e112, e113, e114, e4] at ha
                simp only [Act.put, List.setIfInBounds_toArray, List.set_cons_succ, List.set_cons_zero] at ha
                clear hall hk hsz hdf e73 e74 e75 e76 e77 e78 e79 e80 e81 e82 e83 e84 e85 e86 e87 e88 e89 e90 e91 e92 e93 e94 e95 e96 e97 e98 e99 e100 e101 e102 e103 e104 e105 e106 e107 e108 e109 e110 e111 e112 e113 e114 e4
                subst ha
                have L9 : Hid (Below w.heap.size w w9'') := L1.out.trans (hT.1.lo.mono L1.out.size)
                clear hT
                go_wp2_with fail
                go_ret
                exact ⟨rfl, L9.out⟩
#print axioms storeCopies_any
end Go.Proofs.Ytgaoionnfkbhaaa
