/-
  indenturelaw08.StoreKeeps: what the call does.
-/
import Derived.Test.YtgaoionnfkbhaaaStC
namespace Go.Proofs.Ytgaoionnfkbhaaa
open Go.RowKit
theorem wru {x : Int} (h0 : 0 ≤ x) (h1 : x ≤ 1000) : IntKind.u64.wrap x = x := by
  have e : IntKind.u64.wrap x = x % 18446744073709551616 := rfl
  rw [e]
  omega
set_option maxRecDepth 100000 in
set_option maxHeartbeats 4000000 in
theorem storeKeeps_any {w : World} {v : Value} {L : List Ac} (h : RdG AE w v L) (hok : AcsOk w L) (n : Nat) (hnb : n < 18446744073709551616) : Calls Try.prog 4 #[v, .int .u64 (n : Int)] w fun e w' => e = .returned (.bool true) ∧ Below w.heap.size w w' := by
  have HL := hide h
  have HOK := hide hok
  obtain ⟨a, cp, rfl⟩ := h.slice
  have hz := Zact8
  have hn : L.length ≤ 9223372036854775807 := Nat.le_trans h.cap h.max
  clear h hok
  obtain ⟨m, HM⟩ : ∃ m, Hid (L.length = m) := ⟨_, rfl⟩
  rw [HM.out] at HL hn ⊢
  go_enter Try.func4, Try.ntmps4
  go_wp2_with fail
  refine ls_new.mono ?_
  rintro e w1 ⟨D, rfl, hls⟩
  have S1 := hide hls
  clear hls
  go_wp2_with fail
  refine (light_any (HL.out.kept S1.out.lo) (fun a ha => (HOK.out a ha).kept S1.out.lo)).mono ?_
  rintro e w2 ⟨b, rfl, hlight, hb2⟩
  have S2 := hide (S1.out.kept hb2)
  clear hb2
  cases b with
  | false =>
    go_wp2_with fail
    refine (lives_any w2).mono ?_
    rintro e wz ⟨rfl, hbz⟩
    have LZ : Hid (Below w.heap.size w wz) := S2.out.lo.trans (hbz.mono (S2.out.lo).size)
    clear hbz
    go_wp2_with fail
    go_ret
    exact ⟨rfl, LZ.out⟩
  | true =>
    have HLI := hide (hlight rfl)
    clear hlight
    have hm60 : m ≤ 60 := by have := HLI.out.1; rw [HM.out] at this; exact this
    obtain ⟨t, ht, htm⟩ : ∃ t : Nat, (n : Int) % ((m : Int) + 1) = (t : Int) ∧ t ≤ m := ⟨n % (m + 1), by simp, by have := Nat.mod_lt n (show 0 < m + 1 by omega); omega⟩
    have x1 : IntKind.i64.wrap ((m : Int) + 1) = (m : Int) + 1 := wr64 (by omega) (by omega)
    have x2 : IntKind.u64.wrap ((m : Int) + 1) = (m : Int) + 1 := wru (by omega) (by omega)
    have x3 : IntKind.i64.wrap (t : Int) = (t : Int) := wr64 (by omega) (by omega)
    have x4 : (n : Int).tmod ((m : Int) + 1) = (t : Int) := by rw [Int.tmod_eq_emod_of_nonneg (by omega)]; exact ht
    have x5 : ¬ ((m : Int) + 1 = 0) := by omega
    have x6 : IntKind.u64.wrap (t : Int) = (t : Int) := wru (by omega) (by omega)
    go_wp2_with fail
    go_loopg [7, 8, 27] m (fun g ys yv x wr => ∃ (i : Nat) (s : SP) (snap : Int) (vw : Value), g + i = m ∧ ys = .int .i64 snap ∧ yv = vw ∧ x = .int .i64 (i : Int) ∧ Hid (LS w wr D i s (InB vw)) ∧ Hid (t < i → ∃ W, RdG PE wr vw W ∧ KeepP s snap W))
    case atStart => exact ⟨0, sp0, 0, .slice none 0 0, by omega, rfl, rfl, rfl, S2.out.less (fun b h => no_inB b h), (show _ → _ from fun h => absurd h (by omega))⟩
    case round =>
      obtain ⟨i, s, snap, vw, hgi, rfl, hvw, rfl, SR, HW⟩ := hrel
      have hvw := hvw.symm
      subst hvw
      by_cases hlt : i < m
      · have q2 : (i : Int) < (m : Int) := by omega
        have hrd := hide (HL.out.kept SR.out.lo)
        obtain ⟨b, off, rfl, hlb4, hx⟩ := (hrd.out).nth (by omega)
        have hlt' : i < L.length := by rw [HM.out]; exact hlt
        have hr : wr.rangeAt b (off + i * 6) (AC L[i]) := hx i hlt'
        obtain ⟨p, HPp⟩ : ∃ p, Hid (L[i] = p) := ⟨L[i], (show L[i] = L[i] from rfl)⟩
        rw [HPp.out] at hr
        clear hx hlb4
        go_upto_region 10 with (first
          | (refine wpList_load_mid rfl 33 _ rfl b (off + i * 6) rfl (AC p) _ hr Try.underlying33 rfl Try.size33 ?_)
          | (refine wpList_store_new rfl 33 _ _ rfl wr _ (AC p).toArray _ rfl rfl rfl Try.size33 rfl (all_one (AC_one p)) ?_)
          | fail)
        obtain ⟨E, HE⟩ : ∃ E, Hid (wr.heap.size = E) := ⟨_, rfl⟩
        rw [HE.out]
        obtain ⟨w4, hw4⟩ : ∃ x, x = wr.alloc (.cells (AC p).toArray 33 (0, 0)) := ⟨_, rfl⟩
        rw [← hw4]
        have G4 : Hid (Below wr.heap.size wr w4) := (show Below _ _ _ by rw [hw4]; exact (Below.refl _ _).alloc (Nat.le_refl _) _)
        have B4 : Hid (Blk w4 E 33 (AC p)) := (show Blk _ _ _ _ by rw [hw4, ← HE.out]; exact Blk.new wr 33 (AC p))
        clear hw4 hr
        have S4 := hide (SR.out.own G4.out (Nat.le_of_eq HE.out) B4.out.lt)
        have HL60 := hide ((HLI.out.2.2 p (by rw [← HPp.out]; exact List.getElem_mem hlt')).1)
        have HA := hide (HOK.out p (by rw [← HPp.out]; exact List.getElem_mem hlt'))
        have LOW := hide HA.out.low
        have hbn := S4.out.bnd
        obtain ⟨kd, xn, xm, ad, ln, cpa, pl, fr, tt⟩ := p
        simp only at LOW HL60
        clear x1 x2 x3 x4 x5 x6
        by_cases hA : i = t
        · have q3 : (i : Int) = (t : Int) := by omega
          have q7 : ¬ (t : Int) < (i : Int) := by omega
          have q8 : ¬ (i : Int) < (t : Int) := by omega
          obtain ⟨W, K5⟩ : ∃ W, Hid (KeepP s s.last W) := (show ∃ W, KeepP s s.last W by obtain ⟨ks5, h5, -⟩ := S4.out.good; exact keep_start h5)
          have C5 := hide (S4.out.scanK (by omega) K5.out)
          go_wp2_with fail
          refine S4.out.last.mono ?_
          rintro e w_ ⟨rfl, hw⟩
          subst w_
          go_wp2_with fail
          refine C5.out.mono ?_
          rintro e w5 ⟨v5, rfl, ho5, hb5⟩
          have S5 := hide (S4.out.row hb5 ho5)
          have R5 := hide ho5.rd
          have B5 := hide (B4.out.kept hb5)
          clear hb5 ho5 C5 HW
          have d0 := B5.out.cell (j := 0) rfl
          have d1 := B5.out.cell (j := 1) rfl
          simp only at d0 d1
          by_cases hk0 : kd = 0
          · subst hk0
            go_wp2_with fail
            refine wp_region_tails Try.mixed (KS (fun i_ => match i_ with | 0 | 1 => .val (.pointer (some ⟨D, 0, none⟩)) | 2 => .val (.int .i64 s.last) | 3 => .val (.int .i64 (s.last + 1)) | 4 => .val (.pointer (some ⟨E, 3, none⟩)) | 5 => .val (.slice ad ln cpa) | _ => .free)) 97 rfl (by decide +kernel) 6 (by decide) (by decide +kernel) (KS_mono _) ?_ ?_
            · refine AllFrom.cons ⟨rfl, fun a' w' hg hk hd Q => ?_⟩ (AllFrom.cons ⟨rfl, fun a' w' hg hk hd Q => ?_⟩ (AllFrom.cons ⟨rfl, fun a' w' hg hk hd Q => ?_⟩ (AllFrom.cons ⟨rfl, fun a' w' hg hk hd Q => ?_⟩ (AllFrom.cons ⟨rfl, fun a' w' hg hk hd Q => ?_⟩ (AllFrom.cons ⟨rfl, fun a' w' hg hk hd Q => ?_⟩ AllFrom.nil)))))
              · -- 0: Op.move (Operand.tmp 5)
                have e5 : a'.eval (.tmp 5) = .pointer (some ⟨D, 0, none⟩) := hk.at 5 (by decide +kernel)
                exact wp_value _ (by simp only [execOp, e5]; rfl) (KS_mkv rfl rfl)
              · -- 1: Op.move (Operand.tmp 5)
                have e5 : a'.eval (.tmp 5) = .pointer (some ⟨D, 0, none⟩) := hk.at 5 (by decide +kernel)
                exact wp_value _ (by simp only [execOp, e5]; rfl) (KS_mkv rfl rfl)
              · -- 2: Op.call ( callee := Callee.value (Operand.func 13), args := 
                have e48 : a'.eval (.tmp 48) = .pointer (some ⟨D, 0, none⟩) := KS_val (Deps.val hd 1 48 (by decide +kernel)) rfl
                refine wp_call 13 _ (run_enter 13 _ _ rfl (by kernel_rfl)) ?_
                simp only [List.map_toArray, List.map_nil, List.map_cons, e48]
                refine (S5.out.kept hg).last.mono ?_
                rintro e_ w_ ⟨rfl, hw_⟩
                subst w_
                exact ⟨_, rfl, KS_mkv rfl rfl, Gr.refl _⟩
              · -- 3: Op.binOp BinOp.add 3 (Operand.tmp 49) (Operand.const (Value.
                have e49 : a'.eval (.tmp 49) = .int .i64 s.last := KS_val (Deps.val hd 2 49 (by decide +kernel)) rfl
                exact wp_value (.int .i64 (s.last + 1)) (by simp only [execOp, e49]; go_simp; exact wr64 (by have := S5.out.bnd; omega) (by have := S5.out.bnd; omega)) (KS_mkv rfl rfl)
              · -- 4: Op.fieldAddr 33 (Operand.tmp 10) 3
                have e10 : a'.eval (.tmp 10) = .pointer (some ⟨E, 0, none⟩) := hk.at 10 (by decide +kernel)
                clear hd hk
                exact wp_value (.pointer (some ⟨E, 3, none⟩)) (by simp only [execOp, e10]; go_simp) (KS_mkv rfl rfl)
              · -- 5: Op.load 31 (Operand.tmp 51)
                have e51 : a'.eval (.tmp 51) = .pointer (some ⟨E, 3, none⟩) := KS_val (Deps.val hd 4 51 (by decide +kernel)) rfl
                have c := (B5.out.kept hg).cell (j := 3) rfl
                simp only at c
                clear hd hk
                exact wp_value (.slice ad ln cpa) (by simp only [execOp, e51]; go_simp) (KS_mkv rfl rfl)
            · intro a' w_ hsz hdf hk hall hg
              have e47 : a'.eval (.tmp 47) = .pointer (some ⟨D, 0, none⟩) := KS_val (hall 0 _ 47 (by decide) rfl rfl) rfl
              have e48 : a'.eval (.tmp 48) = .pointer (some ⟨D, 0, none⟩) := KS_val (hall 1 _ 48 (by decide) rfl rfl) rfl
              have e49 : a'.eval (.tmp 49) = .int .i64 s.last := KS_val (hall 2 _ 49 (by decide) rfl rfl) rfl
              have e50 : a'.eval (.tmp 50) = .int .i64 (s.last + 1) := KS_val (hall 3 _ 50 (by decide) rfl rfl) rfl
              have e51 : a'.eval (.tmp 51) = .pointer (some ⟨E, 3, none⟩) := KS_val (hall 4 _ 51 (by decide) rfl rfl) rfl
              have e52 : a'.eval (.tmp 52) = .slice ad ln cpa := KS_val (hall 5 _ 52 (by decide) rfl rfl) rfl
              obtain ⟨x53, e53⟩ : ∃ v, a'.eval (.tmp 53) = v := ⟨_, rfl⟩
              have hr_ := (HA.out.r.kept ((S5.out.kept hg).lo))
              simp only at hr_
              refine wpSeq_call rfl 24 _ (run_enter 24 _ _ rfl (by kernel_rfl)) ?_
              simp only [List.map_toArray, List.map_nil, List.map_cons, e47, e50, e52]
              refine ((S5.out.kept hg).install (by omega) hr_ HL60.out LOW.out (s.last + 1)).mono ?_
              rintro e_ w8 ⟨rfl, hls_, hsm_⟩
              refine ⟨_, rfl, ?_⟩
              obtain ⟨er_w8, HER_w8⟩ : ∃ x : Int, Hid ((if instOk s (s.last + 1) pl = true then 0 else 2) = x) := ⟨_, rfl⟩
              rw [HER_w8.out]
              have S8 := hide hls_
              have B_w8 := hide ((B5.out.kept hg).same hsm_ (.inl (.inr rfl)))
              have R8 := hide ((R5.out.kept hg).same hsm_ (fun _ h => .inr h))
              have K8 : Hid (KeepP (instP s (s.last + 1) pl) s.last W) := (show KeepP _ _ _ by obtain ⟨ks8, h8, -⟩ := S8.out.good; exact K5.out.install h8)
              have ha := act_puts 97 rfl hsz hdf hk [47, 48, 49, 50, 51, 52, 53] (by decide +kernel)
              simp only [puts, List.foldl_cons, List.foldl_nil, e47, e48, e49, e50, e51, e52, e53] at ha
              simp only [Act.put, List.setIfInBounds_toArray, List.set_cons_succ, List.set_cons_zero] at ha
              clear hall hk hsz hdf hls_ hsm_ hr_ hg e47 e48 e49 e50 e51 e52 e53
              subst ha
              simp only [Act.put, List.setIfInBounds_toArray, List.set_cons_succ, List.set_cons_zero]
              obtain ⟨s8, HS8⟩ : ∃ x, Hid (instP s (s.last + 1) pl = x) := ⟨_, rfl⟩
              rw [HS8.out] at S8 K8
              have q6 : decide (s.last < s8.floor) = false := by have := K8.out.1; simp; omega
              have C9 := hide (S8.out.scanK (by omega) K8.out)
              go_wp2_with fail
              refine C9.out.mono ?_
              rintro e w9 ⟨v9, rfl, ho9, hb9⟩
              have S9 := hide (S8.out.kept hb9)
              have R9 := hide (R8.out.kept hb9)
              have O9 := hide ho9.rd
              clear hb9 ho9 C9
              go_wp2_with fail
              refine S9.out.floor.mono ?_
              rintro e w_ ⟨rfl, hw⟩
              subst w_
              have CS := hide (vsame_any O9.out R9.out)
              simp only [decide_true] at CS
              go_wp2_with fail
              refine CS.out.mono ?_
              rintro e w10 ⟨rfl, hb10⟩
              have S10 := hide (S9.out.kept hb10)
              have R10 := hide (R9.out.kept hb10)
              clear hb10 CS q6
              have HN : Hid (t < i + 1 → ∃ W, RdG PE w10 v5 W ∧ KeepP s8 s.last W) := (show _ → _ from fun _ => ⟨_, R10.out, K8.out⟩)
              go_wp2_with fail
              go_roundg (gk - 1)
              case measure => omega
              case rel => exact ⟨i + 1, s8, s.last, v5, by omega, rfl, rfl, by go_num, (S10.out.mono (by omega)).less (fun _ h => .inr h), HN⟩
          · by_cases hk2 : kd = 2
            · subst hk2
              obtain ⟨ec, HEC⟩ : ∃ x : Int, Hid ((if collOk s xn = true then 0 else 2) = x) := ⟨_, rfl⟩
              have C6 := hide (S5.out.collect (by omega) xn)
              rw [HEC.out] at C6
              go_wp2_with fail
              refine C6.out.mono ?_
              rintro e w8 ⟨rfl, hls, hsm⟩
              have S8 := hide hls
              have R8 := hide (R5.out.same hsm (fun _ h => .inr h))
              have K8 : Hid (KeepP (collP s xn) s.last W) := (show KeepP _ _ _ by obtain ⟨ks8, h8, -⟩ := S8.out.good; exact K5.out.collect (.inr (Int.le_refl _)) h8)
              clear hls hsm C6 d0 d1
              obtain ⟨s8, HS8⟩ : ∃ x, Hid (collP s xn = x) := ⟨_, rfl⟩
              rw [HS8.out] at S8 K8
              have q6 : decide (s.last < s8.floor) = false := by have := K8.out.1; simp; omega
              have C9 := hide (S8.out.scanK (by omega) K8.out)
              go_wp2_with fail
              refine C9.out.mono ?_
              rintro e w9 ⟨v9, rfl, ho9, hb9⟩
              have S9 := hide (S8.out.kept hb9)
              have R9 := hide (R8.out.kept hb9)
              have O9 := hide ho9.rd
              clear hb9 ho9 C9
              go_wp2_with fail
              refine S9.out.floor.mono ?_
              rintro e w_ ⟨rfl, hw⟩
              subst w_
              have CS := hide (vsame_any O9.out R9.out)
              simp only [decide_true] at CS
              go_wp2_with fail
              refine CS.out.mono ?_
              rintro e w10 ⟨rfl, hb10⟩
              have S10 := hide (S9.out.kept hb10)
              have R10 := hide (R9.out.kept hb10)
              clear hb10 CS q6
              have HN : Hid (t < i + 1 → ∃ W, RdG PE w10 v5 W ∧ KeepP s8 s.last W) := (show _ → _ from fun _ => ⟨_, R10.out, K8.out⟩)
              go_wp2_with fail
              go_roundg (gk - 1)
              case measure => omega
              case rel => exact ⟨i + 1, s8, s.last, v5, by omega, rfl, rfl, by go_num, (S10.out.mono (by omega)).less (fun _ h => .inr h), HN⟩
            · have q6 : decide (s.last < s.floor) = false := by have := K5.out.1; simp; omega
              have C9 := hide (S5.out.scanK (by omega) K5.out)
              go_wp2_with fail
              refine C9.out.mono ?_
              rintro e w9 ⟨v9, rfl, ho9, hb9⟩
              have S9 := hide (S5.out.kept hb9)
              have R9 := hide (R5.out.kept hb9)
              have O9 := hide ho9.rd
              clear hb9 ho9 C9
              go_wp2_with fail
              refine S9.out.floor.mono ?_
              rintro e w_ ⟨rfl, hw⟩
              subst w_
              have CS := hide (vsame_any O9.out R9.out)
              simp only [decide_true] at CS
              go_wp2_with fail
              refine CS.out.mono ?_
              rintro e w10 ⟨rfl, hb10⟩
              have S10 := hide (S9.out.kept hb10)
              have R10 := hide (R9.out.kept hb10)
              clear hb10 CS q6
              have HN : Hid (t < i + 1 → ∃ W, RdG PE w10 v5 W ∧ KeepP s s.last W) := (show _ → _ from fun _ => ⟨_, R10.out, K5.out⟩)
              go_wp2_with fail
              go_roundg (gk - 1)
              case measure => omega
              case rel => exact ⟨i + 1, s, s.last, v5, by omega, rfl, rfl, by go_num, (S10.out.mono (by omega)).less (fun _ h => .inr h), HN⟩
        · have q3 : ¬ (i : Int) = (t : Int) := by omega
          by_cases hB : i < t
          · have q7 : ¬ (t : Int) < (i : Int) := by omega
            have q8 : (i : Int) < (t : Int) := by omega
            clear HW
            have d0 := B4.out.cell (j := 0) rfl
            have d1 := B4.out.cell (j := 1) rfl
            simp only at d0 d1
            by_cases hk0 : kd = 0
            · subst hk0
              go_wp2_with fail
              refine wp_region_tails Try.mixed (KS (fun i_ => match i_ with | 0 | 1 => .val (.pointer (some ⟨D, 0, none⟩)) | 2 => .val (.int .i64 s.last) | 3 => .val (.int .i64 (s.last + 1)) | 4 => .val (.pointer (some ⟨E, 3, none⟩)) | 5 => .val (.slice ad ln cpa) | _ => .free)) 97 rfl (by decide +kernel) 6 (by decide) (by decide +kernel) (KS_mono _) ?_ ?_
              · refine AllFrom.cons ⟨rfl, fun a' w' hg hk hd Q => ?_⟩ (AllFrom.cons ⟨rfl, fun a' w' hg hk hd Q => ?_⟩ (AllFrom.cons ⟨rfl, fun a' w' hg hk hd Q => ?_⟩ (AllFrom.cons ⟨rfl, fun a' w' hg hk hd Q => ?_⟩ (AllFrom.cons ⟨rfl, fun a' w' hg hk hd Q => ?_⟩ (AllFrom.cons ⟨rfl, fun a' w' hg hk hd Q => ?_⟩ AllFrom.nil)))))
                · -- 0: Op.move (Operand.tmp 5)
                  have e5 : a'.eval (.tmp 5) = .pointer (some ⟨D, 0, none⟩) := hk.at 5 (by decide +kernel)
                  exact wp_value _ (by simp only [execOp, e5]; rfl) (KS_mkv rfl rfl)
                · -- 1: Op.move (Operand.tmp 5)
                  have e5 : a'.eval (.tmp 5) = .pointer (some ⟨D, 0, none⟩) := hk.at 5 (by decide +kernel)
                  exact wp_value _ (by simp only [execOp, e5]; rfl) (KS_mkv rfl rfl)
                · -- 2: Op.call ( callee := Callee.value (Operand.func 13), args := 
                  have e48 : a'.eval (.tmp 48) = .pointer (some ⟨D, 0, none⟩) := KS_val (Deps.val hd 1 48 (by decide +kernel)) rfl
                  refine wp_call 13 _ (run_enter 13 _ _ rfl (by kernel_rfl)) ?_
                  simp only [List.map_toArray, List.map_nil, List.map_cons, e48]
                  refine (S4.out.kept hg).last.mono ?_
                  rintro e_ w_ ⟨rfl, hw_⟩
                  subst w_
                  exact ⟨_, rfl, KS_mkv rfl rfl, Gr.refl _⟩
                · -- 3: Op.binOp BinOp.add 3 (Operand.tmp 49) (Operand.const (Value.
                  have e49 : a'.eval (.tmp 49) = .int .i64 s.last := KS_val (Deps.val hd 2 49 (by decide +kernel)) rfl
                  exact wp_value (.int .i64 (s.last + 1)) (by simp only [execOp, e49]; go_simp; exact wr64 (by have := S4.out.bnd; omega) (by have := S4.out.bnd; omega)) (KS_mkv rfl rfl)
                · -- 4: Op.fieldAddr 33 (Operand.tmp 10) 3
                  have e10 : a'.eval (.tmp 10) = .pointer (some ⟨E, 0, none⟩) := hk.at 10 (by decide +kernel)
                  clear hd hk
                  exact wp_value (.pointer (some ⟨E, 3, none⟩)) (by simp only [execOp, e10]; go_simp) (KS_mkv rfl rfl)
                · -- 5: Op.load 31 (Operand.tmp 51)
                  have e51 : a'.eval (.tmp 51) = .pointer (some ⟨E, 3, none⟩) := KS_val (Deps.val hd 4 51 (by decide +kernel)) rfl
                  have c := (B4.out.kept hg).cell (j := 3) rfl
                  simp only at c
                  clear hd hk
                  exact wp_value (.slice ad ln cpa) (by simp only [execOp, e51]; go_simp) (KS_mkv rfl rfl)
              · intro a' w_ hsz hdf hk hall hg
                have e47 : a'.eval (.tmp 47) = .pointer (some ⟨D, 0, none⟩) := KS_val (hall 0 _ 47 (by decide) rfl rfl) rfl
                have e48 : a'.eval (.tmp 48) = .pointer (some ⟨D, 0, none⟩) := KS_val (hall 1 _ 48 (by decide) rfl rfl) rfl
                have e49 : a'.eval (.tmp 49) = .int .i64 s.last := KS_val (hall 2 _ 49 (by decide) rfl rfl) rfl
                have e50 : a'.eval (.tmp 50) = .int .i64 (s.last + 1) := KS_val (hall 3 _ 50 (by decide) rfl rfl) rfl
                have e51 : a'.eval (.tmp 51) = .pointer (some ⟨E, 3, none⟩) := KS_val (hall 4 _ 51 (by decide) rfl rfl) rfl
                have e52 : a'.eval (.tmp 52) = .slice ad ln cpa := KS_val (hall 5 _ 52 (by decide) rfl rfl) rfl
                obtain ⟨x53, e53⟩ : ∃ v, a'.eval (.tmp 53) = v := ⟨_, rfl⟩
                have hr_ := (HA.out.r.kept ((S4.out.kept hg).lo))
                simp only at hr_
                refine wpSeq_call rfl 24 _ (run_enter 24 _ _ rfl (by kernel_rfl)) ?_
                simp only [List.map_toArray, List.map_nil, List.map_cons, e47, e50, e52]
                refine ((S4.out.kept hg).install (by omega) hr_ HL60.out LOW.out (s.last + 1)).mono ?_
                rintro e_ w8 ⟨rfl, hls_, hsm_⟩
                refine ⟨_, rfl, ?_⟩
                obtain ⟨er_w8, HER_w8⟩ : ∃ x : Int, Hid ((if instOk s (s.last + 1) pl = true then 0 else 2) = x) := ⟨_, rfl⟩
                rw [HER_w8.out]
                have S8 := hide hls_
                have B_w8 := hide ((B4.out.kept hg).same hsm_ (.inr rfl))
                have ha := act_puts 97 rfl hsz hdf hk [47, 48, 49, 50, 51, 52, 53] (by decide +kernel)
                simp only [puts, List.foldl_cons, List.foldl_nil, e47, e48, e49, e50, e51, e52, e53] at ha
                simp only [Act.put, List.setIfInBounds_toArray, List.set_cons_succ, List.set_cons_zero] at ha
                clear hall hk hsz hdf hls_ hsm_ hr_ hg e47 e48 e49 e50 e51 e52 e53
                subst ha
                simp only [Act.put, List.setIfInBounds_toArray, List.set_cons_succ, List.set_cons_zero]
                obtain ⟨s8, HS8⟩ : ∃ x, Hid (instP s (s.last + 1) pl = x) := ⟨_, rfl⟩
                rw [HS8.out] at S8
                have HN : Hid (t < i + 1 → ∃ W, RdG PE w8 vw W ∧ KeepP s8 snap W) := (show _ → _ from fun h => absurd h (by omega))
                go_wp2_with fail
                go_roundg (gk - 1)
                case measure => omega
                case rel => exact ⟨i + 1, s8, snap, vw, by omega, rfl, rfl, by go_num, (S8.out.mono (by omega)).less (fun _ h => .inl h), HN⟩
            · by_cases hk2 : kd = 2
              · subst hk2
                obtain ⟨ec, HEC⟩ : ∃ x : Int, Hid ((if collOk s xn = true then 0 else 2) = x) := ⟨_, rfl⟩
                have C6 := hide (S4.out.collect (by omega) xn)
                rw [HEC.out] at C6
                go_wp2_with fail
                refine C6.out.mono ?_
                rintro e w8 ⟨rfl, hls, hsm⟩
                have S8 := hide hls
                clear hls hsm C6 d0 d1
                obtain ⟨s8, HS8⟩ : ∃ x, Hid (collP s xn = x) := ⟨_, rfl⟩
                rw [HS8.out] at S8
                have HN : Hid (t < i + 1 → ∃ W, RdG PE w8 vw W ∧ KeepP s8 snap W) := (show _ → _ from fun h => absurd h (by omega))
                go_wp2_with fail
                go_roundg (gk - 1)
                case measure => omega
                case rel => exact ⟨i + 1, s8, snap, vw, by omega, rfl, rfl, by go_num, (S8.out.mono (by omega)).less (fun _ h => .inl h), HN⟩
              · have HN : Hid (t < i + 1 → ∃ W, RdG PE w4 vw W ∧ KeepP s snap W) := (show _ → _ from fun h => absurd h (by omega))
                go_wp2_with fail
                go_roundg (gk - 1)
                case measure => omega
                case rel => exact ⟨i + 1, s, snap, vw, by omega, rfl, rfl, by go_num, (S4.out.mono (by omega)).less (fun _ h => .inl h), HN⟩
          · have q7 : (t : Int) < (i : Int) := by omega
            have q8 : ¬ (i : Int) < (t : Int) := by omega
            obtain ⟨W, hrw, hkw⟩ := HW.out (by omega)
            have R4 := hide (hrw.kept G4.out)
            have K4 := hide hkw
            clear hrw hkw HW
            have d0 := B4.out.cell (j := 0) rfl
            have d1 := B4.out.cell (j := 1) rfl
            simp only at d0 d1
            by_cases hk0 : kd = 0
            · subst hk0
              go_wp2_with fail
              refine wp_region_tails Try.mixed (KS (fun i_ => match i_ with | 0 | 1 => .val (.pointer (some ⟨D, 0, none⟩)) | 2 => .val (.int .i64 s.last) | 3 => .val (.int .i64 (s.last + 1)) | 4 => .val (.pointer (some ⟨E, 3, none⟩)) | 5 => .val (.slice ad ln cpa) | _ => .free)) 97 rfl (by decide +kernel) 6 (by decide) (by decide +kernel) (KS_mono _) ?_ ?_
              · refine AllFrom.cons ⟨rfl, fun a' w' hg hk hd Q => ?_⟩ (AllFrom.cons ⟨rfl, fun a' w' hg hk hd Q => ?_⟩ (AllFrom.cons ⟨rfl, fun a' w' hg hk hd Q => ?_⟩ (AllFrom.cons ⟨rfl, fun a' w' hg hk hd Q => ?_⟩ (AllFrom.cons ⟨rfl, fun a' w' hg hk hd Q => ?_⟩ (AllFrom.cons ⟨rfl, fun a' w' hg hk hd Q => ?_⟩ AllFrom.nil)))))
                · -- 0: Op.move (Operand.tmp 5)
                  have e5 : a'.eval (.tmp 5) = .pointer (some ⟨D, 0, none⟩) := hk.at 5 (by decide +kernel)
                  exact wp_value _ (by simp only [execOp, e5]; rfl) (KS_mkv rfl rfl)
                · -- 1: Op.move (Operand.tmp 5)
                  have e5 : a'.eval (.tmp 5) = .pointer (some ⟨D, 0, none⟩) := hk.at 5 (by decide +kernel)
                  exact wp_value _ (by simp only [execOp, e5]; rfl) (KS_mkv rfl rfl)
                · -- 2: Op.call ( callee := Callee.value (Operand.func 13), args := 
                  have e48 : a'.eval (.tmp 48) = .pointer (some ⟨D, 0, none⟩) := KS_val (Deps.val hd 1 48 (by decide +kernel)) rfl
                  refine wp_call 13 _ (run_enter 13 _ _ rfl (by kernel_rfl)) ?_
                  simp only [List.map_toArray, List.map_nil, List.map_cons, e48]
                  refine (S4.out.kept hg).last.mono ?_
                  rintro e_ w_ ⟨rfl, hw_⟩
                  subst w_
                  exact ⟨_, rfl, KS_mkv rfl rfl, Gr.refl _⟩
                · -- 3: Op.binOp BinOp.add 3 (Operand.tmp 49) (Operand.const (Value.
                  have e49 : a'.eval (.tmp 49) = .int .i64 s.last := KS_val (Deps.val hd 2 49 (by decide +kernel)) rfl
                  exact wp_value (.int .i64 (s.last + 1)) (by simp only [execOp, e49]; go_simp; exact wr64 (by have := S4.out.bnd; omega) (by have := S4.out.bnd; omega)) (KS_mkv rfl rfl)
                · -- 4: Op.fieldAddr 33 (Operand.tmp 10) 3
                  have e10 : a'.eval (.tmp 10) = .pointer (some ⟨E, 0, none⟩) := hk.at 10 (by decide +kernel)
                  clear hd hk
                  exact wp_value (.pointer (some ⟨E, 3, none⟩)) (by simp only [execOp, e10]; go_simp) (KS_mkv rfl rfl)
                · -- 5: Op.load 31 (Operand.tmp 51)
                  have e51 : a'.eval (.tmp 51) = .pointer (some ⟨E, 3, none⟩) := KS_val (Deps.val hd 4 51 (by decide +kernel)) rfl
                  have c := (B4.out.kept hg).cell (j := 3) rfl
                  simp only at c
                  clear hd hk
                  exact wp_value (.slice ad ln cpa) (by simp only [execOp, e51]; go_simp) (KS_mkv rfl rfl)
              · intro a' w_ hsz hdf hk hall hg
                have e47 : a'.eval (.tmp 47) = .pointer (some ⟨D, 0, none⟩) := KS_val (hall 0 _ 47 (by decide) rfl rfl) rfl
                have e48 : a'.eval (.tmp 48) = .pointer (some ⟨D, 0, none⟩) := KS_val (hall 1 _ 48 (by decide) rfl rfl) rfl
                have e49 : a'.eval (.tmp 49) = .int .i64 s.last := KS_val (hall 2 _ 49 (by decide) rfl rfl) rfl
                have e50 : a'.eval (.tmp 50) = .int .i64 (s.last + 1) := KS_val (hall 3 _ 50 (by decide) rfl rfl) rfl
                have e51 : a'.eval (.tmp 51) = .pointer (some ⟨E, 3, none⟩) := KS_val (hall 4 _ 51 (by decide) rfl rfl) rfl
                have e52 : a'.eval (.tmp 52) = .slice ad ln cpa := KS_val (hall 5 _ 52 (by decide) rfl rfl) rfl
                obtain ⟨x53, e53⟩ : ∃ v, a'.eval (.tmp 53) = v := ⟨_, rfl⟩
                have hr_ := (HA.out.r.kept ((S4.out.kept hg).lo))
                simp only at hr_
                refine wpSeq_call rfl 24 _ (run_enter 24 _ _ rfl (by kernel_rfl)) ?_
                simp only [List.map_toArray, List.map_nil, List.map_cons, e47, e50, e52]
                refine ((S4.out.kept hg).install (by omega) hr_ HL60.out LOW.out (s.last + 1)).mono ?_
                rintro e_ w8 ⟨rfl, hls_, hsm_⟩
                refine ⟨_, rfl, ?_⟩
                obtain ⟨er_w8, HER_w8⟩ : ∃ x : Int, Hid ((if instOk s (s.last + 1) pl = true then 0 else 2) = x) := ⟨_, rfl⟩
                rw [HER_w8.out]
                have S8 := hide hls_
                have B_w8 := hide ((B4.out.kept hg).same hsm_ (.inr rfl))
                have R8 := hide ((R4.out.kept hg).same hsm_ (fun _ h => .inl h))
                have K8 : Hid (KeepP (instP s (s.last + 1) pl) snap W) := (show KeepP _ _ _ by obtain ⟨ks8, h8, -⟩ := S8.out.good; exact K4.out.install h8)
                have ha := act_puts 97 rfl hsz hdf hk [47, 48, 49, 50, 51, 52, 53] (by decide +kernel)
                simp only [puts, List.foldl_cons, List.foldl_nil, e47, e48, e49, e50, e51, e52, e53] at ha
                simp only [Act.put, List.setIfInBounds_toArray, List.set_cons_succ, List.set_cons_zero] at ha
                clear hall hk hsz hdf hls_ hsm_ hr_ hg e47 e48 e49 e50 e51 e52 e53
                subst ha
                simp only [Act.put, List.setIfInBounds_toArray, List.set_cons_succ, List.set_cons_zero]
                obtain ⟨s8, HS8⟩ : ∃ x, Hid (instP s (s.last + 1) pl = x) := ⟨_, rfl⟩
                rw [HS8.out] at S8 K8
                have q6 : decide (snap < s8.floor) = false := by have := K8.out.1; simp; omega
                have C9 := hide (S8.out.scanK (by omega) K8.out)
                go_wp2_with fail
                refine C9.out.mono ?_
                rintro e w9 ⟨v9, rfl, ho9, hb9⟩
                have S9 := hide (S8.out.kept hb9)
                have R9 := hide (R8.out.kept hb9)
                have O9 := hide ho9.rd
                clear hb9 ho9 C9
                go_wp2_with fail
                refine S9.out.floor.mono ?_
                rintro e w_ ⟨rfl, hw⟩
                subst w_
                have CS := hide (vsame_any O9.out R9.out)
                simp only [decide_true] at CS
                go_wp2_with fail
                refine CS.out.mono ?_
                rintro e w10 ⟨rfl, hb10⟩
                have S10 := hide (S9.out.kept hb10)
                have R10 := hide (R9.out.kept hb10)
                clear hb10 CS q6
                have HN : Hid (t < i + 1 → ∃ W, RdG PE w10 vw W ∧ KeepP s8 snap W) := (show _ → _ from fun _ => ⟨_, R10.out, K8.out⟩)
                go_wp2_with fail
                go_roundg (gk - 1)
                case measure => omega
                case rel => exact ⟨i + 1, s8, snap, vw, by omega, rfl, rfl, by go_num, (S10.out.mono (by omega)).less (fun _ h => .inl h), HN⟩
            · by_cases hk2 : kd = 2
              · subst hk2
                by_cases hg1 : snap < xn
                · have q4 : decide (snap < xn) = true := by simp [hg1]
                  have HN : Hid (t < i + 1 → ∃ W, RdG PE w4 vw W ∧ KeepP s snap W) := (show _ → _ from fun _ => ⟨_, R4.out, K4.out⟩)
                  go_wp2_with fail
                  go_roundg (gk - 1)
                  case measure => omega
                  case rel => exact ⟨i + 1, s, snap, vw, by omega, rfl, rfl, by go_num, (S4.out.mono (by omega)).less (fun _ h => .inl h), HN⟩
                · have q4 : decide (snap < xn) = false := by simp; omega
                  by_cases hg2 : xn < 0
                  · have q5 : decide (xn < 0) = true := by simp [hg2]
                    have HN : Hid (t < i + 1 → ∃ W, RdG PE w4 vw W ∧ KeepP s snap W) := (show _ → _ from fun _ => ⟨_, R4.out, K4.out⟩)
                    go_wp2_with fail
                    go_roundg (gk - 1)
                    case measure => omega
                    case rel => exact ⟨i + 1, s, snap, vw, by omega, rfl, rfl, by go_num, (S4.out.mono (by omega)).less (fun _ h => .inl h), HN⟩
                  · have q5 : decide (xn < 0) = false := by simp; omega
                    obtain ⟨ec, HEC⟩ : ∃ x : Int, Hid ((if collOk s xn = true then 0 else 2) = x) := ⟨_, rfl⟩
                    have C6 := hide (S4.out.collect (by omega) xn)
                    rw [HEC.out] at C6
                    go_wp2_with fail
                    refine C6.out.mono ?_
                    rintro e w8 ⟨rfl, hls, hsm⟩
                    have S8 := hide hls
                    have R8 := hide (R4.out.same hsm (fun _ h => .inl h))
                    have K8 : Hid (KeepP (collP s xn) snap W) := (show KeepP _ _ _ by obtain ⟨ks8, h8, -⟩ := S8.out.good; exact K4.out.collect (.inl (by omega)) h8)
                    clear hls hsm C6 d0 d1
                    obtain ⟨s8, HS8⟩ : ∃ x, Hid (collP s xn = x) := ⟨_, rfl⟩
                    rw [HS8.out] at S8 K8
                    have q6 : decide (snap < s8.floor) = false := by have := K8.out.1; simp; omega
                    have C9 := hide (S8.out.scanK (by omega) K8.out)
                    go_wp2_with fail
                    refine C9.out.mono ?_
                    rintro e w9 ⟨v9, rfl, ho9, hb9⟩
                    have S9 := hide (S8.out.kept hb9)
                    have R9 := hide (R8.out.kept hb9)
                    have O9 := hide ho9.rd
                    clear hb9 ho9 C9
                    go_wp2_with fail
                    refine S9.out.floor.mono ?_
                    rintro e w_ ⟨rfl, hw⟩
                    subst w_
                    have CS := hide (vsame_any O9.out R9.out)
                    simp only [decide_true] at CS
                    go_wp2_with fail
                    refine CS.out.mono ?_
                    rintro e w10 ⟨rfl, hb10⟩
                    have S10 := hide (S9.out.kept hb10)
                    have R10 := hide (R9.out.kept hb10)
                    clear hb10 CS q6
                    have HN : Hid (t < i + 1 → ∃ W, RdG PE w10 vw W ∧ KeepP s8 snap W) := (show _ → _ from fun _ => ⟨_, R10.out, K8.out⟩)
                    go_wp2_with fail
                    go_roundg (gk - 1)
                    case measure => omega
                    case rel => exact ⟨i + 1, s8, snap, vw, by omega, rfl, rfl, by go_num, (S10.out.mono (by omega)).less (fun _ h => .inl h), HN⟩
              · have q6 : decide (snap < s.floor) = false := by have := K4.out.1; simp; omega
                have C9 := hide (S4.out.scanK (by omega) K4.out)
                go_wp2_with fail
                refine C9.out.mono ?_
                rintro e w9 ⟨v9, rfl, ho9, hb9⟩
                have S9 := hide (S4.out.kept hb9)
                have R9 := hide (R4.out.kept hb9)
                have O9 := hide ho9.rd
                clear hb9 ho9 C9
                go_wp2_with fail
                refine S9.out.floor.mono ?_
                rintro e w_ ⟨rfl, hw⟩
                subst w_
                have CS := hide (vsame_any O9.out R9.out)
                simp only [decide_true] at CS
                go_wp2_with fail
                refine CS.out.mono ?_
                rintro e w10 ⟨rfl, hb10⟩
                have S10 := hide (S9.out.kept hb10)
                have R10 := hide (R9.out.kept hb10)
                clear hb10 CS q6
                have HN : Hid (t < i + 1 → ∃ W, RdG PE w10 vw W ∧ KeepP s snap W) := (show _ → _ from fun _ => ⟨_, R10.out, K4.out⟩)
                go_wp2_with fail
                go_roundg (gk - 1)
                case measure => omega
                case rel => exact ⟨i + 1, s, snap, vw, by omega, rfl, rfl, by go_num, (S10.out.mono (by omega)).less (fun _ h => .inl h), HN⟩
      · obtain rfl : i = m := by omega
        have q2 : ¬ (i : Int) < (i : Int) := by omega
        go_wp2_with fail
        refine (lives_any wr).mono ?_
        rintro e wz ⟨rfl, hbz⟩
        have LZ : Hid (Below w.heap.size w wz) := SR.out.lo.trans (hbz.mono (SR.out.lo).size)
        clear hbz
        go_wp2_with fail
        go_ret
        exact ⟨rfl, LZ.out⟩
#print axioms storeKeeps_any
end Go.Proofs.Ytgaoionnfkbhaaa
