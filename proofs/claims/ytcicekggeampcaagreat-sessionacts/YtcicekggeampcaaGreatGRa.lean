/-
  Texts that ride together: ChO RfG RfA RfB RfC.
-/
import Derived.Test.YtcicekggeampcaaGreatGCb
import Derived.Test.YtcicekggeampcaaGreatGSd
/-
  The reference's Put, where it puts: the row is new.
-/
namespace Go.Proofs.YtcicekggeampcaaGreat
open Go.RowKit
set_option maxHeartbeats 2000000 in
set_option maxRecDepth 100000 in
theorem kput_own {w : World} {u : Value} {L : List Ver} (h : RdV w u L) (hl : L.length ≤ 4398046511103) (v : Ver) (hp : putOk L v = true) :
    Calls Tryz.prog 95 #[u, .agg (VC v).toArray] w fun e w' => ∃ v', e = .returned (.tuple #[v', .bool true]) ∧ OwnV w' w.heap.size 140 v' (putP L v) ∧ Below w.heap.size w w' := by
  have HL := hide h
  have HPUT := hide hp
  clear hp
  obtain ⟨a, cp, rfl⟩ := h.slice
  clear h
  obtain ⟨n, HN⟩ : ∃ n, Hid (L.length = n) := ⟨_, rfl⟩
  rw [HN.out] at HL hl ⊢
  have L1 := hide ((Below.refl w.heap.size w).alloc (Nat.le_refl _) (.cells (VC v).toArray 140 (0, 0)))
  have B1 := hide (Blk.new w 140 (VC v))
  go_enter Tryz.func95, Tryz.ntmps95
  go_upto_region 1 with fail
  obtain ⟨E, HE⟩ : ∃ E, Hid (w.heap.size = E) := ⟨_, rfl⟩
  obtain ⟨w1, hw1⟩ : ∃ x, x = w.alloc (.cells (VC v).toArray 140 (0, 0)) := ⟨_, rfl⟩
  rw [← hw1] at L1 B1 ⊢
  rw [HE.out] at B1 ⊢
  clear hw1
  have cG := quiet_of (w := w1) (fun W hW => kgood_any ((HL.out.kept L1.out).kept hW))
  have cL := quiet_of (w := w1) (fun W hW => klast_any ((HL.out.kept L1.out).kept hW))
  have HP : Hid (putOk L v = (gd 0 L && fol v (lst L))) := rfl
  obtain ⟨x, s, d⟩ := v
  have c0 := cell_regrown (B1.out.cell (j := 0) rfl)
  have c1 := cell_regrown (B1.out.cell (j := 1) rfl)
  have c2 := cell_regrown (B1.out.cell (j := 2) rfl)
  simp only at c0 c1 c2
  obtain ⟨q, HQ⟩ : ∃ q, Hid (gd 0 L = q) := ⟨_, rfl⟩
  rw [HQ.out] at cG HP
  cases q with
  | false =>
    have HF : Hid (putOk L (x, s, d) = false) := HP.out
    exact absurd (HF.out.symm.trans HPUT.out) (by simp)
  | true =>
    generalize lst L = la at cL HP
    by_cases hle : x ≤ la
    · rw [fol_le (v := (x, s, d)) hle] at HP
      have HF : Hid (putOk L (x, s, d) = false) := HP.out
      exact absurd (HF.out.symm.trans HPUT.out) (by simp)
    · rw [fol_gt (v := (x, s, d)) (by show la < x; omega)] at HP
      have q1 : decide (x ≤ la) = false := by simp; omega
      simp only at HP
      cases d with
      | false =>
        have HF : Hid (putOk L (x, s, false) = true) := HP.out
        refine wp_region_quiet_below Tryz.mixed (by kernel_rfl) ?_
        repeat (go_big_quiet_step (first | exact cG _ _ | exact cL _ _))
        refine wpQuiet_nil ?_
        intro w3 hw3
        have L13 : Hid (Below w1.heap.size w1 w3) := (show Below _ _ _ by obtain ⟨⟨dq, osq⟩, rfl⟩ := hw3; exact below_regrown w1 dq osq)
        have B3 : Hid (Blk w3 E 140 (VC (x, s, false))) := B1.out.kept L13.out
        have L3 : Hid (Below w.heap.size w w3) := L1.out.trans (L13.out.mono L1.out.size)
        clear hw3 cG cL c0 c1 c2 L13 B1
        obtain ⟨i0, hi0, hz0, hz1, hz2⟩ := info_parts Tryz.info140
        go_wp2_with fail
        refine wp_region_tails Tryz.mixed (putS w.heap.size (.slice a n cp) L (x, s, false)) 32 rfl (by decide +kernel) 5 (by decide) (by decide +kernel) (putS_mono _ _ _ _) ?_ ?_
        · refine (AllFrom.cons ⟨rfl, ?_⟩ (AllFrom.cons ⟨rfl, ?_⟩ (AllFrom.cons ⟨rfl, ?_⟩ (AllFrom.cons ⟨rfl, ?_⟩ (AllFrom.cons ⟨rfl, ?_⟩ AllFrom.nil)))))
          · intro a' w' hg hk hd Q
            refine wp_grow (.slice (some ⟨w'.heap.size, 0, none⟩) 0 0) (w'.alloc (.cells #[] 140 (0, 0))) ?_ ((Below.refl _ _).alloc (Nat.le_refl _) _) ?_
            · have hr := build0 w'
              simp only [execOp, List.map_toArray, List.map_nil, hr, Sem.run_bind, Sem.run_pure, Result.andThen_ok]
            · exact ⟨_, rfl, ownV_none w' w.heap.size 140 (Nat.le_trans L3.out.size hg.size)⟩
          · intro a' w' hg hk hd Q
            have e0 : a'.eval (.tmp 0) = .slice a n cp := hk.at 0 (by decide +kernel)
            exact wp_value (.slice a n cp) (by simp only [execOp, e0]; rfl) rfl
          · intro a' w' hg hk hd Q
            obtain ⟨g, e26, o26⟩ := Deps.val hd 0 26 (by decide +kernel)
            have e27 : a'.eval (.tmp 27) = .slice a n cp := Deps.val hd 1 27 (by decide +kernel)
            rw [e26] at o26
            obtain ⟨v', w'', hr, h2, h3⟩ := run_append_fresh (P := Tryz.prog) w' w.heap.size 119 119 119 140 i0 Tryz.underlying119 hi0 hz0 hz1 hz2 g o26 (.slice a n cp) L ((((HL.out.kept L3.out).kept hg)).src 119 140 Tryz.underlying119) (by rw [HN.out]; omega) (Nat.le_trans L3.out.size hg.size)
            refine wp_grow v' w'' ?_ h3 h2
            simp only [execOp, resolve, invoke, builtin, Sem.run_bind, Sem.run_pure, Result.andThen_ok, List.map_toArray, List.map_cons, List.map_nil, e26, e27, hr]
          · intro a' w' hg hk hd Q
            have e3 : a'.eval (.tmp 3) = .pointer (some ⟨E, 0, none⟩) := hk.at 3 (by decide +kernel)
            exact wp_load_row 140 (.tmp 3) rfl E 0 e3 (VC (x, s, false)) _ (B3.out.kept hg).range0 Tryz.underlying140 rfl Tryz.size140 rfl
          · intro a' w' hg hk hd Q
            have e29 : a'.eval (.tmp 29) = .agg (VC (x, s, false)).toArray := Deps.val hd 3 29 (by decide +kernel)
            refine wp_grow (.slice (some ⟨w'.heap.size, 0, none⟩) 1 1) (w'.alloc (.cells (VC (x, s, false)).toArray 140 (0, 0))) ?_ ((Below.refl _ _).alloc (Nat.le_refl _) _) (rdV_one w' 140 _)
            have hr := build1 (x, s, false) w'
            simp only [execOp, List.map_toArray, List.map_cons, List.map_nil, e29, hr, Sem.run_bind, Sem.run_pure, Result.andThen_ok]
        · intro a' w' hsz hdf hk hall hg
          have o28 : OwnV w' w.heap.size 140 (a'.eval (.tmp 28)) L := hall 2 _ 28 (by decide) rfl rfl
          have r30 : RdV w' (a'.eval (.tmp 30)) [(x, s, false)] := hall 4 _ 30 (by decide) rfl rfl
          generalize e28 : a'.eval (.tmp 28) = x28 at o28
          generalize e30 : a'.eval (.tmp 30) = x30 at r30
          obtain ⟨v', w'', hr, h2, h3⟩ := run_append_mine (P := Tryz.prog) w' w.heap.size 119 119 119 140 i0 _ 3 32 Tryz.underlying119 hi0 hz0 hz1 hz2 rfl x28 L.length (VCs L) o28 x30 1 (VCs [(x, s, false)]) (r30.src 119 140 Tryz.underlying119) (by simp only [maxLen, HN.out]; omega) (by rw [HN.out]; omega) (Nat.le_trans L3.out.size hg.size)
          have b3 : Below w.heap.size w' w'' := below_of_grown w' o28 h3 (Nat.le_trans L3.out.size hg.size)
          have o31 : OwnV w'' w.heap.size 140 v' (putP L (x, s, false)) := by
            rw [putP_ok HF.out]
            unfold OwnV
            rw [List.length_append, VCs_append]
            exact h2
          have hb : Below w.heap.size w w'' := (L3.out.trans (hg.mono L3.out.size)).trans b3
          have s0 : a'.tmps.size = 32 := hsz
          have e31 : (a'.put (some 31) v').eval (.tmp 31) = v' := eval_put_same (by omega)
          have e4 : (((a'.put (some 31) v').put (some 4) v').put (some 5) (.bool true)).eval (.tmp 4) = v' := by
            rw [eval_put_other (by simp), eval_put_same (by rw [put_size]; omega)]
          have e5 : (((a'.put (some 31) v').put (some 4) v').put (some 5) (.bool true)).eval (.tmp 5) = .bool true := eval_put_same (by rw [put_size, put_size]; omega)
          have d0 : (((a'.put (some 31) v').put (some 4) v').put (some 5) (.bool true)).defers = [] := by rw [put_defers', put_defers', put_defers']; exact hdf
          refine ⟨rfl, ?_⟩
          unfold Oper.wp execOp
          simp only [resolve, invoke, builtin, Sem.run_bind, Sem.run_pure, Result.andThen_ok, List.map_toArray, List.map_cons, List.map_nil, e28, e30, hr]
          refine ⟨v', rfl, rfl, ?_⟩
          unfold Oper.wp execOp
          simp only [Sem.run_pure, e31]
          refine ⟨v', rfl, rfl, ?_⟩
          refine ⟨.bool true, rfl, ?_⟩
          clear hk hall hsz hdf hr e31 e28 e30
          show Exit.then _ _ Exit.normal (((a'.put (some 31) v').put (some 4) v').put (some 5) (.bool true)) w''
          generalize ((a'.put (some 31) v').put (some 4) v').put (some 5) (.bool true) = af at e4 e5 d0 ⊢
          go_wp2_with fail
          refine bodyPost_ret (v := .tuple #[v', .bool true]) ?_ d0 ⟨v', rfl, o31, hb⟩
          rw [results_tmp2 (show Tryz.f95.results = #[.tmp 4, .tmp 5] from rfl)]
          have e4' : af.tmps.getD 4 undef = v' := e4
          have e5' : af.tmps.getD 5 undef = .bool true := e5
          rw [e4', e5']
      | true =>
        obtain ⟨r, hr⟩ : ∃ r, s.toList.isEmpty = r := ⟨_, rfl⟩
        rw [hr] at HP
        cases r with
        | false =>
          have HF : Hid (putOk L (x, s, true) = false) := HP.out
          exact absurd (HF.out.symm.trans HPUT.out) (by simp)
        | true =>
          have HF : Hid (putOk L (x, s, true) = true) := HP.out
          refine wp_region_quiet_below Tryz.mixed (by kernel_rfl) ?_
          repeat (go_big_quiet_step (first | exact cG _ _ | exact cL _ _))
          refine wpQuiet_nil ?_
          intro w3 hw3
          have L13 : Hid (Below w1.heap.size w1 w3) := (show Below _ _ _ by obtain ⟨⟨dq, osq⟩, rfl⟩ := hw3; exact below_regrown w1 dq osq)
          have B3 : Hid (Blk w3 E 140 (VC (x, s, true))) := B1.out.kept L13.out
          have L3 : Hid (Below w.heap.size w w3) := L1.out.trans (L13.out.mono L1.out.size)
          clear hw3 cG cL c0 c1 c2 L13 B1
          obtain ⟨i0, hi0, hz0, hz1, hz2⟩ := info_parts Tryz.info140
          go_wp2_with fail
          refine wp_region_tails Tryz.mixed (putS w.heap.size (.slice a n cp) L (x, s, true)) 32 rfl (by decide +kernel) 5 (by decide) (by decide +kernel) (putS_mono _ _ _ _) ?_ ?_
          · refine (AllFrom.cons ⟨rfl, ?_⟩ (AllFrom.cons ⟨rfl, ?_⟩ (AllFrom.cons ⟨rfl, ?_⟩ (AllFrom.cons ⟨rfl, ?_⟩ (AllFrom.cons ⟨rfl, ?_⟩ AllFrom.nil)))))
            · intro a' w' hg hk hd Q
              refine wp_grow (.slice (some ⟨w'.heap.size, 0, none⟩) 0 0) (w'.alloc (.cells #[] 140 (0, 0))) ?_ ((Below.refl _ _).alloc (Nat.le_refl _) _) ?_
              · have hr := build0 w'
                simp only [execOp, List.map_toArray, List.map_nil, hr, Sem.run_bind, Sem.run_pure, Result.andThen_ok]
              · exact ⟨_, rfl, ownV_none w' w.heap.size 140 (Nat.le_trans L3.out.size hg.size)⟩
            · intro a' w' hg hk hd Q
              have e0 : a'.eval (.tmp 0) = .slice a n cp := hk.at 0 (by decide +kernel)
              exact wp_value (.slice a n cp) (by simp only [execOp, e0]; rfl) rfl
            · intro a' w' hg hk hd Q
              obtain ⟨g, e26, o26⟩ := Deps.val hd 0 26 (by decide +kernel)
              have e27 : a'.eval (.tmp 27) = .slice a n cp := Deps.val hd 1 27 (by decide +kernel)
              rw [e26] at o26
              obtain ⟨v', w'', hr, h2, h3⟩ := run_append_fresh (P := Tryz.prog) w' w.heap.size 119 119 119 140 i0 Tryz.underlying119 hi0 hz0 hz1 hz2 g o26 (.slice a n cp) L ((((HL.out.kept L3.out).kept hg)).src 119 140 Tryz.underlying119) (by rw [HN.out]; omega) (Nat.le_trans L3.out.size hg.size)
              refine wp_grow v' w'' ?_ h3 h2
              simp only [execOp, resolve, invoke, builtin, Sem.run_bind, Sem.run_pure, Result.andThen_ok, List.map_toArray, List.map_cons, List.map_nil, e26, e27, hr]
            · intro a' w' hg hk hd Q
              have e3 : a'.eval (.tmp 3) = .pointer (some ⟨E, 0, none⟩) := hk.at 3 (by decide +kernel)
              exact wp_load_row 140 (.tmp 3) rfl E 0 e3 (VC (x, s, true)) _ (B3.out.kept hg).range0 Tryz.underlying140 rfl Tryz.size140 rfl
            · intro a' w' hg hk hd Q
              have e29 : a'.eval (.tmp 29) = .agg (VC (x, s, true)).toArray := Deps.val hd 3 29 (by decide +kernel)
              refine wp_grow (.slice (some ⟨w'.heap.size, 0, none⟩) 1 1) (w'.alloc (.cells (VC (x, s, true)).toArray 140 (0, 0))) ?_ ((Below.refl _ _).alloc (Nat.le_refl _) _) (rdV_one w' 140 _)
              have hr := build1 (x, s, true) w'
              simp only [execOp, List.map_toArray, List.map_cons, List.map_nil, e29, hr, Sem.run_bind, Sem.run_pure, Result.andThen_ok]
          · intro a' w' hsz hdf hk hall hg
            have o28 : OwnV w' w.heap.size 140 (a'.eval (.tmp 28)) L := hall 2 _ 28 (by decide) rfl rfl
            have r30 : RdV w' (a'.eval (.tmp 30)) [(x, s, true)] := hall 4 _ 30 (by decide) rfl rfl
            generalize e28 : a'.eval (.tmp 28) = x28 at o28
            generalize e30 : a'.eval (.tmp 30) = x30 at r30
            obtain ⟨v', w'', hr, h2, h3⟩ := run_append_mine (P := Tryz.prog) w' w.heap.size 119 119 119 140 i0 _ 3 32 Tryz.underlying119 hi0 hz0 hz1 hz2 rfl x28 L.length (VCs L) o28 x30 1 (VCs [(x, s, true)]) (r30.src 119 140 Tryz.underlying119) (by simp only [maxLen, HN.out]; omega) (by rw [HN.out]; omega) (Nat.le_trans L3.out.size hg.size)
            have b3 : Below w.heap.size w' w'' := below_of_grown w' o28 h3 (Nat.le_trans L3.out.size hg.size)
            have o31 : OwnV w'' w.heap.size 140 v' (putP L (x, s, true)) := by
              rw [putP_ok HF.out]
              unfold OwnV
              rw [List.length_append, VCs_append]
              exact h2
            have hb : Below w.heap.size w w'' := (L3.out.trans (hg.mono L3.out.size)).trans b3
            have s0 : a'.tmps.size = 32 := hsz
            have e31 : (a'.put (some 31) v').eval (.tmp 31) = v' := eval_put_same (by omega)
            have e4 : (((a'.put (some 31) v').put (some 4) v').put (some 5) (.bool true)).eval (.tmp 4) = v' := by
              rw [eval_put_other (by simp), eval_put_same (by rw [put_size]; omega)]
            have e5 : (((a'.put (some 31) v').put (some 4) v').put (some 5) (.bool true)).eval (.tmp 5) = .bool true := eval_put_same (by rw [put_size, put_size]; omega)
            have d0 : (((a'.put (some 31) v').put (some 4) v').put (some 5) (.bool true)).defers = [] := by rw [put_defers', put_defers', put_defers']; exact hdf
            refine ⟨rfl, ?_⟩
            unfold Oper.wp execOp
            simp only [resolve, invoke, builtin, Sem.run_bind, Sem.run_pure, Result.andThen_ok, List.map_toArray, List.map_cons, List.map_nil, e28, e30, hr]
            refine ⟨v', rfl, rfl, ?_⟩
            unfold Oper.wp execOp
            simp only [Sem.run_pure, e31]
            refine ⟨v', rfl, rfl, ?_⟩
            refine ⟨.bool true, rfl, ?_⟩
            clear hk hall hsz hdf hr e31 e28 e30
            show Exit.then _ _ Exit.normal (((a'.put (some 31) v').put (some 4) v').put (some 5) (.bool true)) w''
            generalize ((a'.put (some 31) v').put (some 4) v').put (some 5) (.bool true) = af at e4 e5 d0 ⊢
            go_wp2_with fail
            refine bodyPost_ret (v := .tuple #[v', .bool true]) ?_ d0 ⟨v', rfl, o31, hb⟩
            rw [results_tmp2 (show Tryz.f95.results = #[.tmp 4, .tmp 5] from rfl)]
            have e4' : af.tmps.getD 4 undef = v' := e4
            have e5' : af.tmps.getD 5 undef = .bool true := e5
            rw [e4', e5']
end Go.Proofs.YtcicekggeampcaaGreat

/-
  The reference's Good: what the call does.
-/
namespace Go.Proofs.YtcicekggeampcaaGreat
open Go.RowKit
theorem size_list (a : ByteArray) : a.toList.length = a.size := by
  rw [ByteArray.toList_eq]
  simp
theorem sz0 {a : ByteArray} (h : a.size = 0) : a = em := by
  rw [← ba_inj, em_list]
  exact List.eq_nil_of_length_eq_zero (by rw [size_list]; exact h)
set_option maxHeartbeats 2000000 in
set_option maxRecDepth 100000 in
theorem vGood_any {w : World} {v : Value} {L : List Pr} (h : RdG PE w v L) : Calls Tryz.prog 63 #[v] w fun e w' => e = .returned (.bool (goodP em L)) ∧ Below w.heap.size w w' := by
  have HL := hide h
  obtain ⟨a, cp, rfl⟩ := h.slice
  have hn : L.length ≤ 9223372036854775807 := Nat.le_trans h.cap h.max
  clear h
  have hz := Zpair
  obtain ⟨n, HN⟩ : ∃ n, Hid (L.length = n) := ⟨_, rfl⟩
  rw [HN.out] at HL hn ⊢
  go_enter Tryz.func63, Tryz.ntmps63
  go_wp2_with fail
  go_loopg [7] n (fun g x wr => ∃ (i : Nat) (last : ByteArray), g + i = n ∧ x = .int .i64 (i : Int) ∧ Hid (goodP last (L.drop i) = goodP em L) ∧ Hid (0 < i → ∃ h : i - 1 < L.length, (L[i - 1]).1 = last) ∧ Hid (i = 0 → last = em) ∧ Hid (Below w.heap.size w wr))
  case atStart => exact ⟨0, em, by omega, rfl, rfl, (show _ → _ from fun h => absurd h (by omega)), (show _ → _ from fun _ => rfl), Below.refl _ _⟩
  case round =>
    obtain ⟨i, last, hgi, rfl, HG, HP1, HP0, LR⟩ := hrel
    by_cases hlt : i < n
    · have q2 : (i : Int) < (n : Int) := by omega
      have hrd := hide (HL.out.kept LR.out)
      obtain ⟨b, off, rfl, hlb4, hx⟩ := (hrd.out).nth (by omega)
      have hlt' : i < L.length := by rw [HN.out]; exact hlt
      have hr : wr.rangeAt b (off + i * 3) (PC L[i]) := hx i hlt'
      obtain ⟨p, HPp⟩ : ∃ p, Hid (L[i] = p) := ⟨L[i], (show L[i] = L[i] from rfl)⟩
      rw [HPp.out] at hr
      clear hx hlb4
      go_upto_region 4 with (first
        | (refine wpList_load_mid rfl 51 _ rfl b (off + i * 3) rfl (PC p) _ hr Tryz.underlying51 rfl Tryz.size51 ?_)
        | (refine wpList_store_new rfl 51 _ _ rfl wr _ (PC p).toArray _ rfl rfl rfl Tryz.size51 rfl (all_one (PC_one p)) ?_)
        | fail)
      obtain ⟨E, HE⟩ : ∃ E, Hid (wr.heap.size = E) := ⟨_, rfl⟩
      rw [HE.out]
      obtain ⟨w4, hw4⟩ : ∃ x, x = wr.alloc (.cells (PC p).toArray 51 (0, 0)) := ⟨_, rfl⟩
      rw [← hw4]
      have G4 : Hid (Below wr.heap.size wr w4) := (show Below _ _ _ by rw [hw4]; exact (Below.refl _ _).alloc (Nat.le_refl _) _)
      have B4 : Hid (Blk w4 E 51 (PC p)) := (show Blk _ _ _ _ by rw [hw4, ← HE.out]; exact Blk.new wr 51 (PC p))
      clear hw4 hr
      have L4 : Hid (Below w.heap.size w w4) := LR.out.trans (G4.out.mono LR.out.size)
      have HG2 : Hid ((pOk p last && goodP p.1 (L.drop (i + 1))) = goodP em L) := (show _ = _ by rw [← HG.out, List.drop_eq_getElem_cons hlt', HPp.out, goodP])
      obtain ⟨ky, va, dd⟩ := p
      have HK1 : Hid ((L[i]'hlt').1 = ky) := (show (L[i]'hlt').1 = ky by rw [HPp.out])
      simp only at HG2
      have k0 := cell_regrown (B4.out.cell (j := 0) rfl)
      have k1 := cell_regrown (B4.out.cell (j := 1) rfl)
      have k2 := cell_regrown (B4.out.cell (j := 2) rfl)
      simp only at k0 k1 k2
      simp only [Act.put]
      have hpk : pOk (ky, va, dd) last = (lt last ky && decide (ky.size ≤ 64) && decide (va.size ≤ 256) && (!dd || va.toList.isEmpty)) := rfl
      by_cases h1 : ky.size < 1
      · have hbad : pOk (ky, va, dd) last = false := by rw [hpk, sz0 (a := ky) (by omega), not_lt_em]; rfl
        have f1 : decide ((ky.size : Int) < 1) = true := by simp; omega
        refine wp_region_quiet_below Tryz.mixed (by kernel_rfl) ?_
        repeat (go_big_quiet_step (fail))
        refine wpQuiet_nil ?_
        intro w5 hw5
        have D5 : Hid (Below w4.heap.size w4 w5) := (show Below _ _ _ by obtain ⟨⟨dq, osq⟩, rfl⟩ := hw5; exact below_regrown w4 dq osq)
        have L5 : Hid (Below w.heap.size w w5) := L4.out.trans (D5.out.mono L4.out.size)
        clear hw5 k0 k1 k2
        go_wp2_with fail
        go_ret
        exact ⟨by rw [← HG2.out, hbad]; rfl, L5.out⟩
      · have f1 : decide ((ky.size : Int) < 1) = false := by simp; omega
        by_cases h2 : 64 < ky.size
        · have hbad : pOk (ky, va, dd) last = false := by rw [hpk, show decide (ky.size ≤ 64) = false by simp; omega]; simp
          have f2 : decide ((64 : Int) < (ky.size : Int)) = true := by simp; omega
          refine wp_region_quiet_below Tryz.mixed (by kernel_rfl) ?_
          repeat (go_big_quiet_step (fail))
          refine wpQuiet_nil ?_
          intro w5 hw5
          have D5 : Hid (Below w4.heap.size w4 w5) := (show Below _ _ _ by obtain ⟨⟨dq, osq⟩, rfl⟩ := hw5; exact below_regrown w4 dq osq)
          have L5 : Hid (Below w.heap.size w w5) := L4.out.trans (D5.out.mono L4.out.size)
          clear hw5 k0 k1 k2
          go_wp2_with fail
          go_ret
          exact ⟨by rw [← HG2.out, hbad]; rfl, L5.out⟩
        · have f2 : decide ((64 : Int) < (ky.size : Int)) = false := by simp; omega
          by_cases h3 : 256 < va.size
          · have hbad : pOk (ky, va, dd) last = false := by rw [hpk, show decide (va.size ≤ 256) = false by simp; omega]; simp
            have f3 : decide ((256 : Int) < (va.size : Int)) = true := by simp; omega
            refine wp_region_quiet_below Tryz.mixed (by kernel_rfl) ?_
            repeat (go_big_quiet_step (fail))
            refine wpQuiet_nil ?_
            intro w5 hw5
            have D5 : Hid (Below w4.heap.size w4 w5) := (show Below _ _ _ by obtain ⟨⟨dq, osq⟩, rfl⟩ := hw5; exact below_regrown w4 dq osq)
            have L5 : Hid (Below w.heap.size w w5) := L4.out.trans (D5.out.mono L4.out.size)
            clear hw5 k0 k1 k2
            go_wp2_with fail
            go_ret
            exact ⟨by rw [← HG2.out, hbad]; rfl, L5.out⟩
          · have f3 : decide ((256 : Int) < (va.size : Int)) = false := by simp; omega
            have g2 : decide (ky.size ≤ 64) = true := by simp; omega
            have g3 : decide (va.size ≤ 256) = true := by simp; omega
            rw [g2, g3] at hpk
            simp only [Bool.and_true] at hpk
            cases dd with
            | true =>
              cases h4 : va.toList == ([] : List UInt8) with
              | false =>
                have hbad : pOk (ky, va, true) last = false := by
                  rw [hpk]
                  have : va.toList.isEmpty = false := by
                    cases hq : va.toList with
                    | nil => rw [hq] at h4; cases h4
                    | cons x y => rfl
                  rw [this]
                  simp
                refine wp_region_quiet_below Tryz.mixed (by kernel_rfl) ?_
                repeat (go_big_quiet_step (fail))
                refine wpQuiet_nil ?_
                intro w5 hw5
                have D5 : Hid (Below w4.heap.size w4 w5) := (show Below _ _ _ by obtain ⟨⟨dq, osq⟩, rfl⟩ := hw5; exact below_regrown w4 dq osq)
                have L5 : Hid (Below w.heap.size w w5) := L4.out.trans (D5.out.mono L4.out.size)
                clear hw5 k0 k1 k2
                go_wp2_with fail
                go_ret
                exact ⟨by rw [← HG2.out, hbad]; rfl, L5.out⟩
              | true =>
                have g4 : va.toList.isEmpty = true := by rw [beq_iff_eq] at h4; rw [h4]; rfl
                rw [g4] at hpk
                simp only [Bool.or_true, Bool.and_true] at hpk
                by_cases hi0 : i = 0
                · subst hi0
                  have e0 := HP0.out rfl
                  subst e0
                  have hgood : pOk (ky, va, true) em = true := by
                    rw [hpk, lt_em]
                    cases hq : ky.toList with
                    | nil =>
                      have : ky.size = 0 := by rw [← size_list, hq]; rfl
                      omega
                    | cons x y => rfl
                  have f5 : decide ((0 : Int) < ((0 : Nat) : Int)) = false := by simp
                  refine wp_region_quiet_below Tryz.mixed (by kernel_rfl) ?_
                  repeat (go_big_quiet_step (fail))
                  refine wpQuiet_nil ?_
                  intro w5 hw5
                  have D5 : Hid (Below w4.heap.size w4 w5) := (show Below _ _ _ by obtain ⟨⟨dq, osq⟩, rfl⟩ := hw5; exact below_regrown w4 dq osq)
                  have L5 : Hid (Below w.heap.size w w5) := L4.out.trans (D5.out.mono L4.out.size)
                  clear hw5 k0 k1 k2
                  go_wp2_with fail
                  go_roundg (gk - 1)
                  case measure => omega
                  case rel => exact ⟨0 + 1, ky, by omega, by go_num, (show _ = _ by rw [← HG2.out, hgood]; rfl), (show _ → _ from fun _ => ⟨by omega, by simp only [Nat.add_sub_cancel]; exact HK1.out⟩), (show _ → _ from fun h => absurd h (by omega)), L5⟩
                · obtain ⟨hi1, hlast⟩ := HP1.out (by omega)
                  obtain ⟨b3, off3, e3, hlb3, hx⟩ := (HL.out.kept L4.out).nth (by omega)
                  have hc : w4.cell? ⟨b3, off3 + (i - 1) * 3, none⟩ = some (.string (L[i - 1]).1) := hx (i - 1) hi1 0 (.string (L[i - 1]).1) rfl
                  cases e3
                  rw [hlast] at hc
                  have hcr := cell_regrown hc
                  have f5 : decide (0 < i) = true := by simp; omega
                  have f9 : IntKind.i64.wrap ((i : Int) - 1) = ((i - 1 : Nat) : Int) := by rw [wr64 (by omega) (by omega)]; omega
                  have f10 : ((i - 1 : Nat) : Int) < (n : Int) := by omega
                  clear hx hc hlb3
                  cases hup : lt last ky with
                  | true =>
                    have f8 : ∀ W, (binOp .leq 9 (.string ky) (.string last)).run Tryz.prog W = .ok (.bool false) W := fun W => by rw [sle, hup]; rfl
                    have hgood : pOk (ky, va, true) last = true := by rw [hpk, hup]
                    refine wp_region_quiet_below Tryz.mixed (by kernel_rfl) ?_
                    repeat (go_big_quiet_step (fail))
                    refine wpQuiet_nil ?_
                    intro w5 hw5
                    have D5 : Hid (Below w4.heap.size w4 w5) := (show Below _ _ _ by obtain ⟨⟨dq, osq⟩, rfl⟩ := hw5; exact below_regrown w4 dq osq)
                    have L5 : Hid (Below w.heap.size w w5) := L4.out.trans (D5.out.mono L4.out.size)
                    clear hw5 k0 k1 k2
                    go_wp2_with fail
                    go_roundg (gk - 1)
                    case measure => omega
                    case rel => exact ⟨i + 1, ky, by omega, by go_num, (show _ = _ by rw [← HG2.out, hgood]; rfl), (show _ → _ from fun _ => ⟨by omega, by simp only [Nat.add_sub_cancel]; exact HK1.out⟩), (show _ → _ from fun h => absurd h (by omega)), L5⟩
                  | false =>
                    have f8 : ∀ W, (binOp .leq 9 (.string ky) (.string last)).run Tryz.prog W = .ok (.bool true) W := fun W => by rw [sle, hup]; rfl
                    have hbad : pOk (ky, va, true) last = false := by rw [hpk, hup]
                    refine wp_region_quiet_below Tryz.mixed (by kernel_rfl) ?_
                    repeat (go_big_quiet_step (fail))
                    refine wpQuiet_nil ?_
                    intro w5 hw5
                    have D5 : Hid (Below w4.heap.size w4 w5) := (show Below _ _ _ by obtain ⟨⟨dq, osq⟩, rfl⟩ := hw5; exact below_regrown w4 dq osq)
                    have L5 : Hid (Below w.heap.size w w5) := L4.out.trans (D5.out.mono L4.out.size)
                    clear hw5 k0 k1 k2
                    go_wp2_with fail
                    go_ret
                    exact ⟨by rw [← HG2.out, hbad]; rfl, L5.out⟩
            | false =>
              simp only [Bool.not_false, Bool.true_or, Bool.and_true] at hpk
              by_cases hi0 : i = 0
              · subst hi0
                have e0 := HP0.out rfl
                subst e0
                have hgood : pOk (ky, va, false) em = true := by
                  rw [hpk, lt_em]
                  cases hq : ky.toList with
                  | nil =>
                    have : ky.size = 0 := by rw [← size_list, hq]; rfl
                    omega
                  | cons x y => rfl
                have f5 : decide ((0 : Int) < ((0 : Nat) : Int)) = false := by simp
                refine wp_region_quiet_below Tryz.mixed (by kernel_rfl) ?_
                repeat (go_big_quiet_step (fail))
                refine wpQuiet_nil ?_
                intro w5 hw5
                have D5 : Hid (Below w4.heap.size w4 w5) := (show Below _ _ _ by obtain ⟨⟨dq, osq⟩, rfl⟩ := hw5; exact below_regrown w4 dq osq)
                have L5 : Hid (Below w.heap.size w w5) := L4.out.trans (D5.out.mono L4.out.size)
                clear hw5 k0 k1 k2
                go_wp2_with fail
                go_roundg (gk - 1)
                case measure => omega
                case rel => exact ⟨0 + 1, ky, by omega, by go_num, (show _ = _ by rw [← HG2.out, hgood]; rfl), (show _ → _ from fun _ => ⟨by omega, by simp only [Nat.add_sub_cancel]; exact HK1.out⟩), (show _ → _ from fun h => absurd h (by omega)), L5⟩
              · obtain ⟨hi1, hlast⟩ := HP1.out (by omega)
                obtain ⟨b3, off3, e3, hlb3, hx⟩ := (HL.out.kept L4.out).nth (by omega)
                have hc : w4.cell? ⟨b3, off3 + (i - 1) * 3, none⟩ = some (.string (L[i - 1]).1) := hx (i - 1) hi1 0 (.string (L[i - 1]).1) rfl
                cases e3
                rw [hlast] at hc
                have hcr := cell_regrown hc
                have f5 : decide (0 < i) = true := by simp; omega
                have f9 : IntKind.i64.wrap ((i : Int) - 1) = ((i - 1 : Nat) : Int) := by rw [wr64 (by omega) (by omega)]; omega
                have f10 : ((i - 1 : Nat) : Int) < (n : Int) := by omega
                clear hx hc hlb3
                cases hup : lt last ky with
                | true =>
                  have f8 : ∀ W, (binOp .leq 9 (.string ky) (.string last)).run Tryz.prog W = .ok (.bool false) W := fun W => by rw [sle, hup]; rfl
                  have hgood : pOk (ky, va, false) last = true := by rw [hpk, hup]
                  refine wp_region_quiet_below Tryz.mixed (by kernel_rfl) ?_
                  repeat (go_big_quiet_step (fail))
                  refine wpQuiet_nil ?_
                  intro w5 hw5
                  have D5 : Hid (Below w4.heap.size w4 w5) := (show Below _ _ _ by obtain ⟨⟨dq, osq⟩, rfl⟩ := hw5; exact below_regrown w4 dq osq)
                  have L5 : Hid (Below w.heap.size w w5) := L4.out.trans (D5.out.mono L4.out.size)
                  clear hw5 k0 k1 k2
                  go_wp2_with fail
                  go_roundg (gk - 1)
                  case measure => omega
                  case rel => exact ⟨i + 1, ky, by omega, by go_num, (show _ = _ by rw [← HG2.out, hgood]; rfl), (show _ → _ from fun _ => ⟨by omega, by simp only [Nat.add_sub_cancel]; exact HK1.out⟩), (show _ → _ from fun h => absurd h (by omega)), L5⟩
                | false =>
                  have f8 : ∀ W, (binOp .leq 9 (.string ky) (.string last)).run Tryz.prog W = .ok (.bool true) W := fun W => by rw [sle, hup]; rfl
                  have hbad : pOk (ky, va, false) last = false := by rw [hpk, hup]
                  refine wp_region_quiet_below Tryz.mixed (by kernel_rfl) ?_
                  repeat (go_big_quiet_step (fail))
                  refine wpQuiet_nil ?_
                  intro w5 hw5
                  have D5 : Hid (Below w4.heap.size w4 w5) := (show Below _ _ _ by obtain ⟨⟨dq, osq⟩, rfl⟩ := hw5; exact below_regrown w4 dq osq)
                  have L5 : Hid (Below w.heap.size w w5) := L4.out.trans (D5.out.mono L4.out.size)
                  clear hw5 k0 k1 k2
                  go_wp2_with fail
                  go_ret
                  exact ⟨by rw [← HG2.out, hbad]; rfl, L5.out⟩
    · obtain rfl : i = n := by omega
      have q2 : ¬ (i : Int) < (i : Int) := by omega
      have HF : Hid (goodP em L = true) := (show _ = _ by rw [← HG.out, List.drop_of_length_le (by rw [HN.out]; exact Nat.le_refl _)]; rfl)
      go_wp2_with fail
      go_ret
      exact ⟨by rw [HF.out]; rfl, LR.out⟩
end Go.Proofs.YtcicekggeampcaaGreat

/-
  The reference's store in memory; its may, Within, Wrote, Get: what the calls do.
-/
namespace Go.Proofs.YtcicekggeampcaaGreat
open Go.RowKit
/-- A key of the reference's: its name, and its chain's slice. -/
abbrev RK := ByteArray × (Option Addr × Nat × Nat)
def rkv (x : RK) : Value := .slice x.2.1 x.2.2.1 x.2.2.2
def RKC (x : RK) : List Value := [.string x.1, .slice x.2.1 x.2.2.1 x.2.2.2]
theorem RKC_one (x : RK) : ∀ u ∈ RKC x, u.oneCell' = true := by
  intro u hu
  simp only [RKC, List.mem_cons, List.not_mem_nil, or_false] at hu
  rcases hu with rfl | rfl <;> rfl
def RKE : Enc RK := ⟨RKC, 2, fun _ => rfl, RKC_one⟩
theorem Tryz.info121 : (Tryz.prog.info? 121).map (fun i => (i.zero, i.size, i.bytes)) = some (some (.agg #[.string ⟨#[]⟩, .slice none 0 0]), 2, 40) := by kernel_rfl
theorem Tryz.size121 : (Tryz.prog.info? 121).map (·.size) = some 2 := by kernel_rfl
theorem Zrkey : ∀ W : World, (zeroValue 121).run Tryz.prog W = .ok (.agg #[.string ⟨#[]⟩, .slice none 0 0]) W := fun W => by kernel_rfl
def SRC (vr : Value) (last floor : Int) : List Value := [vr, .int .i64 last, .int .i64 floor]
/-- The reference's store at R: the keys of s in order, each with its chain. -/
structure RS (w : World) (R : Nat) (vr : Value) (rs : List RK) (s : SP) : Prop where
  d : Blk w R 34 (SRC vr s.last s.floor)
  own : OwnG RKE w 0 121 vr rs
  inv : Inv s (rs.map (·.1))
  ch : ∀ x ∈ rs, RdV w (rkv x) (s.ch x.1)
  ap : ∀ x ∈ rs, ∀ b, InB (rkv x) b → b ≠ R ∧ vr.ownBlock ≠ some b
theorem RS.kept {w w' : World} {R : Nat} {vr : Value} {rs : List RK} {s : SP} (h : RS w R vr rs s) (hb : Below w.heap.size w w') : RS w' R vr rs s :=
  ⟨h.d.kept hb, h.own.kept hb, h.inv, fun x hx => (h.ch x hx).kept hb, h.ap⟩
/-- The blocks that it is made of. -/
def SRB (R : Nat) (vr : Value) (rs : List RK) (b : Nat) : Prop := b = R ∨ vr.ownBlock = some b ∨ ∃ x ∈ rs, InB (rkv x) b
theorem vmay_any {w : World} {R : Nat} {vr : Value} {rs : List RK} {s : SP} (h : RS w R vr rs s) (n : Int) : Calls Tryz.prog 79 #[.pointer (some ⟨R, 0, none⟩), .int .i64 n] w fun e w' => e = .returned (.int .i64 (smayP s n)) ∧ w' = w := by
  have c1 := h.d.cell (j := 1) rfl
  have c2 := h.d.cell (j := 2) rfl
  obtain ⟨r, HR⟩ : ∃ r, Hid (smayP s n = r) := ⟨_, rfl⟩
  rw [HR.out]
  clear h
  go_enter Tryz.func79, Tryz.ntmps79
  by_cases h1 : n < s.floor
  · have q1 : decide (n < s.floor) = true := by simp [h1]
    obtain rfl : r = 11 := by rw [← HR.out]; unfold smayP; rw [if_pos h1]
    go_wp2
    go_ret
    exact ⟨rfl, rfl⟩
  · have q1 : decide (n < s.floor) = false := by simp; omega
    by_cases h2 : s.last < n
    · have q2 : decide (s.last < n) = true := by simp [h2]
      obtain rfl : r = 2 := by rw [← HR.out]; unfold smayP; rw [if_neg h1, if_pos h2]
      go_wp2
      go_ret
      exact ⟨rfl, rfl⟩
    · have q2 : decide (s.last < n) = false := by simp; omega
      obtain rfl : r = 0 := by rw [← HR.out]; unfold smayP; rw [if_neg h1, if_neg h2]
      go_wp2
      go_ret
      exact ⟨rfl, rfl⟩
end Go.Proofs.YtcicekggeampcaaGreat

/-
  The reference's Versions and Get: what the calls do.
-/
namespace Go.Proofs.YtcicekggeampcaaGreat
open Go.RowKit
set_option maxRecDepth 100000 in
set_option maxHeartbeats 1000000 in
theorem vGet_any {w : World} {R : Nat} {vr : Value} {rs : List RK} {s : SP} (h : RS w R vr rs s) (k : ByteArray) (n : Int) : Calls Tryz.prog 51 #[.pointer (some ⟨R, 0, none⟩), .string k, .int .i64 n] w fun e w' => e = .returned (.tuple #[.string (getS s k n).1, .int .i64 (getS s k n).2]) ∧ Below w.heap.size w w' := by
  have CM := hide (vmay_any h n)
  obtain ⟨r, HR⟩ : ∃ r, Hid (smayP s n = r) := ⟨_, rfl⟩
  rw [HR.out] at CM
  have HS := hide h
  obtain ⟨a, cp, rfl⟩ := h.own.rd.slice
  have hn : rs.length ≤ 9223372036854775807 := Nat.le_trans h.own.rd.cap h.own.rd.max
  clear h
  have hz := Zrkey
  obtain ⟨n_, HN⟩ : ∃ n, Hid (rs.length = n) := ⟨_, rfl⟩
  rw [HN.out] at HS hn
  have c0 := HS.out.d.cell (j := 0) rfl
  go_enter Tryz.func51, Tryz.ntmps51
  go_wp2_with fail
  refine CM.out.mono ?_
  rintro e w_ ⟨rfl, hw⟩
  subst w_
  by_cases hr : r = 0
  · subst hr
    have hz' := Zrver
    go_wp2_with fail
    go_loopg [24] n_ (fun g x wr => ∃ (i : Nat), g + i = n_ ∧ x = .int .i64 (i : Int) ∧ Hid (∀ y ∈ rs.take i, y.1 = k → (getP (s.ch k) n).2 = false) ∧ Hid (Below w.heap.size w wr))
    case atStart => exact ⟨0, by omega, rfl, (show ∀ y ∈ rs.take 0, _ from fun y hy => by cases hy), Below.refl _ _⟩
    case round =>
      obtain ⟨i, hgi, rfl, HW, LR⟩ := hrel
      by_cases hlt : i < n_
      · have q2 : (i : Int) < (n_ : Int) := by omega
        have hrd := hide (HS.out.own.rd.kept LR.out)
        obtain ⟨b, off, rfl, hlb4, hx⟩ := (hrd.out).nth (by omega)
        have hlt' : i < rs.length := by rw [HN.out]; exact hlt
        have hr : wr.rangeAt b (off + i * 2) (RKC rs[i]) := hx i hlt'
        obtain ⟨p, HPp⟩ : ∃ p, Hid (rs[i] = p) := ⟨rs[i], (show rs[i] = rs[i] from rfl)⟩
        rw [HPp.out] at hr
        clear hx hlb4
        go_upto_region 7 with (first
          | (refine wpList_load_mid rfl 121 _ rfl b (off + i * 2) rfl (RKC p) _ hr Tryz.underlying121 rfl Tryz.size121 ?_)
          | (refine wpList_store_new rfl 121 _ _ rfl wr _ (RKC p).toArray _ rfl rfl rfl Tryz.size121 rfl (all_one (RKC_one p)) ?_)
          | fail)
        obtain ⟨E, HE⟩ : ∃ E, Hid (wr.heap.size = E) := ⟨_, rfl⟩
        rw [HE.out]
        obtain ⟨w4, hw4⟩ : ∃ x, x = wr.alloc (.cells (RKC p).toArray 121 (0, 0)) := ⟨_, rfl⟩
        rw [← hw4]
        have G4 : Hid (Below wr.heap.size wr w4) := (show Below _ _ _ by rw [hw4]; exact (Below.refl _ _).alloc (Nat.le_refl _) _)
        have B4 : Hid (Blk w4 E 121 (RKC p)) := (show Blk _ _ _ _ by rw [hw4, ← HE.out]; exact Blk.new wr 121 (RKC p))
        clear hw4 hr
        have L4 : Hid (Below w.heap.size w w4) := LR.out.trans (G4.out.mono LR.out.size)
        have HC := hide ((HS.out.ch p (by rw [← HPp.out]; exact List.getElem_mem hlt')).kept L4.out)
        have HT : Hid ((p.1 = k → (getP (s.ch k) n).2 = false) → ∀ y ∈ rs.take (i + 1), y.1 = k → (getP (s.ch k) n).2 = false) := (show _ → _ from fun hp y hy => by
          rw [List.take_succ_eq_append_getElem hlt', HPp.out, List.mem_append, List.mem_singleton] at hy
          rcases hy with hy | rfl
          · exact HW.out y hy
          · exact hp)
        obtain ⟨ky, ca, cn, cc⟩ := p
        simp only [rkv] at HC HT
        have d0 := B4.out.cell (j := 0) rfl
        have d1 := B4.out.cell (j := 1) rfl
        simp only at d0 d1
        cases hkk : ky.toList == k.toList with
        | false =>
          have HT' := hide (HT.out (fun e => by rw [e] at hkk; simp at hkk))
          go_wp2_with fail
          go_roundg (gk - 1)
          case measure => omega
          case rel => exact ⟨i + 1, by omega, by go_num, HT', L4⟩
        | true =>
          have hek : ky = k := by rw [beq_iff_eq] at hkk; exact ba_inj.1 hkk
          obtain ⟨g1, g2, HG⟩ : ∃ x y, Hid (getP (s.ch ky) n = (x, y)) := ⟨_, _, rfl⟩
          have CG := hide (kget_any HC.out n)
          rw [HG.out] at CG
          rw [hek] at HG
          clear hek
          go_wp2_with fail
          refine CG.out.mono ?_
          rintro e w5 ⟨rfl, hb5⟩
          have L5 : Hid (Below w.heap.size w w5) := L4.out.trans (hb5.mono L4.out.size)
          clear hb5 CG
          have A6 : Hid (Below w5.heap.size w5 (w5.alloc (.cells (VC g1).toArray 140 (0, 0)))) := (Below.refl _ _).alloc (Nat.le_refl _) _
          have B6 := hide (Blk.new w5 140 (VC g1))
          have L6 : Hid (Below w.heap.size w (w5.alloc (.cells (VC g1).toArray 140 (0, 0)))) := L5.out.trans (A6.out.mono L5.out.size)
          have e1 := B6.out.cell (j := 1) rfl
          cases g2 with
          | true =>
            have HY : Hid (getS s k n = (g1.2.1, 0)) := (show _ = _ by unfold getS; rw [if_pos HR.out, HG.out]; rfl)
            go_wp2_with (first
              | (refine wpList_store_new rfl 140 _ _ rfl w5 _ (VC g1).toArray _ rfl rfl rfl Tryz.size140 rfl (all_one (VC_one g1)) ?_)
              | fail)
            go_ret2
            exact ⟨by rw [HY.out]; rfl, L6.out⟩
          | false =>
            have HT' := hide (HT.out (fun _ => by rw [HG.out]))
            go_wp2_with (first
              | (refine wpList_store_new rfl 140 _ _ rfl w5 _ (VC g1).toArray _ rfl rfl rfl Tryz.size140 rfl (all_one (VC_one g1)) ?_)
              | fail)
            go_roundg (gk - 1)
            case measure => omega
            case rel => exact ⟨i + 1, by omega, by go_num, HT', L6⟩
      · obtain rfl : i = n_ := by omega
        have q2 : ¬ (i : Int) < (i : Int) := by omega
        have HY : Hid (getS s k n = (em, 8)) := (show _ = _ by
          have h0 : (getP (s.ch k) n).2 = false := by
            by_cases hk : k ∈ rs.map (·.1)
            · obtain ⟨y, hy, hyk⟩ := List.mem_map.1 hk
              exact HW.out y (by rw [List.take_of_length_le (Nat.le_of_eq HN.out)]; exact hy) hyk
            · have : s.ch k = [] := Classical.not_not.1 fun hne => hk ((HS.out.inv.mem k).2 hne)
              rw [this]
              rfl
          unfold getS
          rw [if_pos HR.out, h0]
          rfl)
        go_wp2_with fail
        go_ret2
        exact ⟨by rw [HY.out]; rfl, LR.out⟩
  · have q1 : (r != 0) = true := by simp [hr]
    have HY : Hid (getS s k n = (em, r)) := (show _ = _ by unfold getS; rw [HR.out, if_neg hr])
    go_wp2_with fail
    go_ret2
    exact ⟨by rw [HY.out]; rfl, Below.refl _ _⟩
end Go.Proofs.YtcicekggeampcaaGreat

/-
  The reference's Scan: what the call does.
-/
namespace Go.Proofs.YtcicekggeampcaaGreat
open Go.RowKit
theorem scanL_snoc {s : SP} {rs : List RK} {i : Nat} (h : i < rs.length) (a b : ByteArray) (n : Int) : scanL s ((rs.take (i + 1)).map (·.1)) a b n = scanL s ((rs.take i).map (·.1)) a b n ++ (if inr a b rs[i].1 = true then (scan1 s n rs[i].1).toList else []) := by
  unfold scanL
  rw [List.take_succ_eq_append_getElem h, List.map_append, List.filter_append, List.filterMap_append]
  congr 1
  simp only [List.map_cons, List.map_nil]
  cases hq : inr a b rs[i].1 with
  | true =>
    rw [if_pos rfl]
    cases hs : scan1 s n rs[i].1 with
    | none => simp [hq, hs]
    | some p => simp [hq, hs]
  | false => simp [hq]
theorem take_more {X : List Pr} {p : Pr} {m : Nat} (h : (X.take m).length < m) : (X ++ [p]).take m = X.take m ++ [p] := by
  rw [List.length_take] at h
  rw [List.take_of_length_le (by rw [List.length_append, List.length_singleton]; omega), List.take_of_length_le (by omega)]
theorem take_full {X : List Pr} {p : Pr} {m : Nat} (h : m ≤ (X.take m).length) : (X ++ [p]).take m = X.take m := by
  rw [List.length_take] at h
  rw [List.take_append_of_le_length (by omega)]
set_option maxRecDepth 100000 in
set_option maxHeartbeats 2000000 in
theorem vScan_any {w : World} {R : Nat} {vr : Value} {rs : List RK} {s : SP} (h : RS w R vr rs s) (hN : rs.length ≤ 1000000) (fa tb : ByteArray) (n mo : Int) : Calls Tryz.prog 57 #[.pointer (some ⟨R, 0, none⟩), .string fa, .string tb, .int .i64 n, .int .i64 mo] w fun e w' => ∃ v', e = .returned (.tuple #[v', .int .i64 (scanS s (rs.map (·.1)) fa tb n mo).2]) ∧ OwnG PE w' w.heap.size 51 v' (scanS s (rs.map (·.1)) fa tb n mo).1 ∧ Below w.heap.size w w' := by
  have CM := hide (vmay_any h n)
  obtain ⟨r, HR⟩ : ∃ r, Hid (smayP s n = r) := ⟨_, rfl⟩
  rw [HR.out] at CM
  have HS := hide h
  obtain ⟨a, cp, rfl⟩ := h.own.rd.slice
  have hn : rs.length ≤ 9223372036854775807 := Nat.le_trans h.own.rd.cap h.own.rd.max
  clear h
  have hz := Zrkey
  obtain ⟨n_, HN⟩ : ∃ n, Hid (rs.length = n) := ⟨_, rfl⟩
  rw [HN.out] at HS hn
  have c0 := HS.out.d.cell (j := 0) rfl
  rw [HN.out] at hN
  go_enter Tryz.func57, Tryz.ntmps57
  go_wp2_with fail
  refine CM.out.mono ?_
  rintro e w_ ⟨rfl, hw⟩
  subst w_
  by_cases hr : r = 0
  · subst hr
    have hz' := Zrver
    go_wp2_with fail
    go_loopg [13, 29] n_ (fun g y x wr => ∃ (i : Nat) (v : Value), g + i = n_ ∧ y = v ∧ x = .int .i64 (i : Int) ∧ Hid (OwnG PE wr w.heap.size 51 v ((scanL s ((rs.take i).map (·.1)) fa tb n).take mo.toNat)) ∧ Hid (Below w.heap.size w wr))
    case atStart => exact ⟨0, .slice none 0 0, by omega, rfl, rfl, (show OwnG _ _ _ _ _ _ by rw [show (scanL s ((rs.take 0).map (·.1)) fa tb n).take mo.toNat = [] by simp [scanL]]; exact ownG_nil _ _ _), Below.refl _ _⟩
    case round =>
      obtain ⟨i, v, hgi, hv, rfl, OR, LR⟩ := hrel
      replace hv := hv.symm
      subst hv
      by_cases hlt : i < n_
      · have q2 : (i : Int) < (n_ : Int) := by omega
        have hrd := hide (HS.out.own.rd.kept LR.out)
        obtain ⟨b, off, rfl, hlb4, hx⟩ := (hrd.out).nth (by omega)
        have hlt' : i < rs.length := by rw [HN.out]; exact hlt
        have hr : wr.rangeAt b (off + i * 2) (RKC rs[i]) := hx i hlt'
        obtain ⟨p, HPp⟩ : ∃ p, Hid (rs[i] = p) := ⟨rs[i], (show rs[i] = rs[i] from rfl)⟩
        rw [HPp.out] at hr
        clear hx hlb4
        go_upto_region 8 with (first
          | (refine wpList_load_mid rfl 121 _ rfl b (off + i * 2) rfl (RKC p) _ hr Tryz.underlying121 rfl Tryz.size121 ?_)
          | (refine wpList_store_new rfl 121 _ _ rfl wr _ (RKC p).toArray _ rfl rfl rfl Tryz.size121 rfl (all_one (RKC_one p)) ?_)
          | fail)
        obtain ⟨E, HE⟩ : ∃ E, Hid (wr.heap.size = E) := ⟨_, rfl⟩
        rw [HE.out]
        obtain ⟨w4, hw4⟩ : ∃ x, x = wr.alloc (.cells (RKC p).toArray 121 (0, 0)) := ⟨_, rfl⟩
        rw [← hw4]
        have G4 : Hid (Below wr.heap.size wr w4) := (show Below _ _ _ by rw [hw4]; exact (Below.refl _ _).alloc (Nat.le_refl _) _)
        have B4 : Hid (Blk w4 E 121 (RKC p)) := (show Blk _ _ _ _ by rw [hw4, ← HE.out]; exact Blk.new wr 121 (RKC p))
        clear hw4 hr
        have L4 : Hid (Below w.heap.size w w4) := LR.out.trans (G4.out.mono LR.out.size)
        have HC := hide ((HS.out.ch p (by rw [← HPp.out]; exact List.getElem_mem hlt')).kept L4.out)
        obtain ⟨X, HX⟩ : ∃ X, Hid (scanL s ((rs.take i).map (·.1)) fa tb n = X) := ⟨_, rfl⟩
        have HT : Hid (scanL s ((rs.take (i + 1)).map (·.1)) fa tb n = X ++ (if inr fa tb p.1 = true then (scan1 s n p.1).toList else [])) := (show _ = _ by rw [scanL_snoc hlt', HX.out, HPp.out])
        have hXl : X.length ≤ 1000000 := by
          rw [← HX.out]
          refine Nat.le_trans scan_len ?_
          rw [List.length_map, List.length_take]
          omega
        rw [HX.out] at OR
        obtain ⟨ky, ca, cn, cc⟩ := p
        simp only [rkv] at HC HT
        have d1 := B4.out.cell (j := 1) rfl
        simp only at d1
        obtain ⟨g1, g2, HG⟩ : ∃ x y, Hid (getP (s.ch ky) n = (x, y)) := ⟨_, _, rfl⟩
        have CG := hide (kget_any HC.out n)
        rw [HG.out] at CG
        go_wp2_with fail
        refine CG.out.mono ?_
        rintro e w5 ⟨rfl, hb5⟩
        have L5 : Hid (Below w.heap.size w w5) := L4.out.trans (hb5.mono L4.out.size)
        have B5 := hide (B4.out.kept hb5)
        have A6 : Hid (Below w5.heap.size w5 (w5.alloc (.cells (VC g1).toArray 140 (0, 0)))) := (Below.refl _ _).alloc (Nat.le_refl _) _
        have O6 : Hid (OwnG PE (w5.alloc (.cells (VC g1).toArray 140 (0, 0))) w.heap.size 51 v (X.take mo.toNat)) := (show OwnG _ _ _ _ _ _ from ((OR.out.kept G4.out).kept hb5).kept A6.out)
        clear hb5 CG d1
        have V6 := hide (Blk.new w5 140 (VC g1))
        have L6 : Hid (Below w.heap.size w (w5.alloc (.cells (VC g1).toArray 140 (0, 0)))) := L5.out.trans (A6.out.mono L5.out.size)
        have B6 := hide (B5.out.kept A6.out)
        have e0 := B6.out.cell (j := 0) rfl
        have e1 := V6.out.cell (j := 1) rfl
        simp only at e0
        cases g2 with
        | false =>
          have hs : scan1 s n ky = none := by unfold scan1; rw [HG.out]; rfl
          have HT' : Hid (scanL s ((rs.take (i + 1)).map (·.1)) fa tb n = X) := (show _ = _ by rw [HT.out, hs]; simp)
          clear hs
          have O8 : Hid (OwnG PE (w5.alloc (.cells (VC g1).toArray 140 (0, 0))) w.heap.size 51 v ((scanL s ((rs.take (i + 1)).map (·.1)) fa tb n).take mo.toNat)) := (show OwnG _ _ _ _ _ _ by rw [HT'.out]; exact O6.out)
          go_wp2_with (first
            | (refine wpList_store_new rfl 140 _ _ rfl w5 _ (VC g1).toArray _ rfl rfl rfl Tryz.size140 rfl (all_one (VC_one g1)) ?_)
            | fail)
          go_roundg (gk - 1)
          case measure => omega
          case rel => exact ⟨i + 1, v, by omega, rfl, by go_num, O8, L6⟩
        | true =>
          have hs : scan1 s n ky = some (ky, g1.2.1, false) := by unfold scan1; rw [HG.out]; rfl
          cases h1 : lt ky fa with
          | true =>
            have q3 : ∀ W, (binOp .geq 9 (.string ky) (.string fa)).run Tryz.prog W = .ok (.bool false) W := fun W => by rw [sge, h1]; rfl
            have hf : inr fa tb ky = false := by unfold inr; rw [h1]; rfl
            have HT' : Hid (scanL s ((rs.take (i + 1)).map (·.1)) fa tb n = X) := (show _ = _ by rw [HT.out, hf]; simp)
            clear hs hf
            have O8 : Hid (OwnG PE (w5.alloc (.cells (VC g1).toArray 140 (0, 0))) w.heap.size 51 v ((scanL s ((rs.take (i + 1)).map (·.1)) fa tb n).take mo.toNat)) := (show OwnG _ _ _ _ _ _ by rw [HT'.out]; exact O6.out)
            go_wp2_with (first
              | (refine wpList_store_new rfl 140 _ _ rfl w5 _ (VC g1).toArray _ rfl rfl rfl Tryz.size140 rfl (all_one (VC_one g1)) ?_)
              | fail)
            go_roundg (gk - 1)
            case measure => omega
            case rel => exact ⟨i + 1, v, by omega, rfl, by go_num, O8, L6⟩
          | false =>
            have q3 : ∀ W, (binOp .geq 9 (.string ky) (.string fa)).run Tryz.prog W = .ok (.bool true) W := fun W => by rw [sge, h1]; rfl
            cases h2 : lt ky tb with
            | false =>
              have q4 : Op.bytesLess ky.toList tb.toList = false := h2
              have hf : inr fa tb ky = false := by unfold inr; rw [h1, h2]; rfl
              have HT' : Hid (scanL s ((rs.take (i + 1)).map (·.1)) fa tb n = X) := (show _ = _ by rw [HT.out, hf]; simp)
              clear hs hf
              have O8 : Hid (OwnG PE (w5.alloc (.cells (VC g1).toArray 140 (0, 0))) w.heap.size 51 v ((scanL s ((rs.take (i + 1)).map (·.1)) fa tb n).take mo.toNat)) := (show OwnG _ _ _ _ _ _ by rw [HT'.out]; exact O6.out)
              go_wp2_with (first
                | (refine wpList_store_new rfl 140 _ _ rfl w5 _ (VC g1).toArray _ rfl rfl rfl Tryz.size140 rfl (all_one (VC_one g1)) ?_)
                | fail)
              go_roundg (gk - 1)
              case measure => omega
              case rel => exact ⟨i + 1, v, by omega, rfl, by go_num, O8, L6⟩
            | true =>
              have q4 : Op.bytesLess ky.toList tb.toList = true := h2
              have HT2 : Hid (scanL s ((rs.take (i + 1)).map (·.1)) fa tb n = X ++ [(ky, g1.2.1, false)]) := (show _ = _ by rw [HT.out, hs, show inr fa tb ky = true by unfold inr; rw [h1, h2]; rfl]; rfl)
              clear hs h1 h2
              obtain ⟨av, cv, ev⟩ := O6.out.rd.slice
              obtain ⟨l, HLn⟩ : ∃ l, Hid ((X.take mo.toNat).length = l) := ⟨_, rfl⟩
              rw [HLn.out] at ev
              by_cases hlm : (l : Int) < mo
              · have q5 : decide ((l : Int) < mo) = true := by simp [hlm]
                have hbd : ∀ W, (Instr.build 51 #[(0, .string ky), (1, .string g1.2.1)]).run Tryz.prog W = .ok (.agg #[.string ky, .string g1.2.1, .bool false]) W := fun W => by kernel_rfl
                have hl2 : l ≤ 1000000 := by rw [← HLn.out, List.length_take]; omega
                have A7 : Hid (Below (w5.alloc (.cells (VC g1).toArray 140 (0, 0))).heap.size (w5.alloc (.cells (VC g1).toArray 140 (0, 0))) ((w5.alloc (.cells (VC g1).toArray 140 (0, 0))).alloc (.cells #[.string ky, .string g1.2.1, .bool false] 51 (0, 0)))) := (Below.refl _ _).alloc (Nat.le_refl _) _
                have OA : Hid (OwnG PE ((w5.alloc (.cells (VC g1).toArray 140 (0, 0))).alloc (.cells #[.string ky, .string g1.2.1, .bool false] 51 (0, 0))) w.heap.size 51 v (X.take mo.toNat)) := O6.out.kept A7.out
                have RA : Hid (RdG PE ((w5.alloc (.cells (VC g1).toArray 140 (0, 0))).alloc (.cells #[.string ky, .string g1.2.1, .bool false] 51 (0, 0))) (.slice (some ⟨w5.heap.size + 1, 0, none⟩) 1 1) [(ky, g1.2.1, false)]) := (show RdG _ _ _ _ by have hq := rdG_one (E := PE) (w5.alloc (.cells (VC g1).toArray 140 (0, 0))) 51 (ky, g1.2.1, false); rw [show (w5.alloc (.cells (VC g1).toArray 140 (0, 0))).heap.size = w5.heap.size + 1 by simp] at hq; exact hq)
                have hb1 : Hid (((X.take mo.toNat).length + [(ky, g1.2.1, false)].length) * 40 ≤ 140737488355328) := (show ((X.take mo.toNat).length + 1) * 40 ≤ 140737488355328 by rw [HLn.out]; omega)
                have hb2 : Hid ((X.take mo.toNat).length + [(ky, g1.2.1, false)].length ≤ maxLen) := (show (X.take mo.toNat).length + 1 ≤ maxLen by rw [HLn.out]; simp only [maxLen]; omega)
                have hb3 : Hid (w.heap.size ≤ ((w5.alloc (.cells (VC g1).toArray 140 (0, 0))).alloc (.cells #[.string ky, .string g1.2.1, .bool false] 51 (0, 0))).heap.size) := (show w.heap.size ≤ _ from Nat.le_trans L6.out.size A7.out.size)
                have L7 : Hid (Below w.heap.size w ((w5.alloc (.cells (VC g1).toArray 140 (0, 0))).alloc (.cells #[.string ky, .string g1.2.1, .bool false] 51 (0, 0)))) := L6.out.trans (A7.out.mono L6.out.size)
                have HTK : Hid ((X ++ [(ky, g1.2.1, false)]).take mo.toNat = X.take mo.toNat ++ [(ky, g1.2.1, false)]) := (show _ = _ from take_more (by rw [HLn.out]; omega))
                subst ev
                go_wp2_with (first
                  | (refine wpList_store_new rfl 140 _ _ rfl w5 _ (VC g1).toArray _ rfl rfl rfl Tryz.size140 rfl (all_one (VC_one g1)) ?_)
                  | (at_builtin; refine wpList_append_G _ rfl _ _ 35 35 rfl w.heap.size 51 (.agg #[.string ⟨#[]⟩, .string ⟨#[]⟩, .bool false]) 40 Tryz.underlying35 Tryz.info51 rfl _ _ rfl OA.out _ [(ky, g1.2.1, false)] rfl RA.out 51 Tryz.underlying35 hb1.out hb2.out hb3.out ?_; intro v7 w7 o7 g7; have O7 := hide o7; have G7 := hide g7; clear o7 g7)
                  | fail)
                have O8 : Hid (OwnG PE w7 w.heap.size 51 v7 ((scanL s ((rs.take (i + 1)).map (·.1)) fa tb n).take mo.toNat)) := (show OwnG _ _ _ _ _ _ by rw [HT2.out, HTK.out]; exact O7.out)
                have L8 : Hid (Below w.heap.size w w7) := L7.out.trans (below_of_grown _ OA.out G7.out hb3.out)
                clear OA RA hb1 hb2 hb3 O7 G7 A7
                go_roundg (gk - 1)
                case measure => omega
                case rel => exact ⟨i + 1, v7, by omega, rfl, by go_num, O8, L8⟩
              · have q5 : decide ((l : Int) < mo) = false := by simp; omega
                have O8 : Hid (OwnG PE (w5.alloc (.cells (VC g1).toArray 140 (0, 0))) w.heap.size 51 v ((scanL s ((rs.take (i + 1)).map (·.1)) fa tb n).take mo.toNat)) := (show OwnG _ _ _ _ _ _ by
                  rw [HT2.out, take_full (by rw [HLn.out]; omega)]
                  exact O6.out)
                subst ev
                go_wp2_with (first
                  | (refine wpList_store_new rfl 140 _ _ rfl w5 _ (VC g1).toArray _ rfl rfl rfl Tryz.size140 rfl (all_one (VC_one g1)) ?_)
                  | fail)
                go_roundg (gk - 1)
                case measure => omega
                case rel => exact ⟨i + 1, _, by omega, rfl, by go_num, O8, L6⟩
      · obtain rfl : i = n_ := by omega
        have q2 : ¬ (i : Int) < (i : Int) := by omega
        have HY : Hid (scanS s (rs.map (·.1)) fa tb n mo = ((scanL s (rs.map (·.1)) fa tb n).take mo.toNat, 0)) := (show _ = _ by unfold scanS; rw [if_pos HR.out])
        have O8 : Hid (OwnG PE wr w.heap.size 51 v ((scanL s (rs.map (·.1)) fa tb n).take mo.toNat)) := (show OwnG _ _ _ _ _ _ by
          have := OR.out
          rw [List.take_of_length_le (Nat.le_of_eq HN.out)] at this
          exact this)
        go_wp2_with fail
        go_ret2
        exact ⟨v, by rw [HY.out]; rfl, by rw [HY.out]; exact O8.out, LR.out⟩
  · have q1 : (r != 0) = true := by simp [hr]
    have HY : Hid (scanS s (rs.map (·.1)) fa tb n mo = ([], r)) := (show _ = _ by unfold scanS; rw [HR.out, if_neg hr])
    go_wp2_with fail
    go_ret2
    exact ⟨.slice none 0 0, by rw [HY.out]; rfl, by rw [HY.out]; exact ownG_nil _ _ _, Below.refl _ _⟩
end Go.Proofs.YtcicekggeampcaaGreat
