/-
  The reference's Put: what the call does.
-/
import Derived.Test.YtgaoionnfkbhaaaGC
import Derived.Test.YtgaoionnfkbhaaaRegion6
namespace Go.Proofs.Ytgaoionnfkbhaaa
open Go.RowKit

theorem ownV_none (w : World) (B : Nat) (e : TypeId) (hB : B ≤ w.heap.size) : OwnV (w.alloc (.cells #[] e (0, 0))) B e (.slice (some ⟨w.heap.size, 0, none⟩) 0 0) [] :=
  ⟨rfl, .inr ⟨w.heap.size, 0, #[], rfl, hB, heap_alloc_new w _, Nat.le_refl _, by simp [maxLen], rfl, rfl⟩⟩
/-- append onto a row of no room. -/
theorem run_append_fresh {P : Program} (w : World) (base : Nat) (t tx ty e : TypeId) (i : TypeInfo) (ht : P.underlying t = some (.slice e)) (hi : P.info? e = some i) (hz : i.zero = some (.agg (VC zv).toArray)) (hsize : i.size = 3) (hby : i.bytes = 32)
    (g : Addr) (hown : OwnV w base e (.slice (some g) 0 0) []) (x : Value) (M : List Ver) (hs : Src P 3 tx x M.length (VCs M) w) (hlen : M.length ≤ 4398046511104) (hbase : base ≤ w.heap.size) :
    ∃ v' w', (Builtin.append_ #[t, tx] ty #[.slice (some g) 0 0, x]).run P w = .ok v' w' ∧ OwnV w' base e v' M ∧ Below w.heap.size w w' := by
  by_cases hm : M.length = 0
  · have hM : M = [] := List.eq_nil_of_length_eq_zero hm
    subst hM
    refine ⟨.slice (some g) 0 0, w, ?_, hown, Below.refl _ _⟩
    have h1 := hs.len
    have h2 := hs.cells
    simp only [List.length_nil, VCs_nil] at h1 h2
    rcases hs.kind with ⟨e', hk⟩ | hk <;> simp [Builtin.append_, run_underlying ht, run_underlying hk, sizeOf, typeInfo, hi, h1, h2, hsize, storeCells]
  · have hs' : Src P i.size tx x M.length (VCs M) w := by rw [hsize]; exact hs
    have hgrow := fun b hold => run_append_grow_src (P := P) w t tx ty e i _ ht hi hz b 0 0 [] hold x M.length (VCs M) hs' (by omega) (by omega) (growslice_fits (by omega) (by rw [hby]; omega))
    have r1 := hgrow (some g) (run_firstCells_some w.drew i.size 0 g 0 0 [] (by simp) (by simp))
    have r2 := hgrow none (run_firstCells_none w.drew i.size 0 0 0)
    obtain ⟨v', w', hr, h2, h3⟩ := run_append_mine (P := P) w base t tx ty e i _ 3 32 ht hi hz hsize hby rfl (.slice none 0 0) 0 [] (World.ownsRow_nil w base e 3) x M.length (VCs M) hs (by simp only [maxLen]; omega) (by omega) hbase
    refine ⟨v', w', by rw [r1, ← hr, r2], ?_, ?_⟩
    · unfold OwnV
      simpa using h2
    · exact (Below.refl _ w).grown h3 (Nat.le_refl _) (fun k hk => by simp [Value.ownBlock] at hk)
theorem build0 (W : World) : (Instr.buildSlice 67 0 #[]).run Try.prog W = .ok (.slice (some ⟨W.heap.size, 0, none⟩) 0 0) (W.alloc (.cells #[] 87 (0, 0))) := by
  kernel_rfl
/-- What the operations of append(append([]Version{}, c...), v) yield. -/
def putS (B : Nat) (u : Value) (L : List Ver) (v : Ver) (i : Nat) (w : World) (x : Value) : Prop := match i with
  | 0 => ∃ g, x = .slice (some g) 0 0 ∧ OwnV w B 87 x []
  | 1 => x = u
  | 2 => OwnV w B 87 x L
  | 3 => x = .agg (VC v).toArray
  | 4 => RdV w x [v]
  | _ => True
theorem putS_mono (B : Nat) (u : Value) (L : List Ver) (v : Ver) : ∀ i w w' x, Gr w w' → putS B u L v i w x → putS B u L v i w' x := by
  intro i w w' x hg h
  match i with
  | 0 => obtain ⟨g, h1, h2⟩ := h; exact ⟨g, h1, OwnV.kept h2 hg⟩
  | 1 => exact h
  | 2 => exact OwnV.kept h hg
  | 3 => exact h
  | 4 => exact RdV.kept h hg
  | _ + 5 => exact trivial

set_option maxHeartbeats 2000000 in
set_option maxRecDepth 100000 in
theorem kput_any {w : World} {u : Value} {L : List Ver} (h : RdV w u L) (hl : L.length ≤ 4398046511103) (v : Ver) :
    Calls Try.prog 59 #[u, .agg (VC v).toArray] w fun e w' => ∃ v', e = .returned (.tuple #[v', .bool (putOk L v)]) ∧ RdV w' v' (putP L v) ∧ Below w.heap.size w w' := by
  have HL := hide h
  obtain ⟨a, cp, rfl⟩ := h.slice
  clear h
  obtain ⟨n, HN⟩ : ∃ n, Hid (L.length = n) := ⟨_, rfl⟩
  rw [HN.out] at HL hl ⊢
  have L1 := hide ((Below.refl w.heap.size w).alloc (Nat.le_refl _) (.cells (VC v).toArray 87 (0, 0)))
  have B1 := hide (Blk.new w 87 (VC v))
  go_enter Try.func59, Try.ntmps59
  go_upto_region 1 with fail
  obtain ⟨E, HE⟩ : ∃ E, Hid (w.heap.size = E) := ⟨_, rfl⟩
  obtain ⟨w1, hw1⟩ : ∃ x, x = w.alloc (.cells (VC v).toArray 87 (0, 0)) := ⟨_, rfl⟩
  rw [← hw1] at L1 B1 ⊢
  rw [HE.out] at B1 ⊢
  clear hw1
  have cG := quiet_of (w := w1) (fun W hW => kgood_any ((HL.out.kept L1.out).kept hW))
  have cL := quiet_of (w := w1) (fun W hW => klast_any ((HL.out.kept L1.out).kept hW))
  have HP : Hid (putOk L v = (gd 0 L && fol v (lst L))) := rfl
  obtain ⟨x, s, d⟩ := v
  have c0 := cell_regrown (B1.out.cell (j := 0) rfl)
  have c1 := cell_regrown (B1.out.cell (j := 1) rfl)
  have c2 := cell_regrown (B1.out.cell (j := 2) rfl)
  simp only at c0 c1 c2
  obtain ⟨q, HQ⟩ : ∃ q, Hid (gd 0 L = q) := ⟨_, rfl⟩
  rw [HQ.out] at cG HP
  cases q with
  | false =>
    have HF : Hid (putOk L (x, s, d) = false) := HP.out
    refine wp_region_quiet_below Try.mixed (by kernel_rfl) ?_
    repeat (go_big_quiet_step (exact cG _ _))
    refine wpQuiet_nil ?_
    intro w3 hw3
    have L13 : Hid (Below w1.heap.size w1 w3) := (show Below _ _ _ by obtain ⟨⟨dq, osq⟩, rfl⟩ := hw3; exact below_regrown w1 dq osq)
    have B3 : Hid (Blk w3 E 87 (VC (x, s, d))) := B1.out.kept L13.out
    have L3 : Hid (Below w.heap.size w w3) := L1.out.trans (L13.out.mono L1.out.size)
    clear hw3 cG cL c0 c1 c2 L13 B1
    go_wp2_with fail
    go_ret2
    exact ⟨_, by rw [HF.out]; rfl, by rw [putP_no HF.out]; exact HL.out.kept L3.out, L3.out⟩
  | true =>
    generalize lst L = la at cL HP
    by_cases hle : x ≤ la
    · rw [fol_le (v := (x, s, d)) hle] at HP
      have HF : Hid (putOk L (x, s, d) = false) := HP.out
      have q1 : decide (x ≤ la) = true := by simp [hle]
      refine wp_region_quiet_below Try.mixed (by kernel_rfl) ?_
      repeat (go_big_quiet_step (first | exact cG _ _ | exact cL _ _))
      refine wpQuiet_nil ?_
      intro w3 hw3
      have L13 : Hid (Below w1.heap.size w1 w3) := (show Below _ _ _ by obtain ⟨⟨dq, osq⟩, rfl⟩ := hw3; exact below_regrown w1 dq osq)
      have B3 : Hid (Blk w3 E 87 (VC (x, s, d))) := B1.out.kept L13.out
      have L3 : Hid (Below w.heap.size w w3) := L1.out.trans (L13.out.mono L1.out.size)
      clear hw3 cG cL c0 c1 c2 L13 B1
      go_wp2_with fail
      go_ret2
      exact ⟨_, by rw [HF.out]; rfl, by rw [putP_no HF.out]; exact HL.out.kept L3.out, L3.out⟩
    · rw [fol_gt (v := (x, s, d)) (by show la < x; omega)] at HP
      have q1 : decide (x ≤ la) = false := by simp; omega
      simp only at HP
      cases d with
      | false =>
        have HF : Hid (putOk L (x, s, false) = true) := HP.out
        refine wp_region_quiet_below Try.mixed (by kernel_rfl) ?_
        repeat (go_big_quiet_step (first | exact cG _ _ | exact cL _ _))
        refine wpQuiet_nil ?_
        intro w3 hw3
        have L13 : Hid (Below w1.heap.size w1 w3) := (show Below _ _ _ by obtain ⟨⟨dq, osq⟩, rfl⟩ := hw3; exact below_regrown w1 dq osq)
        have B3 : Hid (Blk w3 E 87 (VC (x, s, false))) := B1.out.kept L13.out
        have L3 : Hid (Below w.heap.size w w3) := L1.out.trans (L13.out.mono L1.out.size)
        clear hw3 cG cL c0 c1 c2 L13 B1
        obtain ⟨i0, hi0, hz0, hz1, hz2⟩ := info_parts Try.info87
        go_wp2_with fail
        refine wp_region_tails Try.mixed (putS w.heap.size (.slice a n cp) L (x, s, false)) 32 rfl (by decide +kernel) 5 (by decide) (by decide +kernel) (putS_mono _ _ _ _) ?_ ?_
        · refine (AllFrom.cons ⟨rfl, ?_⟩ (AllFrom.cons ⟨rfl, ?_⟩ (AllFrom.cons ⟨rfl, ?_⟩ (AllFrom.cons ⟨rfl, ?_⟩ (AllFrom.cons ⟨rfl, ?_⟩ AllFrom.nil)))))
          · intro a' w' hg hk hd Q
            refine wp_grow (.slice (some ⟨w'.heap.size, 0, none⟩) 0 0) (w'.alloc (.cells #[] 87 (0, 0))) ?_ ((Below.refl _ _).alloc (Nat.le_refl _) _) ?_
            · have hr := build0 w'
              simp only [execOp, List.map_toArray, List.map_nil, hr, Sem.run_bind, Sem.run_pure, Result.andThen_ok]
            · exact ⟨_, rfl, ownV_none w' w.heap.size 87 (Nat.le_trans L3.out.size hg.size)⟩
          · intro a' w' hg hk hd Q
            have e0 : a'.eval (.tmp 0) = .slice a n cp := hk.at 0 (by decide +kernel)
            exact wp_value (.slice a n cp) (by simp only [execOp, e0]; rfl) rfl
          · intro a' w' hg hk hd Q
            obtain ⟨g, e26, o26⟩ := Deps.val hd 0 26 (by decide +kernel)
            have e27 : a'.eval (.tmp 27) = .slice a n cp := Deps.val hd 1 27 (by decide +kernel)
            rw [e26] at o26
            obtain ⟨v', w'', hr, h2, h3⟩ := run_append_fresh (P := Try.prog) w' w.heap.size 67 67 67 87 i0 Try.underlying67 hi0 hz0 hz1 hz2 g o26 (.slice a n cp) L ((((HL.out.kept L3.out).kept hg)).src 67 87 Try.underlying67) (by rw [HN.out]; omega) (Nat.le_trans L3.out.size hg.size)
            refine wp_grow v' w'' ?_ h3 h2
            simp only [execOp, resolve, invoke, builtin, Sem.run_bind, Sem.run_pure, Result.andThen_ok, List.map_toArray, List.map_cons, List.map_nil, e26, e27, hr]
          · intro a' w' hg hk hd Q
            have e3 : a'.eval (.tmp 3) = .pointer (some ⟨E, 0, none⟩) := hk.at 3 (by decide +kernel)
            exact wp_load_row 87 (.tmp 3) rfl E 0 e3 (VC (x, s, false)) _ (B3.out.kept hg).range0 Try.underlying87 rfl Try.size87 rfl
          · intro a' w' hg hk hd Q
            have e29 : a'.eval (.tmp 29) = .agg (VC (x, s, false)).toArray := Deps.val hd 3 29 (by decide +kernel)
            refine wp_grow (.slice (some ⟨w'.heap.size, 0, none⟩) 1 1) (w'.alloc (.cells (VC (x, s, false)).toArray 87 (0, 0))) ?_ ((Below.refl _ _).alloc (Nat.le_refl _) _) (rdV_one w' 87 _)
            have hr := build1 (x, s, false) w'
            simp only [execOp, List.map_toArray, List.map_cons, List.map_nil, e29, hr, Sem.run_bind, Sem.run_pure, Result.andThen_ok]
        · intro a' w' hsz hdf hk hall hg
          have o28 : OwnV w' w.heap.size 87 (a'.eval (.tmp 28)) L := hall 2 _ 28 (by decide) rfl rfl
          have r30 : RdV w' (a'.eval (.tmp 30)) [(x, s, false)] := hall 4 _ 30 (by decide) rfl rfl
          generalize e28 : a'.eval (.tmp 28) = x28 at o28
          generalize e30 : a'.eval (.tmp 30) = x30 at r30
          obtain ⟨v', w'', hr, h2, h3⟩ := run_append_mine (P := Try.prog) w' w.heap.size 67 67 67 87 i0 _ 3 32 Try.underlying67 hi0 hz0 hz1 hz2 rfl x28 L.length (VCs L) o28 x30 1 (VCs [(x, s, false)]) (r30.src 67 87 Try.underlying67) (by simp only [maxLen, HN.out]; omega) (by rw [HN.out]; omega) (Nat.le_trans L3.out.size hg.size)
          have b3 : Below w.heap.size w' w'' := below_of_grown w' o28 h3 (Nat.le_trans L3.out.size hg.size)
          have o31 : OwnV w'' w.heap.size 87 v' (putP L (x, s, false)) := by
            rw [putP_ok HF.out]
            unfold OwnV
            rw [List.length_append, VCs_append]
            exact h2
          have hb : Below w.heap.size w w'' := (L3.out.trans (hg.mono L3.out.size)).trans b3
          have s0 : a'.tmps.size = 32 := hsz
          have e31 : (a'.put (some 31) v').eval (.tmp 31) = v' := eval_put_same (by omega)
          have e4 : (((a'.put (some 31) v').put (some 4) v').put (some 5) (.bool true)).eval (.tmp 4) = v' := by
            rw [eval_put_other (by simp), eval_put_same (by rw [put_size]; omega)]
          have e5 : (((a'.put (some 31) v').put (some 4) v').put (some 5) (.bool true)).eval (.tmp 5) = .bool true := eval_put_same (by rw [put_size, put_size]; omega)
          have d0 : (((a'.put (some 31) v').put (some 4) v').put (some 5) (.bool true)).defers = [] := by rw [put_defers', put_defers', put_defers']; exact hdf
          refine ⟨rfl, ?_⟩
          unfold Oper.wp execOp
          simp only [resolve, invoke, builtin, Sem.run_bind, Sem.run_pure, Result.andThen_ok, List.map_toArray, List.map_cons, List.map_nil, e28, e30, hr]
          refine ⟨v', rfl, rfl, ?_⟩
          unfold Oper.wp execOp
          simp only [Sem.run_pure, e31]
          refine ⟨v', rfl, rfl, ?_⟩
          refine ⟨.bool true, rfl, ?_⟩
          clear hk hall hsz hdf hr e31 e28 e30
          show Exit.then _ _ Exit.normal (((a'.put (some 31) v').put (some 4) v').put (some 5) (.bool true)) w''
          generalize ((a'.put (some 31) v').put (some 4) v').put (some 5) (.bool true) = af at e4 e5 d0 ⊢
          go_wp2_with fail
          refine bodyPost_ret (v := .tuple #[v', .bool true]) ?_ d0 ⟨v', by rw [HF.out], o31.rd, hb⟩
          rw [results_tmp2 (show Try.f59.results = #[.tmp 4, .tmp 5] from rfl)]
          have e4' : af.tmps.getD 4 undef = v' := e4
          have e5' : af.tmps.getD 5 undef = .bool true := e5
          rw [e4', e5']
      | true =>
        obtain ⟨r, hr⟩ : ∃ r, s.toList.isEmpty = r := ⟨_, rfl⟩
        rw [hr] at HP
        cases r with
        | false =>
          have HF : Hid (putOk L (x, s, true) = false) := HP.out
          refine wp_region_quiet_below Try.mixed (by kernel_rfl) ?_
          repeat (go_big_quiet_step (first | exact cG _ _ | exact cL _ _))
          refine wpQuiet_nil ?_
          intro w3 hw3
          have L13 : Hid (Below w1.heap.size w1 w3) := (show Below _ _ _ by obtain ⟨⟨dq, osq⟩, rfl⟩ := hw3; exact below_regrown w1 dq osq)
          have B3 : Hid (Blk w3 E 87 (VC (x, s, true))) := B1.out.kept L13.out
          have L3 : Hid (Below w.heap.size w w3) := L1.out.trans (L13.out.mono L1.out.size)
          clear hw3 cG cL c0 c1 c2 L13 B1
          go_wp2_with fail
          go_ret2
          exact ⟨_, by rw [HF.out]; rfl, by rw [putP_no HF.out]; exact HL.out.kept L3.out, L3.out⟩
        | true =>
          have HF : Hid (putOk L (x, s, true) = true) := HP.out
          refine wp_region_quiet_below Try.mixed (by kernel_rfl) ?_
          repeat (go_big_quiet_step (first | exact cG _ _ | exact cL _ _))
          refine wpQuiet_nil ?_
          intro w3 hw3
          have L13 : Hid (Below w1.heap.size w1 w3) := (show Below _ _ _ by obtain ⟨⟨dq, osq⟩, rfl⟩ := hw3; exact below_regrown w1 dq osq)
          have B3 : Hid (Blk w3 E 87 (VC (x, s, true))) := B1.out.kept L13.out
          have L3 : Hid (Below w.heap.size w w3) := L1.out.trans (L13.out.mono L1.out.size)
          clear hw3 cG cL c0 c1 c2 L13 B1
          obtain ⟨i0, hi0, hz0, hz1, hz2⟩ := info_parts Try.info87
          go_wp2_with fail
          refine wp_region_tails Try.mixed (putS w.heap.size (.slice a n cp) L (x, s, true)) 32 rfl (by decide +kernel) 5 (by decide) (by decide +kernel) (putS_mono _ _ _ _) ?_ ?_
          · refine (AllFrom.cons ⟨rfl, ?_⟩ (AllFrom.cons ⟨rfl, ?_⟩ (AllFrom.cons ⟨rfl, ?_⟩ (AllFrom.cons ⟨rfl, ?_⟩ (AllFrom.cons ⟨rfl, ?_⟩ AllFrom.nil)))))
            · intro a' w' hg hk hd Q
              refine wp_grow (.slice (some ⟨w'.heap.size, 0, none⟩) 0 0) (w'.alloc (.cells #[] 87 (0, 0))) ?_ ((Below.refl _ _).alloc (Nat.le_refl _) _) ?_
              · have hr := build0 w'
                simp only [execOp, List.map_toArray, List.map_nil, hr, Sem.run_bind, Sem.run_pure, Result.andThen_ok]
              · exact ⟨_, rfl, ownV_none w' w.heap.size 87 (Nat.le_trans L3.out.size hg.size)⟩
            · intro a' w' hg hk hd Q
              have e0 : a'.eval (.tmp 0) = .slice a n cp := hk.at 0 (by decide +kernel)
              exact wp_value (.slice a n cp) (by simp only [execOp, e0]; rfl) rfl
            · intro a' w' hg hk hd Q
              obtain ⟨g, e26, o26⟩ := Deps.val hd 0 26 (by decide +kernel)
              have e27 : a'.eval (.tmp 27) = .slice a n cp := Deps.val hd 1 27 (by decide +kernel)
              rw [e26] at o26
              obtain ⟨v', w'', hr, h2, h3⟩ := run_append_fresh (P := Try.prog) w' w.heap.size 67 67 67 87 i0 Try.underlying67 hi0 hz0 hz1 hz2 g o26 (.slice a n cp) L ((((HL.out.kept L3.out).kept hg)).src 67 87 Try.underlying67) (by rw [HN.out]; omega) (Nat.le_trans L3.out.size hg.size)
              refine wp_grow v' w'' ?_ h3 h2
              simp only [execOp, resolve, invoke, builtin, Sem.run_bind, Sem.run_pure, Result.andThen_ok, List.map_toArray, List.map_cons, List.map_nil, e26, e27, hr]
            · intro a' w' hg hk hd Q
              have e3 : a'.eval (.tmp 3) = .pointer (some ⟨E, 0, none⟩) := hk.at 3 (by decide +kernel)
              exact wp_load_row 87 (.tmp 3) rfl E 0 e3 (VC (x, s, true)) _ (B3.out.kept hg).range0 Try.underlying87 rfl Try.size87 rfl
            · intro a' w' hg hk hd Q
              have e29 : a'.eval (.tmp 29) = .agg (VC (x, s, true)).toArray := Deps.val hd 3 29 (by decide +kernel)
              refine wp_grow (.slice (some ⟨w'.heap.size, 0, none⟩) 1 1) (w'.alloc (.cells (VC (x, s, true)).toArray 87 (0, 0))) ?_ ((Below.refl _ _).alloc (Nat.le_refl _) _) (rdV_one w' 87 _)
              have hr := build1 (x, s, true) w'
              simp only [execOp, List.map_toArray, List.map_cons, List.map_nil, e29, hr, Sem.run_bind, Sem.run_pure, Result.andThen_ok]
          · intro a' w' hsz hdf hk hall hg
            have o28 : OwnV w' w.heap.size 87 (a'.eval (.tmp 28)) L := hall 2 _ 28 (by decide) rfl rfl
            have r30 : RdV w' (a'.eval (.tmp 30)) [(x, s, true)] := hall 4 _ 30 (by decide) rfl rfl
            generalize e28 : a'.eval (.tmp 28) = x28 at o28
            generalize e30 : a'.eval (.tmp 30) = x30 at r30
            obtain ⟨v', w'', hr, h2, h3⟩ := run_append_mine (P := Try.prog) w' w.heap.size 67 67 67 87 i0 _ 3 32 Try.underlying67 hi0 hz0 hz1 hz2 rfl x28 L.length (VCs L) o28 x30 1 (VCs [(x, s, true)]) (r30.src 67 87 Try.underlying67) (by simp only [maxLen, HN.out]; omega) (by rw [HN.out]; omega) (Nat.le_trans L3.out.size hg.size)
            have b3 : Below w.heap.size w' w'' := below_of_grown w' o28 h3 (Nat.le_trans L3.out.size hg.size)
            have o31 : OwnV w'' w.heap.size 87 v' (putP L (x, s, true)) := by
              rw [putP_ok HF.out]
              unfold OwnV
              rw [List.length_append, VCs_append]
              exact h2
            have hb : Below w.heap.size w w'' := (L3.out.trans (hg.mono L3.out.size)).trans b3
            have s0 : a'.tmps.size = 32 := hsz
            have e31 : (a'.put (some 31) v').eval (.tmp 31) = v' := eval_put_same (by omega)
            have e4 : (((a'.put (some 31) v').put (some 4) v').put (some 5) (.bool true)).eval (.tmp 4) = v' := by
              rw [eval_put_other (by simp), eval_put_same (by rw [put_size]; omega)]
            have e5 : (((a'.put (some 31) v').put (some 4) v').put (some 5) (.bool true)).eval (.tmp 5) = .bool true := eval_put_same (by rw [put_size, put_size]; omega)
            have d0 : (((a'.put (some 31) v').put (some 4) v').put (some 5) (.bool true)).defers = [] := by rw [put_defers', put_defers', put_defers']; exact hdf
            refine ⟨rfl, ?_⟩
            unfold Oper.wp execOp
            simp only [resolve, invoke, builtin, Sem.run_bind, Sem.run_pure, Result.andThen_ok, List.map_toArray, List.map_cons, List.map_nil, e28, e30, hr]
            refine ⟨v', rfl, rfl, ?_⟩
            unfold Oper.wp execOp
            simp only [Sem.run_pure, e31]
            refine ⟨v', rfl, rfl, ?_⟩
            refine ⟨.bool true, rfl, ?_⟩
            clear hk hall hsz hdf hr e31 e28 e30
            show Exit.then _ _ Exit.normal (((a'.put (some 31) v').put (some 4) v').put (some 5) (.bool true)) w''
            generalize ((a'.put (some 31) v').put (some 4) v').put (some 5) (.bool true) = af at e4 e5 d0 ⊢
            go_wp2_with fail
            refine bodyPost_ret (v := .tuple #[v', .bool true]) ?_ d0 ⟨v', by rw [HF.out], o31.rd, hb⟩
            rw [results_tmp2 (show Try.f59.results = #[.tmp 4, .tmp 5] from rfl)]
            have e4' : af.tmps.getD 4 undef = v' := e4
            have e5' : af.tmps.getD 5 undef = .bool true := e5
            rw [e4', e5']
#print axioms kput_any
end Go.Proofs.Ytgaoionnfkbhaaa
