/-
  Texts that ride together: BfG BfH.
-/
import Derived.Test.YtcicekggeampcaaGreatGQ
import Derived.Test.YtcicekggeampcaaGreatGBa
import Derived.Lib.QuietBelow
/-
  merge: what its closure tells.
-/
namespace Go.Proofs.YtcicekggeampcaaGreat
open Go.RowKit Go.Shelf
theorem pv_no {ps : List Nat} {i : Nat} (h : i ∉ ps) (j : Nat) : ¬ ps[j]? = some i := fun e => h (List.mem_of_getElem? e)
theorem pv_at {ps : List Nat} {i m j : Nat} (hn : ps.Nodup) (hm : ps[m]? = some i) (hj : ps[j]? = some i) : j = m := (List.getElem?_inj (List.getElem?_eq_some_iff.1 hj).1 hn).1 (hj.trans hm.symm)
theorem wp_same {P : Program} {o : Oper} {a : Act} {w : World} {C : World → Prop} {Q : Exit → Act → World → Prop} (v : Value) (hrun : (execOp a.eval o).run P w = .ok (.value v) w) (hC : C w) : o.wp P a w (fun a' w' => a' = a.put o.dst v ∧ C w') Q := by
  unfold Oper.wp
  rw [hrun]
  exact ⟨rfl, hC⟩
theorem wp_sameRow {P : Program} {o : Oper} {a : Act} {w : World} {C : World → Prop} {Q : Exit → Act → World → Prop} (ty : TypeId) (x : Operand) (ho : o.op = .load ty x) (b off : Nat) (hx : a.eval x = .pointer (some ⟨b, off, none⟩))
    (cs : List Value) (d : TypeDesc) (hc : w.rangeAt b off cs) (hu : P.underlying ty = some d) (hd : d.isRow = true) (hi : (P.info? ty).map (·.size) = some cs.length) (hC : C w) : o.wp P a w (fun a' w' => a' = a.put o.dst (.agg cs.toArray) ∧ C w') Q := by
  refine wp_same _ ?_ hC
  simp only [execOp, ho, hx, Instr.loadAt, Instr.sureAddr, Sem.run_bind, Sem.run_pure, Result.andThen_ok, run_loadVar_mid w b off ty cs d hc hu hd hi]
theorem row_key {w : World} {b off n c : Nat} {p : Pr} {l : List Pr} (h : RdG PE w (.slice (some ⟨b, off, none⟩) n c) (p :: l)) (hn : 0 < n) : w.cell? ⟨b, off, none⟩ = some (.string p.1) := by
  obtain ⟨b0, o0, hab, hbw, hx⟩ := h.nth hn
  simp only [Option.some.injEq, Addr.mk.injEq, and_true] at hab
  obtain ⟨rfl, rfl⟩ := hab
  have := (hx 0 (by simp)) 0 _ rfl
  simpa using this
/-- The two lists that a merge still has, in its variables. -/
def Ms (w : World) (B1 B2 N : Nat) (l r : List Pr) : Prop :=
  ∃ v u, Blk w B1 35 [v] ∧ Blk w B2 35 [u] ∧ RdG PE w v l ∧ RdG PE w u r ∧ (∀ b, InB v b → b < N ∧ b ≠ B1 ∧ b ≠ B2) ∧ (∀ b, InB u b → b < N ∧ b ≠ B1 ∧ b ≠ B2)
theorem Ms.chg {w w' : World} {B1 B2 N : Nat} {l r : List Pr} (h : Ms w B1 B2 N l r) {F : Nat → Prop} (hc : Chg F w w') (h1 : ¬ F B1) (h2 : ¬ F B2) (hN : ∀ k, F k → ¬ k < N) : Ms w' B1 B2 N l r := by
  obtain ⟨v, u, g1, g2, g3, g4, g5, g6⟩ := h
  exact ⟨v, u, g1.chg hc h1, g2.chg hc h2, g3.chg hc (fun b hb hf => hN b hf (g5 b hb).1), g4.chg hc (fun b hb hf => hN b hf (g6 b hb).1), g5, g6⟩
theorem inB_tail {b off cap m c b' : Nat} {a2 : Option Addr} (ha : a2 = if cap = 1 then some ⟨b, off, none⟩ else (some (⟨b, off, none⟩ : Addr)).map (·.add (1 * PE.n))) (h : InB (.slice a2 m c) b') : b' = b := by
  obtain ⟨off2, n2, c2, e, h0⟩ := h
  simp only [Value.slice.injEq] at e
  obtain ⟨e1, rfl, rfl⟩ := e
  rw [e1] at ha
  by_cases hc : cap = 1
  · rw [if_pos hc] at ha
    simp only [Option.some.injEq, Addr.mk.injEq] at ha
    exact ha.1
  · rw [if_neg hc, Option.map_some, Addr.add_mid] at ha
    simp only [Option.some.injEq, Addr.mk.injEq] at ha
    exact ha.1
theorem nxt_cons (p q : Pr) (l r : List Pr) : nxt (p :: l) (q :: r) = if lt p.1 q.1 = true then some (p, l, q :: r) else if p.1 = q.1 then some (q, l, r) else some (q, p :: l, r) := rfl
set_option maxHeartbeats 4000000 in
set_option maxRecDepth 100000 in
theorem next_any {w : World} {B1 B2 N : Nat} {l r : List Pr} (h : Ms w B1 B2 N l r) (hne : B1 ≠ B2) (hNw : N ≤ w.heap.size) :
    Calls Tryz.prog 105 #[PT B1, PT B2] w fun e w' => ∃ q ok l' r', e = .returned (.tuple #[.agg (PC q).toArray, .bool ok]) ∧ Ms w' B1 B2 N l' r' ∧ Chg (fun b => b = B1 ∨ b = B2) w w' ∧ ((ok = false ∧ nxt l r = none ∧ l' = l ∧ r' = r) ∨ (ok = true ∧ nxt l r = some (q, l', r'))) := by
  have hz := Zpair
  have hbd : ∀ W, (Instr.build 51 #[]).run Tryz.prog W = .ok (.agg (PC zp).toArray) W := fun W => by kernel_rfl
  obtain ⟨v, u, g1, g2, g3, g4, g5, g6⟩ := h
  obtain ⟨a, c, rfl⟩ := g3.slice
  obtain ⟨a', c', rfl⟩ := g4.slice
  obtain ⟨N2, HNw⟩ : ∃ N, Hid (w.heap.size = N) := ⟨_, rfl⟩
  have hB1 : B1 < N2 := by rw [← HNw.out]; exact g1.lt
  have hB2 : B2 < N2 := by rw [← HNw.out]; exact g2.lt
  have hNN : N ≤ N2 := by rw [← HNw.out]; exact hNw
  have G1 := hide g1
  have G2 := hide g2
  have G3 := hide g3
  have G4 := hide g4
  have S1 := hide g5
  have S2 := hide g6
  obtain ⟨n, HLn⟩ : ∃ n, Hid (l.length = n) := ⟨_, rfl⟩
  obtain ⟨n', HLn'⟩ : ∃ n, Hid (r.length = n) := ⟨_, rfl⟩
  rw [HLn.out] at G1 G3 S1
  rw [HLn'.out] at G2 G4 S2
  clear g1 g2 g3 g4 g5 g6 hNw
  go_enter Tryz.func105, Tryz.ntmps105
  go_upto_region 1 with fail
  obtain ⟨w1, hw1⟩ : ∃ y, y = w.alloc (.cells #[.string ⟨#[]⟩, .string ⟨#[]⟩, .bool false] 51 (0, 0)) := ⟨_, rfl⟩
  rw [← hw1, HNw.out]
  obtain ⟨b1, hb1⟩ := room_pair HNw hw1
  have BP1 := hide b1
  have K11 := hide (G1.out.kept hb1)
  have K21 := hide (G2.out.kept hb1)
  have R11 := hide (G3.out.kept hb1)
  have R21 := hide (G4.out.kept hb1)
  have L1 : Hid (Chg (fun b => b = B1 ∨ b = B2) w w1) := (show Chg _ _ _ from Chg.of_below hb1)
  have LB := hide hb1
  have c1 := K11.out.cell (j := 0) rfl
  have c2 := K21.out.cell (j := 0) rfl
  clear hw1 b1 hb1 G1 G2 G3 G4
  cases l with
  | nil =>
    obtain rfl : n = 0 := HLn.out.symm
    cases r with
    | nil =>
      obtain rfl : n' = 0 := HLn'.out.symm
      go_wp2_with (first
        | (refine wpList_store_blk rfl 51 _ _ rfl N2 (PC zp) (PC zp) 51 rfl rfl BP1.out rfl Tryz.size51 (PC_one zp) ?_; intro w5 hb5 hu5)
        | fail)
      refine bodyPost_ret (results_pair rfl _ _ N2 zp false 51 _ rfl rfl hb5 Tryz.underlying51 rfl Tryz.size51) rfl ?_
      have C5 : Chg (fun k => k = N2) w1 w5 := Chg.of_but hu5 rfl
      exact ⟨zp, false, [], [], rfl, ⟨_, _, K11.out.chg C5 (by omega), K21.out.chg C5 (by omega), R11.out.chg C5 (fun b hb => by have := S1.out b hb; omega), R21.out.chg C5 (fun b hb => by have := S2.out b hb; omega), S1.out, S2.out⟩, L1.out.then C5 (fun k hk h => by have := HNw.out; omega), .inl ⟨rfl, rfl, rfl, rfl⟩⟩
    | cons q r' =>
      have hn' : 0 < n' := by have := HLn'.out; simp at this; omega
      have q1 : ((n' : Int) == 0) = false := by simp; omega
      have HNX : Hid (nxt [] (q :: r') = some (q, [], r')) := (show _ = _ from rfl)
      go_upto_region 3 with fail
      have k1 := cell_regrown (K11.out.cell (j := 0) rfl)
      have k2 := cell_regrown (K21.out.cell (j := 0) rfl)
      refine wp_region_quiet_below Tryz.mixed (by kernel_rfl) ?_
      iterate 19 (go_big_quiet_step (fail))
      refine wpQuiet_nil ?_
      intro w2 hw3
      have D3 : Below w1.heap.size w1 w2 := (by obtain ⟨⟨dq, osq⟩, rfl⟩ := hw3; exact below_regrown w1 dq osq)
      have K12 := hide (K11.out.kept D3)
      have K22 := hide (K21.out.kept D3)
      have R12 := hide (R11.out.kept D3)
      have R22 := hide (R21.out.kept D3)
      have BP2 := hide (BP1.out.kept D3)
      have L2 : Hid (Chg (fun b => b = B1 ∨ b = B2) w w2) := (show _ from L1.out.trans (Chg.of_below D3))
      clear hw3 D3
      clear k1 k2 c1 c2
      go_upto_region 6 with fail
      have k1 := cell_regrown (K12.out.cell (j := 0) rfl)
      have k2 := cell_regrown (K22.out.cell (j := 0) rfl)
      refine wp_region_quiet_below Tryz.mixed (by kernel_rfl) ?_
      iterate 14 (go_big_quiet_step (fail))
      refine wpQuiet_nil ?_
      intro w3 hw3
      have D3 : Below w2.heap.size w2 w3 := (by obtain ⟨⟨dq, osq⟩, rfl⟩ := hw3; exact below_regrown w2 dq osq)
      have K13 := hide (K12.out.kept D3)
      have K23 := hide (K22.out.kept D3)
      have R13 := hide (R12.out.kept D3)
      have R23 := hide (R22.out.kept D3)
      have BP3 := hide (BP2.out.kept D3)
      have L3 : Hid (Chg (fun b => b = B1 ∨ b = B2) w w3) := (show _ from L2.out.trans (Chg.of_below D3))
      clear hw3 D3
      clear k1 k2
      go_upto_region 8 with fail
      have BP := BP3
      have BB := K23
      have BO := K13
      have RB := R23
      have RO := R13
      have LL := L3
      obtain ⟨bb, off, hab, hbw, hx⟩ := RB.out.nth (by omega)
      subst hab
      have hrow : w3.rangeAt bb off (PC q) := by have hx0 : w3.rangeAt bb (off + 0 * 3) (PC q) := hx 0 (by simp); simpa using hx0
      clear hx
      obtain ⟨hbN, hb1, hb2⟩ := S2.out bb ⟨off, n', c', rfl, by omega⟩
      obtain ⟨a2, hs2', ha2, hr2⟩ := slice_G (E := PE) (P := Tryz.prog) (t := 35) (e := 51) Tryz.underlying35 Tryz.size51 (some ⟨bb, off, none⟩) n' c' 1 (by omega) RB.out.cap
      have HR2 := hide (hr2 w3 _ RB.out)
      rw [show List.drop 1 (q :: r') = r' from rfl] at HR2
      obtain ⟨m2, hm2⟩ : ∃ m, n' - 1 = m := ⟨_, rfl⟩
      obtain ⟨c2, hc2⟩ : ∃ m, c' - 1 = m := ⟨_, rfl⟩
      rw [hm2, hc2] at hs2' HR2
      have hs2 : ∀ W : World, (Instr.sliceAt 35 (.slice (some ⟨bb, off, none⟩) n' c') (some (.int .i64 1)) none none).run Tryz.prog W = .ok (.slice a2 m2 c2) W := hs2'
      have HI2 : Hid (∀ b, InB (.slice a2 m2 c2) b → b = bb) := (show _ from fun b hb => inB_tail ha2 hb)
      clear hs2' ha2 hr2 hm2 hc2
      refine pivots_by (jl_wp Tryz.mixed) (fun i_ => match i_ with | 0 | 3 => .slice (some ⟨bb, off, none⟩) n' c' | 1 => .pointer (some ⟨bb, off, none⟩) | 2 => .agg (PC q).toArray | 4 => .slice a2 m2 c2 | 5 => undef | _ => undef) (fun b_ w' => Blk w' N2 51 (PC (if b_ = 1 then q else zp)) ∧ Blk w' B2 35 [.slice (some ⟨bb, off, none⟩) n' c'] ∧ Chg (fun k => k = N2) w3 w') [5] 60 rfl (by decide +kernel) 6 (by decide) (by decide) (by decide) (by decide +kernel) (by decide +kernel) ?_ ?_ ?_
      · intro w' hh hg
        exact ⟨by simpa using BP.out.kept hg, BB.out.kept hg, Chg.of_below hg⟩
      · refine AllFrom.cons ⟨rfl, ?_, ?_⟩ (AllFrom.cons ⟨rfl, ?_, ?_⟩ (AllFrom.cons ⟨rfl, ?_, ?_⟩ (AllFrom.cons ⟨rfl, ?_, ?_⟩ (AllFrom.cons ⟨rfl, ?_, ?_⟩ (AllFrom.cons ⟨rfl, ?_, ?_⟩ AllFrom.nil)))))
        · intro _ a' b' w' hC hk hd Q
          have e1 : a'.eval (.tmp 1) = .pointer (some ⟨B2, 0, none⟩) := hk.at 1 (by decide +kernel)
          exact wp_same _ (by have hc := hC.2.1.cell (j := 0) rfl; clear hd hk hC; simp only [execOp, e1]; go_simp) hC
        · intro j hj; exact absurd hj (pv_no (by decide) _)
        · intro _ a' b' w' hC hk hd Q
          have e54 : a'.eval (.tmp 54) = .slice (some ⟨bb, off, none⟩) n' c' := hd 0 54 (by decide +kernel)
          exact wp_same _ (by clear hd hk hC; simp only [execOp, e54]; go_simp) hC
        · intro j hj; exact absurd hj (pv_no (by decide) _)
        · intro _ a' b' w' hC hk hd Q
          have e55 : a'.eval (.tmp 55) = .pointer (some ⟨bb, off, none⟩) := hd 1 55 (by decide +kernel)
          exact wp_sameRow 51 _ rfl _ _ e55 (PC q) _ (fun j u hj => (hC.2.2.cellAt hbw (by omega)).trans (hrow j u hj)) Tryz.underlying51 rfl Tryz.size51 hC
        · intro j hj; exact absurd hj (pv_no (by decide) _)
        · intro _ a' b' w' hC hk hd Q
          have e1 : a'.eval (.tmp 1) = .pointer (some ⟨B2, 0, none⟩) := hk.at 1 (by decide +kernel)
          exact wp_same _ (by have hc := hC.2.1.cell (j := 0) rfl; clear hd hk hC; simp only [execOp, e1]; go_simp) hC
        · intro j hj; exact absurd hj (pv_no (by decide) _)
        · intro _ a' b' w' hC hk hd Q
          have e57 : a'.eval (.tmp 57) = .slice (some ⟨bb, off, none⟩) n' c' := hd 3 57 (by decide +kernel)
          exact wp_same _ (by clear hd hk hC; simp only [execOp, e57, hs2, show a'.eval (.const (.int .i64 1)) = .int .i64 1 from rfl, Option.map_none, Option.map_some, Sem.run_bind, Sem.run_pure, Result.andThen_ok]) hC
        · intro j hj; exact absurd hj (pv_no (by decide) _)
        · intro h; exact absurd (by decide) h
        · intro j hj
          obtain rfl : j = 0 := pv_at (by decide) rfl hj
          refine ⟨rfl, fun a' w' hC hk hd Q => ?_⟩
          have e2 : a'.eval (.tmp 2) = .pointer (some ⟨N2, 0, none⟩) := hk.at 2 (by decide +kernel)
          have e56 : a'.eval (.tmp 56) = .agg (PC q).toArray := hd 2 56 (by decide +kernel)
          obtain ⟨hC1, hC3, hC2⟩ := hC
          simp only [Nat.zero_ne_one, if_false] at hC1
          refine wp_store_blk 51 _ _ rfl N2 (PC zp) (PC q) 51 e2 e56 hC1 rfl Tryz.size51 (PC_one _) ?_
          intro w4 hb4 hu4
          exact ⟨rfl, by simpa using hb4, hC3.but hu4 (by omega), hC2.trans (Chg.of_but hu4 rfl)⟩
      · intro a' w8 hsz hdf hk hall hC
        obtain ⟨hC1, hC3, hC2⟩ := hC
        simp only [List.length_singleton, if_true] at hC1
        have e54 : a'.eval (.tmp 54) = .slice (some ⟨bb, off, none⟩) n' c' := hall 0 _ 54 (by decide) rfl rfl
        have e55 : a'.eval (.tmp 55) = .pointer (some ⟨bb, off, none⟩) := hall 1 _ 55 (by decide) rfl rfl
        have e56 : a'.eval (.tmp 56) = .agg (PC q).toArray := hall 2 _ 56 (by decide) rfl rfl
        have e57 : a'.eval (.tmp 57) = .slice (some ⟨bb, off, none⟩) n' c' := hall 3 _ 57 (by decide) rfl rfl
        have e58 : a'.eval (.tmp 58) = .slice a2 m2 c2 := hall 4 _ 58 (by decide) rfl rfl
        have e1 : a'.eval (.tmp 1) = .pointer (some ⟨B2, 0, none⟩) := (hk.all.at 1 (by decide +kernel))
        refine ⟨rfl, ?_⟩
        refine wp_store_ps (.tmp 1) (.tmp 58) rfl B2 35 (.slice (some ⟨bb, off, none⟩) n' c') a2 m2 c2 e1 e58 hC3 ?_
        intro w5 hb5 hu5
        refine ⟨_, rfl, ?_⟩
        have ha := act_puts 60 rfl hsz hdf hk.all [54, 55, 56, 57, 58] (by decide +kernel)
        simp only [puts, List.foldl_cons, List.foldl_nil, e54, e55, e56, e57, e58] at ha
        simp only [Act.put, List.setIfInBounds_toArray, List.set_cons_succ, List.set_cons_zero] at ha
        show Exit.then _ _ Exit.normal { tmps := a'.tmps, defers := a'.defers } w5
        subst ha
        have BP5 := hide (hC1.but hu5 (by omega))
        have BB5 := hide hb5
        have C5 : Hid (Chg (fun k => k = N2 ∨ k = B2) w3 w5) := (show _ from (hC2.mono (fun i _ h => .inl h)).trans (Chg.of_but hu5 (.inr rfl)))
        clear hall hk hsz hdf hC1 hC2 hC3 hb5 hu5 e54 e55 e56 e57 e58
        have rp := BP5.out.range0
        go_wp2_with (first
          | (refine wpList_load_mid rfl 51 _ rfl N2 0 rfl (PC q) _ rp Tryz.underlying51 rfl Tryz.size51 ?_)
          | (refine wpList_store_blk rfl 51 _ _ rfl N2 (PC q) (PC q) 51 rfl rfl BP5.out rfl Tryz.size51 (PC_one _) ?_; intro w6 hb6 hu6)
          | fail)
        refine bodyPost_ret (results_pair rfl _ _ N2 q true 51 _ rfl rfl hb6 Tryz.underlying51 rfl Tryz.size51) rfl ?_
        have C6 : Chg (fun k => k = N2 ∨ k = B2) w3 w6 := C5.out.trans (Chg.of_but hu6 (.inl rfl))
        have hms : Ms w6 B1 B2 N [] r' := ⟨_, _, BO.out.chg C6 (by omega), BB5.out.but hu6 (by omega), RO.out.chg C6 (fun b hb => by have := S1.out b hb; omega), HR2.out.chg C6 (fun b hb => by have := HI2.out b hb; omega), S1.out, fun b hb => by rw [HI2.out b hb]; exact ⟨hbN, hb1, hb2⟩⟩
        exact ⟨q, true, _, _, rfl, hms, LL.out.then C6 (fun k hk h => by have := HNw.out; rcases h with h | h <;> omega), .inr ⟨rfl, HNX.out⟩⟩
  | cons p l' =>
    have hn : 0 < n := by have := HLn.out; simp at this; omega
    have q0 : ((n : Int) == 0) = false := by simp; omega
    have q0' : decide (0 < (n : Int)) = true := by simp; omega
    have q0'' : (0 : Int) < (n : Int) := by omega
    cases r with
    | nil =>
      obtain rfl : n' = 0 := HLn'.out.symm
      have HNX : Hid (nxt (p :: l') [] = some (p, l', [])) := (show _ = _ from rfl)
      go_upto_region 3 with fail
      have k1 := cell_regrown (K11.out.cell (j := 0) rfl)
      have k2 := cell_regrown (K21.out.cell (j := 0) rfl)
      refine wp_region_quiet_below Tryz.mixed (by kernel_rfl) ?_
      iterate 19 (go_big_quiet_step (fail))
      refine wpQuiet_nil ?_
      intro w2 hw3
      have D3 : Below w1.heap.size w1 w2 := (by obtain ⟨⟨dq, osq⟩, rfl⟩ := hw3; exact below_regrown w1 dq osq)
      have K12 := hide (K11.out.kept D3)
      have K22 := hide (K21.out.kept D3)
      have R12 := hide (R11.out.kept D3)
      have R22 := hide (R21.out.kept D3)
      have BP2 := hide (BP1.out.kept D3)
      have L2 : Hid (Chg (fun b => b = B1 ∨ b = B2) w w2) := (show _ from L1.out.trans (Chg.of_below D3))
      clear hw3 D3
      clear k1 k2 c1 c2
      go_upto_region 4 with fail
      have BP := BP2
      have BB := K12
      have BO := K22
      have RB := R12
      have RO := R22
      have LL := L2
      obtain ⟨bb, off, hab, hbw, hx⟩ := RB.out.nth (by omega)
      subst hab
      have hrow : w2.rangeAt bb off (PC p) := by have hx0 : w2.rangeAt bb (off + 0 * 3) (PC p) := hx 0 (by simp); simpa using hx0
      clear hx
      obtain ⟨hbN, hb1, hb2⟩ := S1.out bb ⟨off, n, c, rfl, by omega⟩
      obtain ⟨a2, hs2', ha2, hr2⟩ := slice_G (E := PE) (P := Tryz.prog) (t := 35) (e := 51) Tryz.underlying35 Tryz.size51 (some ⟨bb, off, none⟩) n c 1 (by omega) RB.out.cap
      have HR2 := hide (hr2 w2 _ RB.out)
      rw [show List.drop 1 (p :: l') = l' from rfl] at HR2
      obtain ⟨m2, hm2⟩ : ∃ m, n - 1 = m := ⟨_, rfl⟩
      obtain ⟨c2, hc2⟩ : ∃ m, c - 1 = m := ⟨_, rfl⟩
      rw [hm2, hc2] at hs2' HR2
      have hs2 : ∀ W : World, (Instr.sliceAt 35 (.slice (some ⟨bb, off, none⟩) n c) (some (.int .i64 1)) none none).run Tryz.prog W = .ok (.slice a2 m2 c2) W := hs2'
      have HI2 : Hid (∀ b, InB (.slice a2 m2 c2) b → b = bb) := (show _ from fun b hb => inB_tail ha2 hb)
      clear hs2' ha2 hr2 hm2 hc2
      refine pivots_by (jl_wp Tryz.mixed) (fun i_ => match i_ with | 0 | 3 => .slice (some ⟨bb, off, none⟩) n c | 1 => .pointer (some ⟨bb, off, none⟩) | 2 => .agg (PC p).toArray | 4 => .slice a2 m2 c2 | 5 => undef | _ => undef) (fun b_ w' => Blk w' N2 51 (PC (if b_ = 1 then p else zp)) ∧ Blk w' B1 35 [.slice (some ⟨bb, off, none⟩) n c] ∧ Chg (fun k => k = N2) w2 w') [5] 60 rfl (by decide +kernel) 6 (by decide) (by decide) (by decide) (by decide +kernel) (by decide +kernel) ?_ ?_ ?_
      · intro w' hh hg
        exact ⟨by simpa using BP.out.kept hg, BB.out.kept hg, Chg.of_below hg⟩
      · refine AllFrom.cons ⟨rfl, ?_, ?_⟩ (AllFrom.cons ⟨rfl, ?_, ?_⟩ (AllFrom.cons ⟨rfl, ?_, ?_⟩ (AllFrom.cons ⟨rfl, ?_, ?_⟩ (AllFrom.cons ⟨rfl, ?_, ?_⟩ (AllFrom.cons ⟨rfl, ?_, ?_⟩ AllFrom.nil)))))
        · intro _ a' b' w' hC hk hd Q
          have e0 : a'.eval (.tmp 0) = .pointer (some ⟨B1, 0, none⟩) := hk.at 0 (by decide +kernel)
          exact wp_same _ (by have hc := hC.2.1.cell (j := 0) rfl; clear hd hk hC; simp only [execOp, e0]; go_simp) hC
        · intro j hj; exact absurd hj (pv_no (by decide) _)
        · intro _ a' b' w' hC hk hd Q
          have e32 : a'.eval (.tmp 32) = .slice (some ⟨bb, off, none⟩) n c := hd 0 32 (by decide +kernel)
          exact wp_same _ (by clear hd hk hC; simp only [execOp, e32]; go_simp) hC
        · intro j hj; exact absurd hj (pv_no (by decide) _)
        · intro _ a' b' w' hC hk hd Q
          have e33 : a'.eval (.tmp 33) = .pointer (some ⟨bb, off, none⟩) := hd 1 33 (by decide +kernel)
          exact wp_sameRow 51 _ rfl _ _ e33 (PC p) _ (fun j u hj => (hC.2.2.cellAt hbw (by omega)).trans (hrow j u hj)) Tryz.underlying51 rfl Tryz.size51 hC
        · intro j hj; exact absurd hj (pv_no (by decide) _)
        · intro _ a' b' w' hC hk hd Q
          have e0 : a'.eval (.tmp 0) = .pointer (some ⟨B1, 0, none⟩) := hk.at 0 (by decide +kernel)
          exact wp_same _ (by have hc := hC.2.1.cell (j := 0) rfl; clear hd hk hC; simp only [execOp, e0]; go_simp) hC
        · intro j hj; exact absurd hj (pv_no (by decide) _)
        · intro _ a' b' w' hC hk hd Q
          have e35 : a'.eval (.tmp 35) = .slice (some ⟨bb, off, none⟩) n c := hd 3 35 (by decide +kernel)
          exact wp_same _ (by clear hd hk hC; simp only [execOp, e35, hs2, show a'.eval (.const (.int .i64 1)) = .int .i64 1 from rfl, Option.map_none, Option.map_some, Sem.run_bind, Sem.run_pure, Result.andThen_ok]) hC
        · intro j hj; exact absurd hj (pv_no (by decide) _)
        · intro h; exact absurd (by decide) h
        · intro j hj
          obtain rfl : j = 0 := pv_at (by decide) rfl hj
          refine ⟨rfl, fun a' w' hC hk hd Q => ?_⟩
          have e2 : a'.eval (.tmp 2) = .pointer (some ⟨N2, 0, none⟩) := hk.at 2 (by decide +kernel)
          have e34 : a'.eval (.tmp 34) = .agg (PC p).toArray := hd 2 34 (by decide +kernel)
          obtain ⟨hC1, hC3, hC2⟩ := hC
          simp only [Nat.zero_ne_one, if_false] at hC1
          refine wp_store_blk 51 _ _ rfl N2 (PC zp) (PC p) 51 e2 e34 hC1 rfl Tryz.size51 (PC_one _) ?_
          intro w4 hb4 hu4
          exact ⟨rfl, by simpa using hb4, hC3.but hu4 (by omega), hC2.trans (Chg.of_but hu4 rfl)⟩
      · intro a' w8 hsz hdf hk hall hC
        obtain ⟨hC1, hC3, hC2⟩ := hC
        simp only [List.length_singleton, if_true] at hC1
        have e32 : a'.eval (.tmp 32) = .slice (some ⟨bb, off, none⟩) n c := hall 0 _ 32 (by decide) rfl rfl
        have e33 : a'.eval (.tmp 33) = .pointer (some ⟨bb, off, none⟩) := hall 1 _ 33 (by decide) rfl rfl
        have e34 : a'.eval (.tmp 34) = .agg (PC p).toArray := hall 2 _ 34 (by decide) rfl rfl
        have e35 : a'.eval (.tmp 35) = .slice (some ⟨bb, off, none⟩) n c := hall 3 _ 35 (by decide) rfl rfl
        have e36 : a'.eval (.tmp 36) = .slice a2 m2 c2 := hall 4 _ 36 (by decide) rfl rfl
        have e0 : a'.eval (.tmp 0) = .pointer (some ⟨B1, 0, none⟩) := (hk.all.at 0 (by decide +kernel))
        refine ⟨rfl, ?_⟩
        refine wp_store_ps (.tmp 0) (.tmp 36) rfl B1 35 (.slice (some ⟨bb, off, none⟩) n c) a2 m2 c2 e0 e36 hC3 ?_
        intro w5 hb5 hu5
        refine ⟨_, rfl, ?_⟩
        have ha := act_puts 60 rfl hsz hdf hk.all [32, 33, 34, 35, 36] (by decide +kernel)
        simp only [puts, List.foldl_cons, List.foldl_nil, e32, e33, e34, e35, e36] at ha
        simp only [Act.put, List.setIfInBounds_toArray, List.set_cons_succ, List.set_cons_zero] at ha
        show Exit.then _ _ Exit.normal { tmps := a'.tmps, defers := a'.defers } w5
        subst ha
        have BP5 := hide (hC1.but hu5 (by omega))
        have BB5 := hide hb5
        have C5 : Hid (Chg (fun k => k = N2 ∨ k = B1) w2 w5) := (show _ from (hC2.mono (fun i _ h => .inl h)).trans (Chg.of_but hu5 (.inr rfl)))
        clear hall hk hsz hdf hC1 hC2 hC3 hb5 hu5 e32 e33 e34 e35 e36
        have rp := BP5.out.range0
        go_wp2_with (first
          | (refine wpList_load_mid rfl 51 _ rfl N2 0 rfl (PC p) _ rp Tryz.underlying51 rfl Tryz.size51 ?_)
          | (refine wpList_store_blk rfl 51 _ _ rfl N2 (PC p) (PC p) 51 rfl rfl BP5.out rfl Tryz.size51 (PC_one _) ?_; intro w6 hb6 hu6)
          | fail)
        refine bodyPost_ret (results_pair rfl _ _ N2 p true 51 _ rfl rfl hb6 Tryz.underlying51 rfl Tryz.size51) rfl ?_
        have C6 : Chg (fun k => k = N2 ∨ k = B1) w2 w6 := C5.out.trans (Chg.of_but hu6 (.inl rfl))
        have hms : Ms w6 B1 B2 N l' [] := ⟨_, _, BB5.out.but hu6 (by omega), BO.out.chg C6 (by omega), HR2.out.chg C6 (fun b hb => by have := HI2.out b hb; omega), RO.out.chg C6 (fun b hb => by have := S2.out b hb; omega), fun b hb => by rw [HI2.out b hb]; exact ⟨hbN, hb1, hb2⟩, S2.out⟩
        exact ⟨p, true, _, _, rfl, hms, LL.out.then C6 (fun k hk h => by have := HNw.out; rcases h with h | h <;> omega), .inr ⟨rfl, HNX.out⟩⟩
    | cons q r' =>
      have hn' : 0 < n' := by have := HLn'.out; simp at this; omega
      have q1 : ((n' : Int) == 0) = false := by simp; omega
      have q1'' : (0 : Int) < (n' : Int) := by omega
      obtain ⟨bp, op, habp, hbwp, hxp⟩ := R11.out.nth (by omega)
      have kp := cell_regrown (show w1.cell? ⟨bp, op, none⟩ = some (.string p.1) from by have := (hxp 0 (by simp)) 0 _ rfl; simpa using this)
      clear hxp hbwp
      subst habp
      obtain ⟨bq, oq, habq, hbwq, hxq⟩ := R21.out.nth (by omega)
      have kq := cell_regrown (show w1.cell? ⟨bq, oq, none⟩ = some (.string q.1) from by have := (hxq 0 (by simp)) 0 _ rfl; simpa using this)
      clear hxq hbwq
      subst habq
      obtain ⟨m, hm⟩ : ∃ m, Op.bytesLess p.1.toList q.1.toList = m := ⟨_, rfl⟩
      go_upto_region 3 with fail
      have k1 := cell_regrown (K11.out.cell (j := 0) rfl)
      have k2 := cell_regrown (K21.out.cell (j := 0) rfl)
      cases m with
      | true =>
        have HNX : Hid (nxt (p :: l') (q :: r') = some (p, l', q :: r')) := (show _ = _ by rw [nxt_cons, if_pos (show lt p.1 q.1 = true from hm)])
        refine wp_region_quiet_below Tryz.mixed (by kernel_rfl) ?_
        iterate 19 (go_big_quiet_step (fail))
        refine wpQuiet_nil ?_
        intro w2 hw3
        have D3 : Below w1.heap.size w1 w2 := (by obtain ⟨⟨dq, osq⟩, rfl⟩ := hw3; exact below_regrown w1 dq osq)
        have K12 := hide (K11.out.kept D3)
        have K22 := hide (K21.out.kept D3)
        have R12 := hide (R11.out.kept D3)
        have R22 := hide (R21.out.kept D3)
        have BP2 := hide (BP1.out.kept D3)
        have L2 : Hid (Chg (fun b => b = B1 ∨ b = B2) w w2) := (show _ from L1.out.trans (Chg.of_below D3))
        clear hw3 D3
        clear k1 k2 c1 c2 kp kq
        go_upto_region 4 with fail
        have BP := BP2
        have BB := K12
        have BO := K22
        have RB := R12
        have RO := R22
        have LL := L2
        obtain ⟨b0, o0, hab, hbw, hx⟩ := RB.out.nth (by omega)
        simp only [Option.some.injEq, Addr.mk.injEq, and_true] at hab
        obtain ⟨hab1, hab2⟩ := hab
        subst hab1
        subst hab2
        have hrow : w2.rangeAt bp op (PC p) := by have hx0 : w2.rangeAt bp (op + 0 * 3) (PC p) := hx 0 (by simp); simpa using hx0
        clear hx
        obtain ⟨hbN, hb1, hb2⟩ := S1.out bp ⟨op, n, c, rfl, by omega⟩
        obtain ⟨a2, hs2', ha2, hr2⟩ := slice_G (E := PE) (P := Tryz.prog) (t := 35) (e := 51) Tryz.underlying35 Tryz.size51 (some ⟨bp, op, none⟩) n c 1 (by omega) RB.out.cap
        have HR2 := hide (hr2 w2 _ RB.out)
        rw [show List.drop 1 (p :: l') = l' from rfl] at HR2
        obtain ⟨m2, hm2⟩ : ∃ m, n - 1 = m := ⟨_, rfl⟩
        obtain ⟨c2, hc2⟩ : ∃ m, c - 1 = m := ⟨_, rfl⟩
        rw [hm2, hc2] at hs2' HR2
        have hs2 : ∀ W : World, (Instr.sliceAt 35 (.slice (some ⟨bp, op, none⟩) n c) (some (.int .i64 1)) none none).run Tryz.prog W = .ok (.slice a2 m2 c2) W := hs2'
        have HI2 : Hid (∀ b, InB (.slice a2 m2 c2) b → b = bp) := (show _ from fun b hb => inB_tail ha2 hb)
        clear hs2' ha2 hr2 hm2 hc2
        refine pivots_by (jl_wp Tryz.mixed) (fun i_ => match i_ with | 0 | 3 => .slice (some ⟨bp, op, none⟩) n c | 1 => .pointer (some ⟨bp, op, none⟩) | 2 => .agg (PC p).toArray | 4 => .slice a2 m2 c2 | 5 => undef | _ => undef) (fun b_ w' => Blk w' N2 51 (PC (if b_ = 1 then p else zp)) ∧ Blk w' B1 35 [.slice (some ⟨bp, op, none⟩) n c] ∧ Chg (fun k => k = N2) w2 w') [5] 60 rfl (by decide +kernel) 6 (by decide) (by decide) (by decide) (by decide +kernel) (by decide +kernel) ?_ ?_ ?_
        · intro w' hh hg
          exact ⟨by simpa using BP.out.kept hg, BB.out.kept hg, Chg.of_below hg⟩
        · refine AllFrom.cons ⟨rfl, ?_, ?_⟩ (AllFrom.cons ⟨rfl, ?_, ?_⟩ (AllFrom.cons ⟨rfl, ?_, ?_⟩ (AllFrom.cons ⟨rfl, ?_, ?_⟩ (AllFrom.cons ⟨rfl, ?_, ?_⟩ (AllFrom.cons ⟨rfl, ?_, ?_⟩ AllFrom.nil)))))
          · intro _ a' b' w' hC hk hd Q
            have e0 : a'.eval (.tmp 0) = .pointer (some ⟨B1, 0, none⟩) := hk.at 0 (by decide +kernel)
            exact wp_same _ (by have hc := hC.2.1.cell (j := 0) rfl; clear hd hk hC; simp only [execOp, e0]; go_simp) hC
          · intro j hj; exact absurd hj (pv_no (by decide) _)
          · intro _ a' b' w' hC hk hd Q
            have e32 : a'.eval (.tmp 32) = .slice (some ⟨bp, op, none⟩) n c := hd 0 32 (by decide +kernel)
            exact wp_same _ (by clear hd hk hC; simp only [execOp, e32]; go_simp) hC
          · intro j hj; exact absurd hj (pv_no (by decide) _)
          · intro _ a' b' w' hC hk hd Q
            have e33 : a'.eval (.tmp 33) = .pointer (some ⟨bp, op, none⟩) := hd 1 33 (by decide +kernel)
            exact wp_sameRow 51 _ rfl _ _ e33 (PC p) _ (fun j u hj => (hC.2.2.cellAt hbw (by omega)).trans (hrow j u hj)) Tryz.underlying51 rfl Tryz.size51 hC
          · intro j hj; exact absurd hj (pv_no (by decide) _)
          · intro _ a' b' w' hC hk hd Q
            have e0 : a'.eval (.tmp 0) = .pointer (some ⟨B1, 0, none⟩) := hk.at 0 (by decide +kernel)
            exact wp_same _ (by have hc := hC.2.1.cell (j := 0) rfl; clear hd hk hC; simp only [execOp, e0]; go_simp) hC
          · intro j hj; exact absurd hj (pv_no (by decide) _)
          · intro _ a' b' w' hC hk hd Q
            have e35 : a'.eval (.tmp 35) = .slice (some ⟨bp, op, none⟩) n c := hd 3 35 (by decide +kernel)
            exact wp_same _ (by clear hd hk hC; simp only [execOp, e35, hs2, show a'.eval (.const (.int .i64 1)) = .int .i64 1 from rfl, Option.map_none, Option.map_some, Sem.run_bind, Sem.run_pure, Result.andThen_ok]) hC
          · intro j hj; exact absurd hj (pv_no (by decide) _)
          · intro h; exact absurd (by decide) h
          · intro j hj
            obtain rfl : j = 0 := pv_at (by decide) rfl hj
            refine ⟨rfl, fun a' w' hC hk hd Q => ?_⟩
            have e2 : a'.eval (.tmp 2) = .pointer (some ⟨N2, 0, none⟩) := hk.at 2 (by decide +kernel)
            have e34 : a'.eval (.tmp 34) = .agg (PC p).toArray := hd 2 34 (by decide +kernel)
            obtain ⟨hC1, hC3, hC2⟩ := hC
            simp only [Nat.zero_ne_one, if_false] at hC1
            refine wp_store_blk 51 _ _ rfl N2 (PC zp) (PC p) 51 e2 e34 hC1 rfl Tryz.size51 (PC_one _) ?_
            intro w4 hb4 hu4
            exact ⟨rfl, by simpa using hb4, hC3.but hu4 (by omega), hC2.trans (Chg.of_but hu4 rfl)⟩
        · intro a' w8 hsz hdf hk hall hC
          obtain ⟨hC1, hC3, hC2⟩ := hC
          simp only [List.length_singleton, if_true] at hC1
          have e32 : a'.eval (.tmp 32) = .slice (some ⟨bp, op, none⟩) n c := hall 0 _ 32 (by decide) rfl rfl
          have e33 : a'.eval (.tmp 33) = .pointer (some ⟨bp, op, none⟩) := hall 1 _ 33 (by decide) rfl rfl
          have e34 : a'.eval (.tmp 34) = .agg (PC p).toArray := hall 2 _ 34 (by decide) rfl rfl
          have e35 : a'.eval (.tmp 35) = .slice (some ⟨bp, op, none⟩) n c := hall 3 _ 35 (by decide) rfl rfl
          have e36 : a'.eval (.tmp 36) = .slice a2 m2 c2 := hall 4 _ 36 (by decide) rfl rfl
          have e0 : a'.eval (.tmp 0) = .pointer (some ⟨B1, 0, none⟩) := (hk.all.at 0 (by decide +kernel))
          refine ⟨rfl, ?_⟩
          refine wp_store_ps (.tmp 0) (.tmp 36) rfl B1 35 (.slice (some ⟨bp, op, none⟩) n c) a2 m2 c2 e0 e36 hC3 ?_
          intro w5 hb5 hu5
          refine ⟨_, rfl, ?_⟩
          have ha := act_puts 60 rfl hsz hdf hk.all [32, 33, 34, 35, 36] (by decide +kernel)
          simp only [puts, List.foldl_cons, List.foldl_nil, e32, e33, e34, e35, e36] at ha
          simp only [Act.put, List.setIfInBounds_toArray, List.set_cons_succ, List.set_cons_zero] at ha
          show Exit.then _ _ Exit.normal { tmps := a'.tmps, defers := a'.defers } w5
          subst ha
          have BP5 := hide (hC1.but hu5 (by omega))
          have BB5 := hide hb5
          have C5 : Hid (Chg (fun k => k = N2 ∨ k = B1) w2 w5) := (show _ from (hC2.mono (fun i _ h => .inl h)).trans (Chg.of_but hu5 (.inr rfl)))
          clear hall hk hsz hdf hC1 hC2 hC3 hb5 hu5 e32 e33 e34 e35 e36
          have rp := BP5.out.range0
          go_wp2_with (first
            | (refine wpList_load_mid rfl 51 _ rfl N2 0 rfl (PC p) _ rp Tryz.underlying51 rfl Tryz.size51 ?_)
            | (refine wpList_store_blk rfl 51 _ _ rfl N2 (PC p) (PC p) 51 rfl rfl BP5.out rfl Tryz.size51 (PC_one _) ?_; intro w6 hb6 hu6)
            | fail)
          refine bodyPost_ret (results_pair rfl _ _ N2 p true 51 _ rfl rfl hb6 Tryz.underlying51 rfl Tryz.size51) rfl ?_
          have C6 : Chg (fun k => k = N2 ∨ k = B1) w2 w6 := C5.out.trans (Chg.of_but hu6 (.inl rfl))
          have hms : Ms w6 B1 B2 N l' (q :: r') := ⟨_, _, BB5.out.but hu6 (by omega), BO.out.chg C6 (by omega), HR2.out.chg C6 (fun b hb => by have := HI2.out b hb; omega), RO.out.chg C6 (fun b hb => by have := S2.out b hb; omega), fun b hb => by rw [HI2.out b hb]; exact ⟨hbN, hb1, hb2⟩, S2.out⟩
          exact ⟨p, true, _, _, rfl, hms, LL.out.then C6 (fun k hk h => by have := HNw.out; rcases h with h | h <;> omega), .inr ⟨rfl, HNX.out⟩⟩
      | false =>
        refine wp_region_quiet_below Tryz.mixed (by kernel_rfl) ?_
        iterate 19 (go_big_quiet_step (fail))
        refine wpQuiet_nil ?_
        intro w2 hw3
        have D3 : Below w1.heap.size w1 w2 := (by obtain ⟨⟨dq, osq⟩, rfl⟩ := hw3; exact below_regrown w1 dq osq)
        have K12 := hide (K11.out.kept D3)
        have K22 := hide (K21.out.kept D3)
        have R12 := hide (R11.out.kept D3)
        have R22 := hide (R21.out.kept D3)
        have BP2 := hide (BP1.out.kept D3)
        have L2 : Hid (Chg (fun b => b = B1 ∨ b = B2) w w2) := (show _ from L1.out.trans (Chg.of_below D3))
        clear hw3 D3
        clear k1 k2 c1 c2 kp kq
        have kp := cell_regrown (row_key R12.out (by omega))
        have kq := cell_regrown (row_key R22.out (by omega))
        obtain ⟨e9, he9⟩ : ∃ e, (p.1.toList == q.1.toList) = e := ⟨_, rfl⟩
        have hlt9 : ¬ lt p.1 q.1 = true := by unfold lt; rw [hm]; simp
        go_upto_region 6 with fail
        have k1 := cell_regrown (K12.out.cell (j := 0) rfl)
        have k2 := cell_regrown (K22.out.cell (j := 0) rfl)
        cases e9 with
        | true =>
          have heq : p.1 = q.1 := ba_inj.1 (by simpa using he9)
          have HNX : Hid (nxt (p :: l') (q :: r') = some (q, l', r')) := (show _ = _ by rw [nxt_cons, if_neg hlt9, if_pos heq])
          refine wp_region_quiet_below Tryz.mixed (by kernel_rfl) ?_
          iterate 14 (go_big_quiet_step (fail))
          refine wpQuiet_nil ?_
          intro w3 hw3
          have D3 : Below w2.heap.size w2 w3 := (by obtain ⟨⟨dq, osq⟩, rfl⟩ := hw3; exact below_regrown w2 dq osq)
          have K13 := hide (K12.out.kept D3)
          have K23 := hide (K22.out.kept D3)
          have R13 := hide (R12.out.kept D3)
          have R23 := hide (R22.out.kept D3)
          have BP3 := hide (BP2.out.kept D3)
          have L3 : Hid (Chg (fun b => b = B1 ∨ b = B2) w w3) := (show _ from L2.out.trans (Chg.of_below D3))
          clear hw3 D3
          clear k1 k2 kp kq heq hlt9
          obtain ⟨hbN, hb1, hb2⟩ := S1.out bp ⟨op, n, c, rfl, by omega⟩
          obtain ⟨a3, hs3', ha3, hr3⟩ := slice_G (E := PE) (P := Tryz.prog) (t := 35) (e := 51) Tryz.underlying35 Tryz.size51 (some ⟨bp, op, none⟩) n c 1 (by omega) R13.out.cap
          have HR3 := hide (hr3 w3 _ R13.out)
          rw [show List.drop 1 (p :: l') = l' from rfl] at HR3
          obtain ⟨m3, hm3⟩ : ∃ m, n - 1 = m := ⟨_, rfl⟩
          obtain ⟨c3, hc3⟩ : ∃ m, c - 1 = m := ⟨_, rfl⟩
          rw [hm3, hc3] at hs3' HR3
          have hs3 : ∀ W : World, (Instr.sliceAt 35 (.slice (some ⟨bp, op, none⟩) n c) (some (.int .i64 1)) none none).run Tryz.prog W = .ok (.slice a3 m3 c3) W := hs3'
          have HI3 : Hid (∀ b, InB (.slice a3 m3 c3) b → b = bp) := (show _ from fun b hb => inB_tail ha3 hb)
          clear hs3' ha3 hr3 hm3 hc3
          have c1 := K13.out.cell (j := 0) rfl
          go_upto_region 8 with (first
            | (refine wpList_store_ps rfl _ _ rfl B1 35 (.slice (some ⟨bp, op, none⟩) n c) a3 m3 c3 rfl rfl K13.out ?_; intro w4 hb4 hu4)
            | fail)
          have S14 : Hid (∀ b, InB (.slice a3 m3 c3) b → b < N ∧ b ≠ B1 ∧ b ≠ B2) := (show _ from fun b hb => by rw [HI3.out b hb]; exact ⟨hbN, hb1, hb2⟩)
          have C4 : Chg (fun k => k = B1) w3 w4 := Chg.of_but hu4 rfl
          have K14 := hide hb4
          have K24 := hide (K23.out.chg C4 (fun e => hne e.symm))
          have R14 := hide (HR3.out.chg C4 (fun b hb e => (S14.out b hb).2.1 e))
          have R24 := hide (R23.out.chg C4 (fun b hb e => (S2.out b hb).2.1 e))
          have BP4 := hide (BP3.out.chg C4 (by omega))
          have L4 : Hid (Chg (fun b => b = B1 ∨ b = B2) w w4) := (show _ from L3.out.trans (C4.mono (fun i _ h => .inl h)))
          clear S1 hbN hb1 hb2 hs3 HI3 HR3 hb4 hu4 C4 c1 q0 q0' q0'' hn
          have S1 := S14
          have BP := BP4
          have BB := K24
          have BO := K14
          have RB := R24
          have RO := R14
          have LL := L4
          obtain ⟨b0, o0, hab, hbw, hx⟩ := RB.out.nth (by omega)
          simp only [Option.some.injEq, Addr.mk.injEq, and_true] at hab
          obtain ⟨hab1, hab2⟩ := hab
          subst hab1
          subst hab2
          have hrow : w4.rangeAt bq oq (PC q) := by have hx0 : w4.rangeAt bq (oq + 0 * 3) (PC q) := hx 0 (by simp); simpa using hx0
          clear hx
          obtain ⟨hbN, hb1, hb2⟩ := S2.out bq ⟨oq, n', c', rfl, by omega⟩
          obtain ⟨a2, hs2', ha2, hr2⟩ := slice_G (E := PE) (P := Tryz.prog) (t := 35) (e := 51) Tryz.underlying35 Tryz.size51 (some ⟨bq, oq, none⟩) n' c' 1 (by omega) RB.out.cap
          have HR2 := hide (hr2 w4 _ RB.out)
          rw [show List.drop 1 (q :: r') = r' from rfl] at HR2
          obtain ⟨m2, hm2⟩ : ∃ m, n' - 1 = m := ⟨_, rfl⟩
          obtain ⟨c2, hc2⟩ : ∃ m, c' - 1 = m := ⟨_, rfl⟩
          rw [hm2, hc2] at hs2' HR2
          have hs2 : ∀ W : World, (Instr.sliceAt 35 (.slice (some ⟨bq, oq, none⟩) n' c') (some (.int .i64 1)) none none).run Tryz.prog W = .ok (.slice a2 m2 c2) W := hs2'
          have HI2 : Hid (∀ b, InB (.slice a2 m2 c2) b → b = bq) := (show _ from fun b hb => inB_tail ha2 hb)
          clear hs2' ha2 hr2 hm2 hc2
          refine pivots_by (jl_wp Tryz.mixed) (fun i_ => match i_ with | 0 | 3 => .slice (some ⟨bq, oq, none⟩) n' c' | 1 => .pointer (some ⟨bq, oq, none⟩) | 2 => .agg (PC q).toArray | 4 => .slice a2 m2 c2 | 5 => undef | _ => undef) (fun b_ w' => Blk w' N2 51 (PC (if b_ = 1 then q else zp)) ∧ Blk w' B2 35 [.slice (some ⟨bq, oq, none⟩) n' c'] ∧ Chg (fun k => k = N2) w4 w') [5] 60 rfl (by decide +kernel) 6 (by decide) (by decide) (by decide) (by decide +kernel) (by decide +kernel) ?_ ?_ ?_
          · intro w' hh hg
            exact ⟨by simpa using BP.out.kept hg, BB.out.kept hg, Chg.of_below hg⟩
          · refine AllFrom.cons ⟨rfl, ?_, ?_⟩ (AllFrom.cons ⟨rfl, ?_, ?_⟩ (AllFrom.cons ⟨rfl, ?_, ?_⟩ (AllFrom.cons ⟨rfl, ?_, ?_⟩ (AllFrom.cons ⟨rfl, ?_, ?_⟩ (AllFrom.cons ⟨rfl, ?_, ?_⟩ AllFrom.nil)))))
            · intro _ a' b' w' hC hk hd Q
              have e1 : a'.eval (.tmp 1) = .pointer (some ⟨B2, 0, none⟩) := hk.at 1 (by decide +kernel)
              exact wp_same _ (by have hc := hC.2.1.cell (j := 0) rfl; clear hd hk hC; simp only [execOp, e1]; go_simp) hC
            · intro j hj; exact absurd hj (pv_no (by decide) _)
            · intro _ a' b' w' hC hk hd Q
              have e54 : a'.eval (.tmp 54) = .slice (some ⟨bq, oq, none⟩) n' c' := hd 0 54 (by decide +kernel)
              exact wp_same _ (by clear hd hk hC; simp only [execOp, e54]; go_simp) hC
            · intro j hj; exact absurd hj (pv_no (by decide) _)
            · intro _ a' b' w' hC hk hd Q
              have e55 : a'.eval (.tmp 55) = .pointer (some ⟨bq, oq, none⟩) := hd 1 55 (by decide +kernel)
              exact wp_sameRow 51 _ rfl _ _ e55 (PC q) _ (fun j u hj => (hC.2.2.cellAt hbw (by omega)).trans (hrow j u hj)) Tryz.underlying51 rfl Tryz.size51 hC
            · intro j hj; exact absurd hj (pv_no (by decide) _)
            · intro _ a' b' w' hC hk hd Q
              have e1 : a'.eval (.tmp 1) = .pointer (some ⟨B2, 0, none⟩) := hk.at 1 (by decide +kernel)
              exact wp_same _ (by have hc := hC.2.1.cell (j := 0) rfl; clear hd hk hC; simp only [execOp, e1]; go_simp) hC
            · intro j hj; exact absurd hj (pv_no (by decide) _)
            · intro _ a' b' w' hC hk hd Q
              have e57 : a'.eval (.tmp 57) = .slice (some ⟨bq, oq, none⟩) n' c' := hd 3 57 (by decide +kernel)
              exact wp_same _ (by clear hd hk hC; simp only [execOp, e57, hs2, show a'.eval (.const (.int .i64 1)) = .int .i64 1 from rfl, Option.map_none, Option.map_some, Sem.run_bind, Sem.run_pure, Result.andThen_ok]) hC
            · intro j hj; exact absurd hj (pv_no (by decide) _)
            · intro h; exact absurd (by decide) h
            · intro j hj
              obtain rfl : j = 0 := pv_at (by decide) rfl hj
              refine ⟨rfl, fun a' w' hC hk hd Q => ?_⟩
              have e2 : a'.eval (.tmp 2) = .pointer (some ⟨N2, 0, none⟩) := hk.at 2 (by decide +kernel)
              have e56 : a'.eval (.tmp 56) = .agg (PC q).toArray := hd 2 56 (by decide +kernel)
              obtain ⟨hC1, hC3, hC2⟩ := hC
              simp only [Nat.zero_ne_one, if_false] at hC1
              refine wp_store_blk 51 _ _ rfl N2 (PC zp) (PC q) 51 e2 e56 hC1 rfl Tryz.size51 (PC_one _) ?_
              intro w4 hb4 hu4
              exact ⟨rfl, by simpa using hb4, hC3.but hu4 (by omega), hC2.trans (Chg.of_but hu4 rfl)⟩
          · intro a' w8 hsz hdf hk hall hC
            obtain ⟨hC1, hC3, hC2⟩ := hC
            simp only [List.length_singleton, if_true] at hC1
            have e54 : a'.eval (.tmp 54) = .slice (some ⟨bq, oq, none⟩) n' c' := hall 0 _ 54 (by decide) rfl rfl
            have e55 : a'.eval (.tmp 55) = .pointer (some ⟨bq, oq, none⟩) := hall 1 _ 55 (by decide) rfl rfl
            have e56 : a'.eval (.tmp 56) = .agg (PC q).toArray := hall 2 _ 56 (by decide) rfl rfl
            have e57 : a'.eval (.tmp 57) = .slice (some ⟨bq, oq, none⟩) n' c' := hall 3 _ 57 (by decide) rfl rfl
            have e58 : a'.eval (.tmp 58) = .slice a2 m2 c2 := hall 4 _ 58 (by decide) rfl rfl
            have e1 : a'.eval (.tmp 1) = .pointer (some ⟨B2, 0, none⟩) := (hk.all.at 1 (by decide +kernel))
            refine ⟨rfl, ?_⟩
            refine wp_store_ps (.tmp 1) (.tmp 58) rfl B2 35 (.slice (some ⟨bq, oq, none⟩) n' c') a2 m2 c2 e1 e58 hC3 ?_
            intro w5 hb5 hu5
            refine ⟨_, rfl, ?_⟩
            have ha := act_puts 60 rfl hsz hdf hk.all [54, 55, 56, 57, 58] (by decide +kernel)
            simp only [puts, List.foldl_cons, List.foldl_nil, e54, e55, e56, e57, e58] at ha
            simp only [Act.put, List.setIfInBounds_toArray, List.set_cons_succ, List.set_cons_zero] at ha
            show Exit.then _ _ Exit.normal { tmps := a'.tmps, defers := a'.defers } w5
            subst ha
            have BP5 := hide (hC1.but hu5 (by omega))
            have BB5 := hide hb5
            have C5 : Hid (Chg (fun k => k = N2 ∨ k = B2) w4 w5) := (show _ from (hC2.mono (fun i _ h => .inl h)).trans (Chg.of_but hu5 (.inr rfl)))
            clear hall hk hsz hdf hC1 hC2 hC3 hb5 hu5 e54 e55 e56 e57 e58
            have rp := BP5.out.range0
            go_wp2_with (first
              | (refine wpList_load_mid rfl 51 _ rfl N2 0 rfl (PC q) _ rp Tryz.underlying51 rfl Tryz.size51 ?_)
              | (refine wpList_store_blk rfl 51 _ _ rfl N2 (PC q) (PC q) 51 rfl rfl BP5.out rfl Tryz.size51 (PC_one _) ?_; intro w6 hb6 hu6)
              | fail)
            refine bodyPost_ret (results_pair rfl _ _ N2 q true 51 _ rfl rfl hb6 Tryz.underlying51 rfl Tryz.size51) rfl ?_
            have C6 : Chg (fun k => k = N2 ∨ k = B2) w4 w6 := C5.out.trans (Chg.of_but hu6 (.inl rfl))
            have hms : Ms w6 B1 B2 N l' r' := ⟨_, _, BO.out.chg C6 (by omega), BB5.out.but hu6 (by omega), RO.out.chg C6 (fun b hb => by have := S1.out b hb; omega), HR2.out.chg C6 (fun b hb => by have := HI2.out b hb; omega), S1.out, fun b hb => by rw [HI2.out b hb]; exact ⟨hbN, hb1, hb2⟩⟩
            exact ⟨q, true, _, _, rfl, hms, LL.out.then C6 (fun k hk h => by have := HNw.out; rcases h with h | h <;> omega), .inr ⟨rfl, HNX.out⟩⟩
        | false =>
          have heq : ¬ p.1 = q.1 := fun e => by rw [e] at he9; simp at he9
          have HNX : Hid (nxt (p :: l') (q :: r') = some (q, p :: l', r')) := (show _ = _ by rw [nxt_cons, if_neg hlt9, if_neg heq])
          refine wp_region_quiet_below Tryz.mixed (by kernel_rfl) ?_
          iterate 14 (go_big_quiet_step (fail))
          refine wpQuiet_nil ?_
          intro w3 hw3
          have D3 : Below w2.heap.size w2 w3 := (by obtain ⟨⟨dq, osq⟩, rfl⟩ := hw3; exact below_regrown w2 dq osq)
          have K13 := hide (K12.out.kept D3)
          have K23 := hide (K22.out.kept D3)
          have R13 := hide (R12.out.kept D3)
          have R23 := hide (R22.out.kept D3)
          have BP3 := hide (BP2.out.kept D3)
          have L3 : Hid (Chg (fun b => b = B1 ∨ b = B2) w w3) := (show _ from L2.out.trans (Chg.of_below D3))
          clear hw3 D3
          clear k1 k2 kp kq heq hlt9
          go_upto_region 8 with fail
          have BP := BP3
          have BB := K23
          have BO := K13
          have RB := R23
          have RO := R13
          have LL := L3
          obtain ⟨b0, o0, hab, hbw, hx⟩ := RB.out.nth (by omega)
          simp only [Option.some.injEq, Addr.mk.injEq, and_true] at hab
          obtain ⟨hab1, hab2⟩ := hab
          subst hab1
          subst hab2
          have hrow : w3.rangeAt bq oq (PC q) := by have hx0 : w3.rangeAt bq (oq + 0 * 3) (PC q) := hx 0 (by simp); simpa using hx0
          clear hx
          obtain ⟨hbN, hb1, hb2⟩ := S2.out bq ⟨oq, n', c', rfl, by omega⟩
          obtain ⟨a2, hs2', ha2, hr2⟩ := slice_G (E := PE) (P := Tryz.prog) (t := 35) (e := 51) Tryz.underlying35 Tryz.size51 (some ⟨bq, oq, none⟩) n' c' 1 (by omega) RB.out.cap
          have HR2 := hide (hr2 w3 _ RB.out)
          rw [show List.drop 1 (q :: r') = r' from rfl] at HR2
          obtain ⟨m2, hm2⟩ : ∃ m, n' - 1 = m := ⟨_, rfl⟩
          obtain ⟨c2, hc2⟩ : ∃ m, c' - 1 = m := ⟨_, rfl⟩
          rw [hm2, hc2] at hs2' HR2
          have hs2 : ∀ W : World, (Instr.sliceAt 35 (.slice (some ⟨bq, oq, none⟩) n' c') (some (.int .i64 1)) none none).run Tryz.prog W = .ok (.slice a2 m2 c2) W := hs2'
          have HI2 : Hid (∀ b, InB (.slice a2 m2 c2) b → b = bq) := (show _ from fun b hb => inB_tail ha2 hb)
          clear hs2' ha2 hr2 hm2 hc2
          refine pivots_by (jl_wp Tryz.mixed) (fun i_ => match i_ with | 0 | 3 => .slice (some ⟨bq, oq, none⟩) n' c' | 1 => .pointer (some ⟨bq, oq, none⟩) | 2 => .agg (PC q).toArray | 4 => .slice a2 m2 c2 | 5 => undef | _ => undef) (fun b_ w' => Blk w' N2 51 (PC (if b_ = 1 then q else zp)) ∧ Blk w' B2 35 [.slice (some ⟨bq, oq, none⟩) n' c'] ∧ Chg (fun k => k = N2) w3 w') [5] 60 rfl (by decide +kernel) 6 (by decide) (by decide) (by decide) (by decide +kernel) (by decide +kernel) ?_ ?_ ?_
          · intro w' hh hg
            exact ⟨by simpa using BP.out.kept hg, BB.out.kept hg, Chg.of_below hg⟩
          · refine AllFrom.cons ⟨rfl, ?_, ?_⟩ (AllFrom.cons ⟨rfl, ?_, ?_⟩ (AllFrom.cons ⟨rfl, ?_, ?_⟩ (AllFrom.cons ⟨rfl, ?_, ?_⟩ (AllFrom.cons ⟨rfl, ?_, ?_⟩ (AllFrom.cons ⟨rfl, ?_, ?_⟩ AllFrom.nil)))))
            · intro _ a' b' w' hC hk hd Q
              have e1 : a'.eval (.tmp 1) = .pointer (some ⟨B2, 0, none⟩) := hk.at 1 (by decide +kernel)
              exact wp_same _ (by have hc := hC.2.1.cell (j := 0) rfl; clear hd hk hC; simp only [execOp, e1]; go_simp) hC
            · intro j hj; exact absurd hj (pv_no (by decide) _)
            · intro _ a' b' w' hC hk hd Q
              have e54 : a'.eval (.tmp 54) = .slice (some ⟨bq, oq, none⟩) n' c' := hd 0 54 (by decide +kernel)
              exact wp_same _ (by clear hd hk hC; simp only [execOp, e54]; go_simp) hC
            · intro j hj; exact absurd hj (pv_no (by decide) _)
            · intro _ a' b' w' hC hk hd Q
              have e55 : a'.eval (.tmp 55) = .pointer (some ⟨bq, oq, none⟩) := hd 1 55 (by decide +kernel)
              exact wp_sameRow 51 _ rfl _ _ e55 (PC q) _ (fun j u hj => (hC.2.2.cellAt hbw (by omega)).trans (hrow j u hj)) Tryz.underlying51 rfl Tryz.size51 hC
            · intro j hj; exact absurd hj (pv_no (by decide) _)
            · intro _ a' b' w' hC hk hd Q
              have e1 : a'.eval (.tmp 1) = .pointer (some ⟨B2, 0, none⟩) := hk.at 1 (by decide +kernel)
              exact wp_same _ (by have hc := hC.2.1.cell (j := 0) rfl; clear hd hk hC; simp only [execOp, e1]; go_simp) hC
            · intro j hj; exact absurd hj (pv_no (by decide) _)
            · intro _ a' b' w' hC hk hd Q
              have e57 : a'.eval (.tmp 57) = .slice (some ⟨bq, oq, none⟩) n' c' := hd 3 57 (by decide +kernel)
              exact wp_same _ (by clear hd hk hC; simp only [execOp, e57, hs2, show a'.eval (.const (.int .i64 1)) = .int .i64 1 from rfl, Option.map_none, Option.map_some, Sem.run_bind, Sem.run_pure, Result.andThen_ok]) hC
            · intro j hj; exact absurd hj (pv_no (by decide) _)
            · intro h; exact absurd (by decide) h
            · intro j hj
              obtain rfl : j = 0 := pv_at (by decide) rfl hj
              refine ⟨rfl, fun a' w' hC hk hd Q => ?_⟩
              have e2 : a'.eval (.tmp 2) = .pointer (some ⟨N2, 0, none⟩) := hk.at 2 (by decide +kernel)
              have e56 : a'.eval (.tmp 56) = .agg (PC q).toArray := hd 2 56 (by decide +kernel)
              obtain ⟨hC1, hC3, hC2⟩ := hC
              simp only [Nat.zero_ne_one, if_false] at hC1
              refine wp_store_blk 51 _ _ rfl N2 (PC zp) (PC q) 51 e2 e56 hC1 rfl Tryz.size51 (PC_one _) ?_
              intro w4 hb4 hu4
              exact ⟨rfl, by simpa using hb4, hC3.but hu4 (by omega), hC2.trans (Chg.of_but hu4 rfl)⟩
          · intro a' w8 hsz hdf hk hall hC
            obtain ⟨hC1, hC3, hC2⟩ := hC
            simp only [List.length_singleton, if_true] at hC1
            have e54 : a'.eval (.tmp 54) = .slice (some ⟨bq, oq, none⟩) n' c' := hall 0 _ 54 (by decide) rfl rfl
            have e55 : a'.eval (.tmp 55) = .pointer (some ⟨bq, oq, none⟩) := hall 1 _ 55 (by decide) rfl rfl
            have e56 : a'.eval (.tmp 56) = .agg (PC q).toArray := hall 2 _ 56 (by decide) rfl rfl
            have e57 : a'.eval (.tmp 57) = .slice (some ⟨bq, oq, none⟩) n' c' := hall 3 _ 57 (by decide) rfl rfl
            have e58 : a'.eval (.tmp 58) = .slice a2 m2 c2 := hall 4 _ 58 (by decide) rfl rfl
            have e1 : a'.eval (.tmp 1) = .pointer (some ⟨B2, 0, none⟩) := (hk.all.at 1 (by decide +kernel))
            refine ⟨rfl, ?_⟩
            refine wp_store_ps (.tmp 1) (.tmp 58) rfl B2 35 (.slice (some ⟨bq, oq, none⟩) n' c') a2 m2 c2 e1 e58 hC3 ?_
            intro w5 hb5 hu5
            refine ⟨_, rfl, ?_⟩
            have ha := act_puts 60 rfl hsz hdf hk.all [54, 55, 56, 57, 58] (by decide +kernel)
            simp only [puts, List.foldl_cons, List.foldl_nil, e54, e55, e56, e57, e58] at ha
            simp only [Act.put, List.setIfInBounds_toArray, List.set_cons_succ, List.set_cons_zero] at ha
            show Exit.then _ _ Exit.normal { tmps := a'.tmps, defers := a'.defers } w5
            subst ha
            have BP5 := hide (hC1.but hu5 (by omega))
            have BB5 := hide hb5
            have C5 : Hid (Chg (fun k => k = N2 ∨ k = B2) w3 w5) := (show _ from (hC2.mono (fun i _ h => .inl h)).trans (Chg.of_but hu5 (.inr rfl)))
            clear hall hk hsz hdf hC1 hC2 hC3 hb5 hu5 e54 e55 e56 e57 e58
            have rp := BP5.out.range0
            go_wp2_with (first
              | (refine wpList_load_mid rfl 51 _ rfl N2 0 rfl (PC q) _ rp Tryz.underlying51 rfl Tryz.size51 ?_)
              | (refine wpList_store_blk rfl 51 _ _ rfl N2 (PC q) (PC q) 51 rfl rfl BP5.out rfl Tryz.size51 (PC_one _) ?_; intro w6 hb6 hu6)
              | fail)
            refine bodyPost_ret (results_pair rfl _ _ N2 q true 51 _ rfl rfl hb6 Tryz.underlying51 rfl Tryz.size51) rfl ?_
            have C6 : Chg (fun k => k = N2 ∨ k = B2) w3 w6 := C5.out.trans (Chg.of_but hu6 (.inl rfl))
            have hms : Ms w6 B1 B2 N (p :: l') r' := ⟨_, _, BO.out.chg C6 (by omega), BB5.out.but hu6 (by omega), RO.out.chg C6 (fun b hb => by have := S1.out b hb; omega), HR2.out.chg C6 (fun b hb => by have := HI2.out b hb; omega), S1.out, fun b hb => by rw [HI2.out b hb]; exact ⟨hbN, hb1, hb2⟩⟩
            exact ⟨q, true, _, _, rfl, hms, LL.out.then C6 (fun k hk h => by have := HNw.out; rcases h with h | h <;> omega), .inr ⟨rfl, HNX.out⟩⟩
end Go.Proofs.YtcicekggeampcaaGreat

/-
  living, merge, Overlay: what the calls do.
-/
namespace Go.Proofs.YtcicekggeampcaaGreat
open Go.RowKit
set_option maxHeartbeats 4000000 in
set_option maxRecDepth 100000 in
theorem living_any {w : World} {B1 B2 N : Nat} {l r : List Pr} (h : Ms w B1 B2 N l r) (hne : B1 ≠ B2) (hN : N ≤ w.heap.size) (m : Int) (hlr : l.length + r.length ≤ 1000000) :
    Calls Tryz.prog 84 #[.func (.func 105) #[] #[PT B1, PT B2], .int .i64 m] w fun e w' => ∃ v, e = .returned v ∧ OwnG PE w' w.heap.size 51 v ((ovl l r).take m.toNat) ∧ Chg (fun b => b = B1 ∨ b = B2) w w' := by
  have hz := Zpair
  have HM := hide h
  have hB : B1 < w.heap.size ∧ B2 < w.heap.size := by obtain ⟨v, u, g1, g2, -⟩ := h; exact ⟨g1.lt, g2.lt⟩
  obtain ⟨N0, HN0⟩ : ∃ N, Hid (w.heap.size = N) := ⟨_, rfl⟩
  rw [HN0.out] at hB hN ⊢
  obtain ⟨hB1, hB2⟩ := hB
  obtain ⟨T, HT⟩ : ∃ T, Hid ((ovl l r).take m.toNat = T) := ⟨_, rfl⟩
  rw [HT.out]
  have HL := hide hlr
  clear h
  go_enter Tryz.func84, Tryz.ntmps84
  go_wp2_with fail
  go_loopg [5] (l.length + r.length + 1) (fun g z wr => ∃ (out l' r' : List Pr) (a : Option Addr) (n c : Nat), z = .slice a n c ∧ g = l'.length + r'.length + 1 ∧ Hid (out.length = n) ∧ Hid (OwnG PE wr N0 51 (.slice a n c) out) ∧ Hid (Ms wr B1 B2 N l' r') ∧ Hid (out ++ (ovl l' r').take (m.toNat - out.length) = T) ∧ Hid (Chg (fun b => b = B1 ∨ b = B2) w wr) ∧ Hid (out.length + l'.length + r'.length ≤ 1000000))
  case atStart => exact ⟨[], l, r, none, 0, 0, rfl, rfl, (show _ = _ from rfl), ownG_nil _ _ _, HM, (show _ = _ by rw [← HT.out]; simp), Chg.refl _ _, (show _ ≤ _ by have := HL.out; simp; omega)⟩
  case round =>
    obtain ⟨out, l', r', a, n, c, rfl, hg, HNn, HO, HMs, HTT, HC, HLL⟩ := hrel
    have hwr : N0 ≤ wr.heap.size := by rw [← HN0.out]; exact HC.out.size
    by_cases hlt : (n : Int) < m
    · have q0 : decide ((n : Int) < m) = true := by simp; omega
      have CN := hide (next_any HMs.out hne (by omega))
      go_wp2_with fail
      refine CN.out.mono ?_
      rintro e w2 ⟨q, ok, l2, r2, rfl, hms2, hc2, hcase⟩
      have M2 := hide hms2
      have C2 : Hid (Chg (fun b => b = B1 ∨ b = B2) w w2) := (show _ from HC.out.trans hc2)
      have O2 := hide (HO.out.chg hc2 (fun b hb h => by have := (HO.out.block hb).1; omega))
      have HCS := hide hcase
      obtain ⟨E, HE⟩ : ∃ E, Hid (w2.heap.size = E) := ⟨_, rfl⟩
      have hwE : N0 ≤ E := by rw [← HE.out]; have := hc2.size; omega
      clear hms2 hc2 hcase CN HMs HO HC
      obtain ⟨w3, hw3⟩ : ∃ y, y = w2.alloc (.cells (PC q).toArray 51 (0, 0)) := ⟨_, rfl⟩
      have hb3 : Below w2.heap.size w2 w3 := by rw [hw3]; exact (Below.refl _ _).alloc (Nat.le_refl _) _
      have B3 : Hid (Blk w3 E 51 (PC q)) := (show Blk _ _ _ _ by rw [hw3, ← HE.out]; exact Blk.new w2 51 (PC q))
      have M3 := hide (M2.out.chg (F := fun _ => False) (Chg.of_below hb3) id id (fun _ h => h.elim))
      have O3 := hide (O2.out.kept hb3)
      have C3 : Hid (Chg (fun b => b = B1 ∨ b = B2) w w3) := (show _ from C2.out.trans (Chg.of_below hb3))
      have HW3 := hide hw3
      have hE3 : N0 ≤ w3.heap.size := by have := B3.out.lt; omega
      clear hw3 hb3 M2 O2 C2
      cases ok with
      | false =>
        have HX : Hid (T = out) := (show _ = _ by
          rcases HCS.out with ⟨-, h1, rfl, rfl⟩ | ⟨h1, -⟩
          · rw [← HTT.out, ovl_none h1]; simp
          · cases h1)
        go_wp2_with (first
          | (refine wpList_store_new rfl 51 _ _ rfl w2 _ (PC q).toArray _ rfl rfl rfl Tryz.size51 rfl (all_one (PC_one q)) ?_; rw [← HW3.out, HE.out])
          | fail)
        go_ret
        refine ⟨_, rfl, ?_, C3.out⟩
        rw [HX.out]
        exact O3.out
      | true =>
        have HX : Hid (nxt l' r' = some (q, l2, r2)) := (show _ = _ by
          rcases HCS.out with ⟨h1, -⟩ | ⟨-, h1⟩
          · cases h1
          · exact h1)
        have hln := nxt_len HX.out
        simp only at hln
        have cD := B3.out.dead
        obtain ⟨d, HD⟩ : ∃ d, Hid (q.2.2 = d) := ⟨_, rfl⟩
        rw [HD.out] at cD
        have hov := ovl_some HX.out
        simp only at hov
        rw [HD.out] at hov
        have HOV := hide hov
        clear hov HCS
        cases d with
        | true =>
          go_wp2_with (first
            | (refine wpList_store_new rfl 51 _ _ rfl w2 _ (PC q).toArray _ rfl rfl rfl Tryz.size51 rfl (all_one (PC_one q)) ?_; rw [← HW3.out, HE.out])
            | fail)
          go_roundg (l2.length + r2.length + 1)
          case measure => omega
          case rel => exact ⟨out, l2, r2, a, n, c, rfl, rfl, HNn, O3, M3, (show _ = _ by rw [← HTT.out, HOV.out]; simp), C3, (show _ ≤ _ by have := HLL.out; omega)⟩
        | false =>
          have HL9 : Hid (out.length + [q].length ≤ 10000000) := (show _ ≤ _ by have := HLL.out; rw [List.length_singleton]; omega)
          have HL8 : Hid (N0 ≤ (w3.alloc (.cells (PC q).toArray 51 (0, 0))).heap.size) := (show _ ≤ _ by simp; omega)
          go_wp2_with (first
            | (refine wpList_store_new rfl 51 _ _ rfl w2 _ (PC q).toArray _ rfl rfl rfl Tryz.size51 rfl (all_one (PC_one q)) ?_; rw [← HW3.out, HE.out])
            | (refine wpList_load_mid rfl 51 _ rfl E 0 rfl (PC q) _ B3.out.range0 Tryz.underlying51 rfl Tryz.size51 ?_)
            | (refine wpList_build_row rfl _ rfl q rfl ?_)
            | (refine wpList_append_E Tryz.underlying35 infoP9 (by decide) rfl (.tmp 22) (.tmp 24) rfl N0 (.slice a n c) out rfl (O3.out.kept ((Below.refl _ _).alloc (Nat.le_refl _) _)) (.slice (some ⟨w3.heap.size, 0, none⟩) 1 1) [q] rfl (rdG_one (E := PE) w3 51 q) HL9.out HL8.out ?_; intro v9 w9 o9 g9 q9; have O9 := hide o9; have G9 := hide g9; clear o9 g9 q9; obtain ⟨p9, c9, hv9⟩ := O9.out.form; obtain ⟨n2, hn2⟩ : ∃ k, (out ++ [q]).length = k := ⟨_, rfl⟩; rw [hn2] at hv9; subst hv9; have HN2 := hide hn2; clear hn2)
            | fail)
          have hG : Chg (fun b => (Value.slice a n c).ownBlock = some b) w3 w9 := (Chg.alloc _ w3 (.cells (PC q).toArray 51 (0, 0))).trans (Chg.of_grown G9.out (fun k e _ => e))
          have hOb : ∀ b, (Value.slice a n c).ownBlock = some b → N0 ≤ b := fun b hb => (O3.out.block hb).1
          have M9 := hide (M3.out.chg hG (fun h => by have := hOb _ h; omega) (fun h => by have := hOb _ h; omega) (fun k h hk => by have := hOb _ h; omega))
          have C9 : Hid (Chg (fun b => b = B1 ∨ b = B2) w w9) := (show _ from C3.out.then hG (fun k hk h => by have := hOb _ h; rw [HN0.out] at hk; omega))
          clear hG hOb
          go_roundg (l2.length + r2.length + 1)
          case measure => omega
          case rel =>
            refine ⟨out ++ [q], l2, r2, p9, n2, c9, rfl, rfl, HN2, O9, M9, (show _ = _ by
              rw [← HTT.out, HOV.out, if_neg (by simp), List.append_assoc]
              have hpos : m.toNat - out.length = (m.toNat - (out ++ [q]).length) + 1 := by
                rw [List.length_append, List.length_singleton, HNn.out]
                omega
              rw [hpos, List.take_succ_cons]
              rfl), C9, (show _ ≤ _ by have := HLL.out; rw [List.length_append, List.length_singleton]; omega)⟩
    · have q0 : decide ((n : Int) < m) = false := by simp; omega
      have HX : Hid (T = out) := (show _ = _ by
        rw [← HTT.out, HNn.out, show m.toNat - n = 0 by omega]
        simp)
      go_wp2_with fail
      go_ret
      refine ⟨_, rfl, ?_, HC.out⟩
      rw [HX.out]
      exact HO.out
set_option maxRecDepth 100000 in
theorem merge_any (a : Option Addr) (n c : Nat) (a' : Option Addr) (n' c' : Nat) (w : World) : Calls Tryz.prog 85 #[.slice a n c, .slice a' n' c'] w fun e w' => e = .returned (.func (.func 105) #[] #[PT w.heap.size, PT (w.heap.size + 1)]) ∧ w' = (w.alloc (.cells #[.slice a n c] 35 (0, 0))).alloc (.cells #[.slice a' n' c'] 35 (0, 0)) := by
  go_enter Tryz.func85, Tryz.ntmps85
  go_wp2
  go_ret
  exact ⟨by simp, rfl⟩
theorem ms_new {w w' : World} {a a' : Option Addr} {n c n' c' : Nat} {l r : List Pr} (h1 : RdG PE w (.slice a n c) l) (h2 : RdG PE w (.slice a' n' c') r) (hw : w' = (w.alloc (.cells #[.slice a n c] 35 (0, 0))).alloc (.cells #[.slice a' n' c'] 35 (0, 0))) :
    Ms w' w.heap.size (w.heap.size + 1) w.heap.size l r ∧ Below w.heap.size w w' := by
  subst hw
  have hb : Below w.heap.size w ((w.alloc (.cells #[.slice a n c] 35 (0, 0))).alloc (.cells #[.slice a' n' c'] 35 (0, 0))) := ((Below.refl _ _).alloc (Nat.le_refl _) _).alloc (by simp) _
  refine ⟨⟨_, _, (Blk.new w 35 [.slice a n c]).alloc _, ?_, h1.kept hb, h2.kept hb, fun b hb => ?_, fun b hb => ?_⟩, hb⟩
  · have := Blk.new (w.alloc (.cells #[.slice a n c] 35 (0, 0))) 35 [.slice a' n' c']
    rw [World.size_alloc] at this
    exact this
  · have := h1.inB_lt hb
    omega
  · have := h2.inB_lt hb
    omega
end Go.Proofs.YtcicekggeampcaaGreat
