/-
  Texts that ride together: MbG MbC MbD MbH.
-/
import Derived.Test.YtooffljimdklfaaDoorG12a
import Derived.Test.YtooffljimdklfaaDoorG11s
/-
  Good and leadsAs, and the reference's Good: what the calls do.
-/
namespace Go.Proofs.YtooffljimdklfaaDoor
open Go.RowKit
theorem wpList_build_w9 {P : Program} {ops : Array Oper} {rest : List Oper} {op : Oper} {a : Act} {w : World} {Q : Exit → Act → World → Prop} (hw : Region.wanted op (yielded ops a.tmps) = true) (t : TypeId) (ps : Array (Nat × Operand)) (_ : op.op = .build t ps) (v : Value)
    (hrun : (execOp a.eval op).run P w = .ok (.value v) w) (h : wpList P ops Q rest (a.put op.dst v) w) : wpList P ops Q (op :: rest) a w := by
  refine wpList_step fun K hK => ?_
  rw [if_pos hw]
  unfold Oper.wp
  rw [hrun]
  exact hK _ _ h
set_option maxHeartbeats 4000000 in
set_option maxRecDepth 100000 in
theorem bGood_any {w : World} {v : Value} {p : Pr} (hr : RdG SE w v p.1) : Calls Tryd.prog 20 #[.agg (PrC v p).toArray] w fun e w' => e = .returned (.bool (goodP p)) ∧ Below w.heap.size w w' := by
  have HR := hide hr
  obtain ⟨a, cp, rfl⟩ := hr.slice
  have hcap := hr.cap'
  clear hr
  obtain ⟨n, HNL⟩ : ∃ n, Hid (p.1.length = n) := ⟨_, rfl⟩
  rw [HNL.out] at HR hcap ⊢
  obtain ⟨N, HN⟩ : ∃ N, Hid (w.heap.size = N) := ⟨_, rfl⟩
  rw [HN.out]
  go_enter Tryd.func20, Tryd.ntmps20
  go_upto_region 1 with fail
  obtain ⟨w1, hw1⟩ : ∃ z, z = w.alloc (.cells (PrC (.slice a n cp) p).toArray 39 (0, 0)) := ⟨_, rfl⟩
  change Code.wp _ _ _ _ (w.alloc (.cells (PrC (.slice a n cp) p).toArray 39 (0, 0)))
  rw [← hw1, HN.out]
  obtain ⟨b0, ln, sz1⟩ := box1 HN hw1
  clear hw1
  have P1 := hide b0
  have L1 := hide ln
  have c0 := PrC.steps b0
  have c1 := PrC.leaf b0
  clear b0 ln
  have hbe := build_end0
  obtain ⟨lf, HLF⟩ : ∃ z, Hid (p.2.1 = z) := ⟨_, rfl⟩
  rw [HLF.out] at c1
  cases lf with
  | false =>
    have GV : Hid (goodP p = (decide (p.1.length = 0) && (decide (p.2.2.1 = zh) && decide (p.2.2.2 = zh)))) := (show _ = _ by unfold goodP; rw [HLF.out]; rfl)
    by_cases hn0 : n = 0
    · subst hn0
      have r0 := P1.out.range0
      have heq := eqE p.2 ze
      have HEQ : Hid (decide (p.2 = ze) = goodP p) := (show _ = _ by
        rw [GV.out, HNL.out]
        have : p.2 = (p.2.1, p.2.2.1, p.2.2.2) := rfl
        rw [this, HLF.out]
        by_cases g1 : p.2.2.1 = zh <;> by_cases g2 : p.2.2.2 = zh <;> simp [ze, g1, g2])
      rw [HEQ.out] at heq
      obtain ⟨gd, HGD⟩ : ∃ z, Hid (goodP p = z) := ⟨_, rfl⟩
      rw [HGD.out] at heq
      have CE := hide (bend_any (.slice a 0 cp) p w1)
      go_wp2_with (first
        | (refine wpList_load_w9 rfl 39 _ rfl N 0 rfl (PrC (.slice a 0 cp) p) _ r0 Tryd.underlying39 rfl (Tryd.sizePr _ _) ?_)
        | (go_at_call 34; refine CE.out.mono ?_; rintro e w2 ⟨rfl, hb2⟩; have L2 : Hid (Below N w w2) := (show _ from L1.out.trans (hb2.mono (by omega))); clear hb2)
        | (refine wpList_build_w9 rfl 79 _ rfl (.agg (EN.c ze).toArray) (by simp only [execOp, List.map_toArray, List.map_nil, Sem.run_bind, Sem.run_pure]; exact congrArg (fun r => Result.andThen r _) (hbe _)) ?_)
        | fail)
      go_ret
      exact ⟨by rw [HGD.out]; rfl, L2.out⟩
    · have GF : Hid (goodP p = false) := (show _ = _ by rw [GV.out, HNL.out, decide_eq_false hn0]; rfl)
      have q0 : ¬ (n : Int) = 0 := by omega
      go_wp2_with fail
      go_ret
      exact ⟨by rw [GF.out]; rfl, L1.out⟩
  | true =>
    have GV : Hid (goodP p = rises (-1) p.1) := (show _ = _ by unfold goodP; rw [HLF.out]; rfl)
    have GF : Hid (rises (-1) p.1 = false → goodP p = false) := (show _ from fun h => by rw [GV.out, h])
    go_wp2_with fail
    go_loopg [3, 22] (n + 1) (fun g y z wr => ∃ (i : Nat) (bf : Int), i ≤ n ∧ g + i = n + 1 ∧ z = .int .i64 (i : Int) ∧ y = .int .i64 bf ∧ Hid (rises (-1) p.1 = rises bf (p.1.drop i)) ∧ Hid (Below N w wr) ∧ Hid (Blk wr N 39 (PrC (.slice a n cp) p)))
    case atStart => exact ⟨0, -1, by omega, by omega, rfl, rfl, (show _ = _ from rfl), L1, P1⟩
    case round =>
      clear L1 P1
      obtain ⟨i, bf, hi, hgi, rfl, rfl, RI, LR, PR⟩ := hrel
      have hGR : N ≤ wr.heap.size := Nat.le_of_lt PR.out.lt
      by_cases hlt : i < n
      · have hlt2 : i < p.1.length := by rw [HNL.out]; exact hlt
        obtain ⟨ba, oa, hsl, hba, hxa⟩ := (HR.out.kept (LR.out.mono (Nat.le_of_eq HN.out))).nth (by omega)
        have hx : wr.rangeAt ba (oa + i * 33) (SE.c p.1[i]) := hxa i hlt2
        obtain ⟨x, HX⟩ : ∃ x, Hid (p.1[i] = x) := ⟨p.1[i], (show p.1[i] = p.1[i] from rfl)⟩
        rw [HX.out] at hx
        subst hsl
        clear hxa
        have q2 : (i : Int) < (n : Int) := by omega
        have q3 : ¬ n ≤ i := by omega
        obtain ⟨M, HM⟩ : ∃ M, Hid (wr.heap.size = M) := ⟨_, rfl⟩
        have HDR : Hid (p.1.drop i = x :: p.1.drop (i + 1)) := (show _ = _ by rw [List.drop_eq_getElem_cons hlt2, HX.out])
        have RI2 : Hid (rises (-1) p.1 = (!(decide (x.1 ≤ bf)) && !(decide (255 < x.1)) && rises x.1 (p.1.drop (i + 1)))) := (show _ = _ by rw [RI.out, HDR.out]; rfl)
        by_cases h1 : x.1 ≤ bf
        · have RF : Hid (rises (-1) p.1 = false) := (show _ = _ by rw [RI2.out, decide_eq_true h1]; rfl)
          go_wp2_with (first
            | (refine wpList_load_mid rfl 70 _ rfl ba (oa + i * 33) rfl (SE.c x) _ hx Tryd.underlying70 rfl (Tryd.sizeS x) ?_)
            | (rw [HM.out]; refine wpList_store_blk rfl 70 _ _ rfl M (SE.c zs) (SE.c x) 70 rfl rfl (by rw [← HM.out]; exact Blk.new wr 70 (SE.c zs)) (by rw [SE_len, SE_len]) (Tryd.sizeS x) (SE.one x) ?_; intro w3 hb3 hu3; have D3 : Below wr.heap.size wr w3 := (((Below.refl _ _).alloc (Nat.le_refl _) _).trans (hu3.below (Nat.le_of_eq HM.out) (by simp))); have L3 : Hid (Below N w w3) := (show _ from LR.out.trans (D3.mono hGR)); have cb := SEbit hb3.range0; have X3 := hide hb3; have P3 := hide (PR.out.kept D3); clear hb3 hu3 D3)
            | fail)
          go_ret
          exact ⟨by rw [GF.out RF.out]; rfl, L3.out⟩
        · by_cases h4 : 255 < x.1
          · have RF : Hid (rises (-1) p.1 = false) := (show _ = _ by rw [RI2.out, decide_eq_true h4]; simp)
            go_wp2_with (first
              | (refine wpList_load_mid rfl 70 _ rfl ba (oa + i * 33) rfl (SE.c x) _ hx Tryd.underlying70 rfl (Tryd.sizeS x) ?_)
              | (rw [HM.out]; refine wpList_store_blk rfl 70 _ _ rfl M (SE.c zs) (SE.c x) 70 rfl rfl (by rw [← HM.out]; exact Blk.new wr 70 (SE.c zs)) (by rw [SE_len, SE_len]) (Tryd.sizeS x) (SE.one x) ?_; intro w3 hb3 hu3; have D3 : Below wr.heap.size wr w3 := (((Below.refl _ _).alloc (Nat.le_refl _) _).trans (hu3.below (Nat.le_of_eq HM.out) (by simp))); have L3 : Hid (Below N w w3) := (show _ from LR.out.trans (D3.mono hGR)); have cb := SEbit hb3.range0; have X3 := hide hb3; have P3 := hide (PR.out.kept D3); clear hb3 hu3 D3)
              | fail)
            go_ret
            exact ⟨by rw [GF.out RF.out]; rfl, L3.out⟩
          · have RN : Hid (rises (-1) p.1 = rises x.1 (p.1.drop (i + 1))) := (show _ = _ by rw [RI2.out, decide_eq_false h1, decide_eq_false h4]; simp)
            go_wp2_with (first
              | (refine wpList_load_mid rfl 70 _ rfl ba (oa + i * 33) rfl (SE.c x) _ hx Tryd.underlying70 rfl (Tryd.sizeS x) ?_)
              | (rw [HM.out]; refine wpList_store_blk rfl 70 _ _ rfl M (SE.c zs) (SE.c x) 70 rfl rfl (by rw [← HM.out]; exact Blk.new wr 70 (SE.c zs)) (by rw [SE_len, SE_len]) (Tryd.sizeS x) (SE.one x) ?_; intro w3 hb3 hu3; have D3 : Below wr.heap.size wr w3 := (((Below.refl _ _).alloc (Nat.le_refl _) _).trans (hu3.below (Nat.le_of_eq HM.out) (by simp))); have L3 : Hid (Below N w w3) := (show _ from LR.out.trans (D3.mono hGR)); have cb := SEbit hb3.range0; have X3 := hide hb3; have P3 := hide (PR.out.kept D3); clear hb3 hu3 D3)
              | fail)
            go_roundg (n + 1 - (i + 1))
            case measure => omega
            case rel => exact ⟨i + 1, x.1, by omega, by omega, by go_num, rfl, RN, L3, P3⟩
      · obtain rfl : i = n := by omega
        have q2 : ¬ (i : Int) < (i : Int) := by omega
        have RT : Hid (rises (-1) p.1 = true) := (show _ = _ by rw [RI.out, List.drop_of_length_le (by rw [HNL.out]; exact Nat.le_refl _)]; rfl)
        have GT : Hid (goodP p = true) := (show _ = _ by rw [GV.out, RT.out])
        go_wp2_with fail
        go_ret
        exact ⟨by rw [GT.out]; rfl, LR.out⟩
theorem goodP_alt (p : Pr) : goodP p = (rises (-1) p.1 && (p.2.1 || (decide (p.1.length = 0) && (decide (p.2.2.1 = zh) && decide (p.2.2.2 = zh))))) := by
  obtain ⟨l, lf, k, v⟩ := p
  unfold goodP
  cases lf with
  | true => simp
  | false =>
    cases l with
    | nil => simp [rises]
    | cons s l => simp
set_option maxHeartbeats 8000000 in
set_option maxRecDepth 100000 in
theorem eGood_any {w : World} {v : Value} {p : Pr} (hr : RdG SE w v p.1) : Calls Tryd.prog 21 #[.agg (PrC v p).toArray] w fun e w' => e = .returned (.bool (goodP p)) ∧ Below w.heap.size w w' := by
  have HR := hide hr
  obtain ⟨a, cp, rfl⟩ := hr.slice
  have hcap := hr.cap'
  clear hr
  obtain ⟨n, HNL⟩ : ∃ n, Hid (p.1.length = n) := ⟨_, rfl⟩
  rw [HNL.out] at HR hcap ⊢
  obtain ⟨N, HN⟩ : ∃ N, Hid (w.heap.size = N) := ⟨_, rfl⟩
  rw [HN.out]
  go_enter Tryd.func21, Tryd.ntmps21
  go_upto_region 1 with fail
  obtain ⟨w1, hw1⟩ : ∃ z, z = w.alloc (.cells (PrC (.slice a n cp) p).toArray 35 (0, 0)) := ⟨_, rfl⟩
  change Code.wp _ _ _ _ (w.alloc (.cells (PrC (.slice a n cp) p).toArray 35 (0, 0)))
  rw [← hw1, HN.out]
  obtain ⟨b0, ln, sz1⟩ := box1 HN hw1
  clear hw1
  have P1 := hide b0
  have L1 := hide ln
  have c0 := PrC.steps b0
  clear b0 ln
  have GV := hide (goodP_alt p)
  have GF : Hid (rises (-1) p.1 = false → goodP p = false) := (show _ from fun h => by rw [GV.out, h]; rfl)
  go_wp2_with fail
  go_loopg [3, 10] (n + 1) (fun g y z wr => ∃ (i : Nat) (bf : Int), i ≤ n ∧ g + i = n + 1 ∧ z = .int .i64 (i : Int) ∧ y = .int .i64 bf ∧ Hid (rises (-1) p.1 = rises bf (p.1.drop i)) ∧ Hid (Below N w wr) ∧ Hid (Blk wr N 35 (PrC (.slice a n cp) p)))
  case atStart => exact ⟨0, -1, by omega, by omega, rfl, rfl, (show _ = _ from rfl), L1, P1⟩
  case round =>
    clear L1 P1
    obtain ⟨i, bf, hi, hgi, rfl, rfl, RI, LR, PR⟩ := hrel
    have hGR : N ≤ wr.heap.size := Nat.le_of_lt PR.out.lt
    by_cases hlt : i < n
    · have hlt2 : i < p.1.length := by rw [HNL.out]; exact hlt
      obtain ⟨ba, oa, hsl, hba, hxa⟩ := (HR.out.kept (LR.out.mono (Nat.le_of_eq HN.out))).nth (by omega)
      have hx : wr.rangeAt ba (oa + i * 33) (SE.c p.1[i]) := hxa i hlt2
      obtain ⟨x, HX⟩ : ∃ x, Hid (p.1[i] = x) := ⟨p.1[i], (show p.1[i] = p.1[i] from rfl)⟩
      rw [HX.out] at hx
      subst hsl
      clear hxa
      have q2 : (i : Int) < (n : Int) := by omega
      have q3 : ¬ n ≤ i := by omega
      obtain ⟨M, HM⟩ : ∃ M, Hid (wr.heap.size = M) := ⟨_, rfl⟩
      have HDR : Hid (p.1.drop i = x :: p.1.drop (i + 1)) := (show _ = _ by rw [List.drop_eq_getElem_cons hlt2, HX.out])
      have RI2 : Hid (rises (-1) p.1 = (!(decide (x.1 ≤ bf)) && !(decide (255 < x.1)) && rises x.1 (p.1.drop (i + 1)))) := (show _ = _ by rw [RI.out, HDR.out]; rfl)
      by_cases h1 : x.1 ≤ bf
      · have RF : Hid (rises (-1) p.1 = false) := (show _ = _ by rw [RI2.out, decide_eq_true h1]; rfl)
        go_wp2_with (first
          | (refine wpList_load_mid rfl 69 _ rfl ba (oa + i * 33) rfl (SE.c x) _ hx Tryd.underlying69 rfl (Tryd.sizeR x) ?_)
          | (rw [HM.out]; refine wpList_store_blk rfl 69 _ _ rfl M (SE.c zs) (SE.c x) 69 rfl rfl (by rw [← HM.out]; exact Blk.new wr 69 (SE.c zs)) (by rw [SE_len, SE_len]) (Tryd.sizeR x) (SE.one x) ?_; intro w3 hb3 hu3; have D3 : Below wr.heap.size wr w3 := (((Below.refl _ _).alloc (Nat.le_refl _) _).trans (hu3.below (Nat.le_of_eq HM.out) (by simp))); have L3 : Hid (Below N w w3) := (show _ from LR.out.trans (D3.mono hGR)); have cb := SEbit hb3.range0; have X3 := hide hb3; have P3 := hide (PR.out.kept D3); clear hb3 hu3 D3)
          | fail)
        go_ret
        exact ⟨by rw [GF.out RF.out]; rfl, L3.out⟩
      · by_cases h4 : 255 < x.1
        · have RF : Hid (rises (-1) p.1 = false) := (show _ = _ by rw [RI2.out, decide_eq_true h4]; simp)
          go_wp2_with (first
            | (refine wpList_load_mid rfl 69 _ rfl ba (oa + i * 33) rfl (SE.c x) _ hx Tryd.underlying69 rfl (Tryd.sizeR x) ?_)
            | (rw [HM.out]; refine wpList_store_blk rfl 69 _ _ rfl M (SE.c zs) (SE.c x) 69 rfl rfl (by rw [← HM.out]; exact Blk.new wr 69 (SE.c zs)) (by rw [SE_len, SE_len]) (Tryd.sizeR x) (SE.one x) ?_; intro w3 hb3 hu3; have D3 : Below wr.heap.size wr w3 := (((Below.refl _ _).alloc (Nat.le_refl _) _).trans (hu3.below (Nat.le_of_eq HM.out) (by simp))); have L3 : Hid (Below N w w3) := (show _ from LR.out.trans (D3.mono hGR)); have cb := SEbit hb3.range0; have X3 := hide hb3; have P3 := hide (PR.out.kept D3); clear hb3 hu3 D3)
            | fail)
          go_ret
          exact ⟨by rw [GF.out RF.out]; rfl, L3.out⟩
        · have RN : Hid (rises (-1) p.1 = rises x.1 (p.1.drop (i + 1))) := (show _ = _ by rw [RI2.out, decide_eq_false h1, decide_eq_false h4]; simp)
          go_wp2_with (first
            | (refine wpList_load_mid rfl 69 _ rfl ba (oa + i * 33) rfl (SE.c x) _ hx Tryd.underlying69 rfl (Tryd.sizeR x) ?_)
            | (rw [HM.out]; refine wpList_store_blk rfl 69 _ _ rfl M (SE.c zs) (SE.c x) 69 rfl rfl (by rw [← HM.out]; exact Blk.new wr 69 (SE.c zs)) (by rw [SE_len, SE_len]) (Tryd.sizeR x) (SE.one x) ?_; intro w3 hb3 hu3; have D3 : Below wr.heap.size wr w3 := (((Below.refl _ _).alloc (Nat.le_refl _) _).trans (hu3.below (Nat.le_of_eq HM.out) (by simp))); have L3 : Hid (Below N w w3) := (show _ from LR.out.trans (D3.mono hGR)); have cb := SEbit hb3.range0; have X3 := hide hb3; have P3 := hide (PR.out.kept D3); clear hb3 hu3 D3)
            | fail)
          go_roundg (n + 1 - (i + 1))
          case measure => omega
          case rel => exact ⟨i + 1, x.1, by omega, by omega, by go_num, rfl, RN, L3, P3⟩
    · obtain rfl : i = n := by omega
      have q2 : ¬ (i : Int) < (i : Int) := by omega
      have RT : Hid (rises (-1) p.1 = true) := (show _ = _ by rw [RI.out, List.drop_of_length_le (by rw [HNL.out]; exact Nat.le_refl _)]; rfl)
      have GV2 : Hid (goodP p = (p.2.1 || (decide (p.1.length = 0) && (decide (p.2.2.1 = zh) && decide (p.2.2.2 = zh))))) := (show _ = _ by rw [GV.out, RT.out]; rfl)
      have c0 := PrC.steps PR.out
      have c1 := PrC.leaf PR.out
      have rk := PrC.key PR.out
      have rv := PrC.value PR.out
      obtain ⟨M, HM⟩ : ∃ M, Hid (wr.heap.size = M) := ⟨_, rfl⟩
      have heq1 := eqA p.2.2.1 zh
      have heq2 := eqA p.2.2.2 zh
      obtain ⟨z0, HZ0⟩ : ∃ z, Hid (zh = z) := ⟨_, rfl⟩
      rw [HZ0.out] at heq1 heq2 GV2
      have hbz : ∀ W, (Instr.build 24 #[]).run Tryd.prog W = .ok (.agg (By z0.1).toArray) W := fun W => by rw [← HZ0.out]; exact run_build W _ _ _ (by kernel_rfl)
      go_upto_region 10 with (first
        | (refine wpList_build rfl 24 _ rfl (.agg (By z0.1).toArray) (by simp only [execOp, List.map_toArray, List.map_nil, Sem.run_bind, Sem.run_pure]; exact congrArg (fun r => Result.andThen r _) (hbz _)) ?_)
        | (rw [HM.out]; refine wpList_store_blk rfl 24 _ _ rfl M (By zh.1) (By z0.1) 24 rfl rfl (by rw [← HM.out]; exact Blk.new wr 24 (By zh.1)) (by rw [By_len, By_len]) (Tryd.sizeH _) (By_one _) ?_; intro w4 hb4 hu4; have D4 : Below wr.heap.size wr w4 := (((Below.refl _ _).alloc (Nat.le_refl _) _).trans (hu4.below (Nat.le_of_eq HM.out) (by simp))); have P4 := PR.out.kept D4; have L4 : Hid (Below N w w4) := (show _ from LR.out.trans (D4.mono hGR)); have rz := hb4.range0; clear hb4 hu4)
        | fail)
      replace c0 := PrC.steps P4
      replace c1 := PrC.leaf P4
      replace rk := PrC.key P4
      replace rv := PrC.value P4
      clear P4 D4
      obtain ⟨lf, HLF⟩ : ∃ z, Hid (p.2.1 = z) := ⟨_, rfl⟩
      rw [HLF.out] at c1 GV2
      cases lf with
      | true =>
        go_wp2_with fail
        go_ret
        exact ⟨by rw [GV2.out]; rfl, L4.out⟩
      | false =>
        by_cases hn0 : i = 0
        · subst hn0
          rw [HNL.out] at GV2
          by_cases g1 : p.2.2.1 = z0
          · rw [decide_eq_true g1] at heq1 GV2
            clear g1
            by_cases g2 : p.2.2.2 = z0
            · rw [decide_eq_true g2] at heq2 GV2
              clear g2
              go_wp2_with (first
                | (refine wpList_load_w9 rfl 24 _ rfl N 2 rfl (By p.2.2.1.1) _ rk Tryd.underlying24 rfl (Tryd.sizeH _) ?_)
                | (refine wpList_load_w9 rfl 24 _ rfl N 34 rfl (By p.2.2.2.1) _ rv Tryd.underlying24 rfl (Tryd.sizeH _) ?_)
                | (refine wpList_load_w9 rfl 24 _ rfl M 0 rfl (By z0.1) _ rz Tryd.underlying24 rfl (Tryd.sizeH _) ?_)
                | fail)
              go_ret
              exact ⟨by rw [GV2.out]; rfl, L4.out⟩
            · rw [decide_eq_false g2] at heq2 GV2
              clear g2
              go_wp2_with (first
                | (refine wpList_load_w9 rfl 24 _ rfl N 2 rfl (By p.2.2.1.1) _ rk Tryd.underlying24 rfl (Tryd.sizeH _) ?_)
                | (refine wpList_load_w9 rfl 24 _ rfl N 34 rfl (By p.2.2.2.1) _ rv Tryd.underlying24 rfl (Tryd.sizeH _) ?_)
                | (refine wpList_load_w9 rfl 24 _ rfl M 0 rfl (By z0.1) _ rz Tryd.underlying24 rfl (Tryd.sizeH _) ?_)
                | fail)
              go_ret
              exact ⟨by rw [GV2.out]; rfl, L4.out⟩
          · rw [decide_eq_false g1] at heq1 GV2
            clear g1
            go_wp2_with (first
              | (refine wpList_load_w9 rfl 24 _ rfl N 2 rfl (By p.2.2.1.1) _ rk Tryd.underlying24 rfl (Tryd.sizeH _) ?_)
              | (refine wpList_load_w9 rfl 24 _ rfl M 0 rfl (By z0.1) _ rz Tryd.underlying24 rfl (Tryd.sizeH _) ?_)
              | fail)
            go_ret
            exact ⟨by rw [GV2.out]; rfl, L4.out⟩
        · have q0 : ¬ (i : Int) = 0 := by omega
          rw [HNL.out, decide_eq_false hn0] at GV2
          clear hn0
          go_wp2_with fail
          go_ret
          exact ⟨by rw [GV2.out]; rfl, L4.out⟩
set_option maxHeartbeats 4000000 in
set_option maxRecDepth 100000 in
theorem bleads_any {w : World} {v : Value} {p : Pr} (k : Hs) (hr : RdG SE w v p.1) : Calls Tryd.prog 33 #[.agg (PrC v p).toArray, HV k] w fun e w' => e = .returned (.bool (leadsP k p)) ∧ Below w.heap.size w w' := by
  have HR := hide hr
  obtain ⟨a, cp, rfl⟩ := hr.slice
  have hcap := hr.cap'
  clear hr
  obtain ⟨n, HNL⟩ : ∃ n, Hid (p.1.length = n) := ⟨_, rfl⟩
  rw [HNL.out] at HR hcap ⊢
  obtain ⟨N, HN⟩ : ∃ N, Hid (w.heap.size = N) := ⟨_, rfl⟩
  rw [HN.out]
  unfold HV
  go_enter Tryd.func33, Tryd.ntmps33
  go_upto_region 1 with fail
  obtain ⟨w1, hw1⟩ : ∃ z, z = (w.alloc (.cells (PrC (.slice a n cp) p).toArray 39 (0, 0))).alloc (.cells (By k.1).toArray 24 (0, 0)) := ⟨_, rfl⟩
  change Code.wp _ _ _ _ ((w.alloc (.cells (PrC (.slice a n cp) p).toArray 39 (0, 0))).alloc (.cells (By k.1).toArray 24 (0, 0)))
  rw [← hw1, HN.out]
  obtain ⟨b0, b1, ln, sz1⟩ := box2 HN hw1
  clear hw1
  have P1 := hide b0
  have K1 := hide b1
  have L1 := hide ln
  have c0 := PrC.steps b0
  clear b0 b1 ln
  go_wp2_with fail
  go_loopg [10] (n + 1) (fun g z wr => ∃ (i : Nat), i ≤ n ∧ g + i = n + 1 ∧ z = .int .i64 (i : Int) ∧ Hid (leadsP k p = (p.1.drop i).all fun s => decide (bitZ p.2.2.1 s.1 = bitZ k s.1)) ∧ Hid (Below N w wr) ∧ Hid (Blk wr N 39 (PrC (.slice a n cp) p)) ∧ Hid (Blk wr (N + 1) 24 (By k.1)))
  case atStart => exact ⟨0, by omega, by omega, rfl, (show _ = _ from rfl), L1, P1, K1⟩
  case round =>
    clear L1 P1 K1
    obtain ⟨i, hi, hgi, rfl, RI, LR, PR, KR⟩ := hrel
    have hGR : N ≤ wr.heap.size := Nat.le_of_lt PR.out.lt
    by_cases hlt : i < n
    · have hlt2 : i < p.1.length := by rw [HNL.out]; exact hlt
      obtain ⟨ba, oa, hsl, hba, hxa⟩ := (HR.out.kept (LR.out.mono (Nat.le_of_eq HN.out))).nth (by omega)
      have hx : wr.rangeAt ba (oa + i * 33) (SE.c p.1[i]) := hxa i hlt2
      obtain ⟨x, HX⟩ : ∃ x, Hid (p.1[i] = x) := ⟨p.1[i], (show p.1[i] = p.1[i] from rfl)⟩
      rw [HX.out] at hx
      subst hsl
      clear hxa
      have q2 : (i : Int) < (n : Int) := by omega
      have q3 : ¬ n ≤ i := by omega
      obtain ⟨M, HM⟩ : ∃ M, Hid (wr.heap.size = M) := ⟨_, rfl⟩
      have HDR : Hid (p.1.drop i = x :: p.1.drop (i + 1)) := (show _ = _ by rw [List.drop_eq_getElem_cons hlt2, HX.out])
      have RI2 : Hid (leadsP k p = (decide (bitZ p.2.2.1 x.1 = bitZ k x.1) && (p.1.drop (i + 1)).all fun s => decide (bitZ p.2.2.1 s.1 = bitZ k s.1))) := (show _ = _ by rw [RI.out, HDR.out]; rfl)
      have C1 := hide (fun w => kBit_any p.2.2.1 x.1 w)
      have C2 := hide (fun w => kBit_any k x.1 w)
      obtain ⟨b1, HB1⟩ : ∃ z, Hid (bitZ p.2.2.1 x.1 = z) := ⟨_, rfl⟩
      obtain ⟨b2, HB2⟩ : ∃ z, Hid (bitZ k x.1 = z) := ⟨_, rfl⟩
      rw [HB1.out] at C1 RI2
      rw [HB2.out] at C2 RI2
      by_cases hne : b1 = b2
      · subst hne
        have RN : Hid (leadsP k p = (p.1.drop (i + 1)).all fun s => decide (bitZ p.2.2.1 s.1 = bitZ k s.1)) := (show _ = _ by rw [RI2.out]; simp)
        go_upto_region 4 with (first
          | (refine wpList_load_mid rfl 70 _ rfl ba (oa + i * 33) rfl (SE.c x) _ hx Tryd.underlying70 rfl (Tryd.sizeS x) ?_)
          | (rw [HM.out]; refine wpList_store_blk rfl 70 _ _ rfl M (SE.c zs) (SE.c x) 70 rfl rfl (by rw [← HM.out]; exact Blk.new wr 70 (SE.c zs)) (by rw [SE_len, SE_len]) (Tryd.sizeS x) (SE.one x) ?_; intro w3 hb3 hu3; have D3 : Below wr.heap.size wr w3 := (((Below.refl _ _).alloc (Nat.le_refl _) _).trans (hu3.below (Nat.le_of_eq HM.out) (by simp))); have L3 : Hid (Below N w w3) := (show _ from LR.out.trans (D3.mono hGR)); have cb := SEbit hb3.range0; have X3 := hide hb3; have P3 := hide (PR.out.kept D3); have K3 := hide (KR.out.kept D3); clear hb3 hu3 D3)
          | fail)
        refine wp_region_inv Tryd.mixed (KS (fun i_ => match i_ with | 0 => .val (.pointer (some ⟨N, 2, none⟩)) | 1 => .val (HV p.2.2.1) | 2 | 6 => .val (.pointer (some ⟨M, 0, none⟩)) | 3 | 7 => .val (.int .i64 x.1) | 4 | 8 => .val (.int .i64 b1) | 5 => .val (HV k) | 9 => .val (.bool false) | _ => .free)) 25 rfl (by decide +kernel) (KS_mono _) ?_ ?_
        · refine AllFrom.cons (fun a' w' hg hk hd => ?_) (AllFrom.cons (fun a' w' hg hk hd => ?_) (AllFrom.cons (fun a' w' hg hk hd => ?_) (AllFrom.cons (fun a' w' hg hk hd => ?_) (AllFrom.cons (fun a' w' hg hk hd => ?_) (AllFrom.cons (fun a' w' hg hk hd => ?_) (AllFrom.cons (fun a' w' hg hk hd => ?_) (AllFrom.cons (fun a' w' hg hk hd => ?_) (AllFrom.cons (fun a' w' hg hk hd => ?_) (AllFrom.cons (fun a' w' hg hk hd => ?_) AllFrom.nil)))))))))
          · skip
            intro Q
            have e2 : a'.eval (.tmp 2) = .pointer (some ⟨N, 0, none⟩) := hk.at 2 (by decide +kernel)
            clear hd hk
            exact wp_value (.pointer (some ⟨N, 2, none⟩)) (by simp only [execOp, e2]; go_simp) (KS_mkv rfl rfl)
          · skip
            intro Q
            have e14 : a'.eval (.tmp 14) = .pointer (some ⟨N, 2, none⟩) := KS_val (hd.val 0 14 (by decide +kernel)) rfl
            exact wp_load_row 24 _ rfl _ _ e14 (By (p.2.2.1).1) _ (PrC.key (P3.out.kept hg)) Tryd.underlying24 rfl (Tryd.sizeH _) (KS_mkv rfl rfl)
          · skip
            intro Q
            have e6 : a'.eval (.tmp 6) = .pointer (some ⟨M, 0, none⟩) := hk.at 6 (by decide +kernel)
            clear hd hk
            exact wp_value (.pointer (some ⟨M, 0, none⟩)) (by simp only [execOp, e6]; go_simp) (KS_mkv rfl rfl)
          · skip
            intro Q
            have e16 : a'.eval (.tmp 16) = .pointer (some ⟨M, 0, none⟩) := KS_val (hd.val 2 16 (by decide +kernel)) rfl
            have hc := SEbit (X3.out.kept hg).range0
            clear hd hk
            exact wp_value (.int .i64 x.1) (by simp only [execOp, e16]; go_simp) (KS_mkv rfl rfl)
          · skip
            intro Q
            have e15 : a'.eval (.tmp 15) = HV p.2.2.1 := KS_val (hd.val 1 15 (by decide +kernel)) rfl
            have e17 : a'.eval (.tmp 17) = .int .i64 x.1 := KS_val (hd.val 3 17 (by decide +kernel)) rfl
            refine wp_call 38 _ (run_enter 38 _ _ rfl (by kernel_rfl)) ?_
            simp only [List.map_toArray, List.map_nil, List.map_cons, e15, e17]
            refine (C1.out _).mono ?_
            rintro e w5 ⟨rfl, hb5⟩
            exact ⟨_, rfl, KS_mkv rfl rfl, hb5⟩
          · skip
            intro Q
            have e3 : a'.eval (.tmp 3) = .pointer (some ⟨N + 1, 0, none⟩) := hk.at 3 (by decide +kernel)
            exact wp_load_row 24 _ rfl _ _ e3 (By (k).1) _ ((K3.out.kept hg).range0) Tryd.underlying24 rfl (Tryd.sizeH _) (KS_mkv rfl rfl)
          · skip
            intro Q
            have e6 : a'.eval (.tmp 6) = .pointer (some ⟨M, 0, none⟩) := hk.at 6 (by decide +kernel)
            clear hd hk
            exact wp_value (.pointer (some ⟨M, 0, none⟩)) (by simp only [execOp, e6]; go_simp) (KS_mkv rfl rfl)
          · skip
            intro Q
            have e20 : a'.eval (.tmp 20) = .pointer (some ⟨M, 0, none⟩) := KS_val (hd.val 6 20 (by decide +kernel)) rfl
            have hc := SEbit (X3.out.kept hg).range0
            clear hd hk
            exact wp_value (.int .i64 x.1) (by simp only [execOp, e20]; go_simp) (KS_mkv rfl rfl)
          · skip
            intro Q
            have e19 : a'.eval (.tmp 19) = HV k := KS_val (hd.val 5 19 (by decide +kernel)) rfl
            have e21 : a'.eval (.tmp 21) = .int .i64 x.1 := KS_val (hd.val 7 21 (by decide +kernel)) rfl
            refine wp_call 38 _ (run_enter 38 _ _ rfl (by kernel_rfl)) ?_
            simp only [List.map_toArray, List.map_nil, List.map_cons, e19, e21]
            refine (C2.out _).mono ?_
            rintro e w5 ⟨rfl, hb5⟩
            exact ⟨_, rfl, KS_mkv rfl rfl, hb5⟩
          · skip
            intro Q
            have e18 : a'.eval (.tmp 18) = .int .i64 b1 := KS_val (hd.val 4 18 (by decide +kernel)) rfl
            have e22 : a'.eval (.tmp 22) = .int .i64 b1 := KS_val (hd.val 8 22 (by decide +kernel)) rfl
            clear hd hk
            exact wp_value (.bool false) (by simp only [execOp, e18, e22]; go_simp) (KS_mkv rfl rfl)
        · intro a' w4 hsz hdf hk hall hg
          have e14 : a'.eval (.tmp 14) = .pointer (some ⟨N, 2, none⟩) := KS_val (hall 0 _ 14 rfl rfl) rfl
          have e15 : a'.eval (.tmp 15) = HV p.2.2.1 := KS_val (hall 1 _ 15 rfl rfl) rfl
          have e16 : a'.eval (.tmp 16) = .pointer (some ⟨M, 0, none⟩) := KS_val (hall 2 _ 16 rfl rfl) rfl
          have e17 : a'.eval (.tmp 17) = .int .i64 x.1 := KS_val (hall 3 _ 17 rfl rfl) rfl
          have e18 : a'.eval (.tmp 18) = .int .i64 b1 := KS_val (hall 4 _ 18 rfl rfl) rfl
          have e19 : a'.eval (.tmp 19) = HV k := KS_val (hall 5 _ 19 rfl rfl) rfl
          have e20 : a'.eval (.tmp 20) = .pointer (some ⟨M, 0, none⟩) := KS_val (hall 6 _ 20 rfl rfl) rfl
          have e21 : a'.eval (.tmp 21) = .int .i64 x.1 := KS_val (hall 7 _ 21 rfl rfl) rfl
          have e22 : a'.eval (.tmp 22) = .int .i64 b1 := KS_val (hall 8 _ 22 rfl rfl) rfl
          have e23 : a'.eval (.tmp 23) = .bool false := KS_val (hall 9 _ 23 rfl rfl) rfl
          have ha := act_puts 25 rfl hsz hdf hk [14, 15, 16, 17, 18, 19, 20, 21, 22, 23] (by decide +kernel)
          simp only [puts, List.foldl_cons, List.foldl_nil, e14, e15, e16, e17, e18, e19, e20, e21, e22, e23] at ha
          simp only [Act.put, List.setIfInBounds_toArray, List.set_cons_succ, List.set_cons_zero] at ha
          clear hall hk hsz hdf e14 e15 e16 e17 e18 e19 e20 e21 e22 e23
          subst ha
          have L4 : Hid (Below N w w4) := (show _ from L3.out.trans (hg.mono (by have := P3.out.lt; omega)))
          have P4 := hide (P3.out.kept hg)
          have K4 := hide (K3.out.kept hg)
          clear hg
          go_wp2_with fail
          go_roundg (n + 1 - (i + 1))
          case measure => omega
          case rel => exact ⟨i + 1, by omega, by omega, by go_num, RN, L4, P4, K4⟩
      · have RF : Hid (leadsP k p = false) := (show _ = _ by rw [RI2.out, decide_eq_false hne]; rfl)
        go_upto_region 4 with (first
          | (refine wpList_load_mid rfl 70 _ rfl ba (oa + i * 33) rfl (SE.c x) _ hx Tryd.underlying70 rfl (Tryd.sizeS x) ?_)
          | (rw [HM.out]; refine wpList_store_blk rfl 70 _ _ rfl M (SE.c zs) (SE.c x) 70 rfl rfl (by rw [← HM.out]; exact Blk.new wr 70 (SE.c zs)) (by rw [SE_len, SE_len]) (Tryd.sizeS x) (SE.one x) ?_; intro w3 hb3 hu3; have D3 : Below wr.heap.size wr w3 := (((Below.refl _ _).alloc (Nat.le_refl _) _).trans (hu3.below (Nat.le_of_eq HM.out) (by simp))); have L3 : Hid (Below N w w3) := (show _ from LR.out.trans (D3.mono hGR)); have cb := SEbit hb3.range0; have X3 := hide hb3; have P3 := hide (PR.out.kept D3); have K3 := hide (KR.out.kept D3); clear hb3 hu3 D3)
          | fail)
        refine wp_region_inv Tryd.mixed (KS (fun i_ => match i_ with | 0 => .val (.pointer (some ⟨N, 2, none⟩)) | 1 => .val (HV p.2.2.1) | 2 | 6 => .val (.pointer (some ⟨M, 0, none⟩)) | 3 | 7 => .val (.int .i64 x.1) | 4 => .val (.int .i64 b1) | 5 => .val (HV k) | 8 => .val (.int .i64 b2) | 9 => .val (.bool true) | _ => .free)) 25 rfl (by decide +kernel) (KS_mono _) ?_ ?_
        · refine AllFrom.cons (fun a' w' hg hk hd => ?_) (AllFrom.cons (fun a' w' hg hk hd => ?_) (AllFrom.cons (fun a' w' hg hk hd => ?_) (AllFrom.cons (fun a' w' hg hk hd => ?_) (AllFrom.cons (fun a' w' hg hk hd => ?_) (AllFrom.cons (fun a' w' hg hk hd => ?_) (AllFrom.cons (fun a' w' hg hk hd => ?_) (AllFrom.cons (fun a' w' hg hk hd => ?_) (AllFrom.cons (fun a' w' hg hk hd => ?_) (AllFrom.cons (fun a' w' hg hk hd => ?_) AllFrom.nil)))))))))
          · skip
            intro Q
            have e2 : a'.eval (.tmp 2) = .pointer (some ⟨N, 0, none⟩) := hk.at 2 (by decide +kernel)
            clear hd hk
            exact wp_value (.pointer (some ⟨N, 2, none⟩)) (by simp only [execOp, e2]; go_simp) (KS_mkv rfl rfl)
          · skip
            intro Q
            have e14 : a'.eval (.tmp 14) = .pointer (some ⟨N, 2, none⟩) := KS_val (hd.val 0 14 (by decide +kernel)) rfl
            exact wp_load_row 24 _ rfl _ _ e14 (By (p.2.2.1).1) _ (PrC.key (P3.out.kept hg)) Tryd.underlying24 rfl (Tryd.sizeH _) (KS_mkv rfl rfl)
          · skip
            intro Q
            have e6 : a'.eval (.tmp 6) = .pointer (some ⟨M, 0, none⟩) := hk.at 6 (by decide +kernel)
            clear hd hk
            exact wp_value (.pointer (some ⟨M, 0, none⟩)) (by simp only [execOp, e6]; go_simp) (KS_mkv rfl rfl)
          · skip
            intro Q
            have e16 : a'.eval (.tmp 16) = .pointer (some ⟨M, 0, none⟩) := KS_val (hd.val 2 16 (by decide +kernel)) rfl
            have hc := SEbit (X3.out.kept hg).range0
            clear hd hk
            exact wp_value (.int .i64 x.1) (by simp only [execOp, e16]; go_simp) (KS_mkv rfl rfl)
          · skip
            intro Q
            have e15 : a'.eval (.tmp 15) = HV p.2.2.1 := KS_val (hd.val 1 15 (by decide +kernel)) rfl
            have e17 : a'.eval (.tmp 17) = .int .i64 x.1 := KS_val (hd.val 3 17 (by decide +kernel)) rfl
            refine wp_call 38 _ (run_enter 38 _ _ rfl (by kernel_rfl)) ?_
            simp only [List.map_toArray, List.map_nil, List.map_cons, e15, e17]
            refine (C1.out _).mono ?_
            rintro e w5 ⟨rfl, hb5⟩
            exact ⟨_, rfl, KS_mkv rfl rfl, hb5⟩
          · skip
            intro Q
            have e3 : a'.eval (.tmp 3) = .pointer (some ⟨N + 1, 0, none⟩) := hk.at 3 (by decide +kernel)
            exact wp_load_row 24 _ rfl _ _ e3 (By (k).1) _ ((K3.out.kept hg).range0) Tryd.underlying24 rfl (Tryd.sizeH _) (KS_mkv rfl rfl)
          · skip
            intro Q
            have e6 : a'.eval (.tmp 6) = .pointer (some ⟨M, 0, none⟩) := hk.at 6 (by decide +kernel)
            clear hd hk
            exact wp_value (.pointer (some ⟨M, 0, none⟩)) (by simp only [execOp, e6]; go_simp) (KS_mkv rfl rfl)
          · skip
            intro Q
            have e20 : a'.eval (.tmp 20) = .pointer (some ⟨M, 0, none⟩) := KS_val (hd.val 6 20 (by decide +kernel)) rfl
            have hc := SEbit (X3.out.kept hg).range0
            clear hd hk
            exact wp_value (.int .i64 x.1) (by simp only [execOp, e20]; go_simp) (KS_mkv rfl rfl)
          · skip
            intro Q
            have e19 : a'.eval (.tmp 19) = HV k := KS_val (hd.val 5 19 (by decide +kernel)) rfl
            have e21 : a'.eval (.tmp 21) = .int .i64 x.1 := KS_val (hd.val 7 21 (by decide +kernel)) rfl
            refine wp_call 38 _ (run_enter 38 _ _ rfl (by kernel_rfl)) ?_
            simp only [List.map_toArray, List.map_nil, List.map_cons, e19, e21]
            refine (C2.out _).mono ?_
            rintro e w5 ⟨rfl, hb5⟩
            exact ⟨_, rfl, KS_mkv rfl rfl, hb5⟩
          · skip
            intro Q
            have e18 : a'.eval (.tmp 18) = .int .i64 b1 := KS_val (hd.val 4 18 (by decide +kernel)) rfl
            have e22 : a'.eval (.tmp 22) = .int .i64 b2 := KS_val (hd.val 8 22 (by decide +kernel)) rfl
            clear hd hk
            exact wp_value (.bool true) (by simp only [execOp, e18, e22]; go_simp; first | done | exact hne | simp [hne]) (KS_mkv rfl rfl)
        · intro a' w4 hsz hdf hk hall hg
          have e14 : a'.eval (.tmp 14) = .pointer (some ⟨N, 2, none⟩) := KS_val (hall 0 _ 14 rfl rfl) rfl
          have e15 : a'.eval (.tmp 15) = HV p.2.2.1 := KS_val (hall 1 _ 15 rfl rfl) rfl
          have e16 : a'.eval (.tmp 16) = .pointer (some ⟨M, 0, none⟩) := KS_val (hall 2 _ 16 rfl rfl) rfl
          have e17 : a'.eval (.tmp 17) = .int .i64 x.1 := KS_val (hall 3 _ 17 rfl rfl) rfl
          have e18 : a'.eval (.tmp 18) = .int .i64 b1 := KS_val (hall 4 _ 18 rfl rfl) rfl
          have e19 : a'.eval (.tmp 19) = HV k := KS_val (hall 5 _ 19 rfl rfl) rfl
          have e20 : a'.eval (.tmp 20) = .pointer (some ⟨M, 0, none⟩) := KS_val (hall 6 _ 20 rfl rfl) rfl
          have e21 : a'.eval (.tmp 21) = .int .i64 x.1 := KS_val (hall 7 _ 21 rfl rfl) rfl
          have e22 : a'.eval (.tmp 22) = .int .i64 b2 := KS_val (hall 8 _ 22 rfl rfl) rfl
          have e23 : a'.eval (.tmp 23) = .bool true := KS_val (hall 9 _ 23 rfl rfl) rfl
          have ha := act_puts 25 rfl hsz hdf hk [14, 15, 16, 17, 18, 19, 20, 21, 22, 23] (by decide +kernel)
          simp only [puts, List.foldl_cons, List.foldl_nil, e14, e15, e16, e17, e18, e19, e20, e21, e22, e23] at ha
          simp only [Act.put, List.setIfInBounds_toArray, List.set_cons_succ, List.set_cons_zero] at ha
          clear hall hk hsz hdf e14 e15 e16 e17 e18 e19 e20 e21 e22 e23
          subst ha
          have L4 : Hid (Below N w w4) := (show _ from L3.out.trans (hg.mono (by have := P3.out.lt; omega)))
          have P4 := hide (P3.out.kept hg)
          have K4 := hide (K3.out.kept hg)
          clear hg
          go_wp2_with fail
          go_ret
          exact ⟨by rw [RF.out]; rfl, L4.out⟩
    · obtain rfl : i = n := by omega
      have q2 : ¬ (i : Int) < (i : Int) := by omega
      have RT : Hid (leadsP k p = true) := (show _ = _ by rw [RI.out, List.drop_of_length_le (by rw [HNL.out]; exact Nat.le_refl _)]; rfl)
      go_wp2_with fail
      go_ret
      exact ⟨by rw [RT.out]; rfl, LR.out⟩
#print axioms bGood_any
#print axioms eGood_any
#print axioms bleads_any
end Go.Proofs.YtooffljimdklfaaDoor

/-
  slices.Backward's function over steps; member.Climb and member.Check: what the calls do.
-/
namespace Go.Proofs.YtooffljimdklfaaDoor
open Go.RowKit Go.Shelf
attribute [local go_sem] Oper.semAt_some
def sbV (x : Nat × Sp) : Array Value := #[.int .i64 (x.1 : Int), .agg (SE.c x.2).toArray]
def sbR (F : List Sp) (pre : List (Nat × Sp)) (x : Nat × Sp) : Prop := pre.length + x.1 + 1 = F.length ∧ F[x.1]? = some x.2
set_option maxHeartbeats 1000000 in
set_option maxRecDepth 100000 in
theorem sbackward_any (a : Option Addr) (n cap : Nat) (w : World) : Calls Tryd.prog 36 #[.slice a n cap] w fun e w' => e = .returned (.func (.func 53) #[] #[.pointer (some ⟨w.heap.size, 0, none⟩)]) ∧ w' = w.alloc (.cells #[.slice a n cap] 37) := by
  go_enter Tryd.func36, Tryd.ntmps36
  go_wp2
  go_ret
  exact ⟨rfl, rfl⟩
set_option maxRecDepth 100000 in
set_option maxHeartbeats 4000000 in
theorem sbackward1_hands (Bx : Nat) (a : Option Addr) (cap : Nat) (F : List Sp) (w : World) (hbox : w.cell? ⟨Bx, 0, none⟩ = some (.slice a F.length cap)) (hBx : Bx < w.heap.size) (hr : RdG SE w (.slice a F.length cap) F) (hl : F.length ≤ 140737488300000)
    {G : Nat → Prop} (hGb : ¬ G Bx) (hGr : ∀ b, InB (.slice a F.length cap) b → ¬ G b) :
    Hands3 Tryd.prog 53 #[.pointer (some ⟨Bx, 0, none⟩)] sbV (sbR F) (fun xs => xs.length = F.length) G w := by
  intro l J Jx W hW hl1 hl2 h0 hJ hJx _ _ hY
  obtain ⟨m, HM⟩ : ∃ m, Hid (F.length = m) := ⟨_, rfl⟩
  have HR := hide hr
  have HG := hide hGr
  clear hr hGr
  rw [HM.out] at hbox HR HG hl ⊢
  have HY := hide hY
  have H0 := hide (h0 W (Below.refl _ _))
  obtain ⟨B, HB⟩ : ∃ B, Hid (W.heap.size = B) := ⟨_, rfl⟩
  rw [HB.out] at H0
  have HBW : Hid (w.heap.size ≤ B) := (show _ by rw [← HB.out]; exact hW.size)
  have HBX := hide hbox
  have hcW : W.cell? ⟨Bx, 0, none⟩ = some (.slice a m cap) := (hW.cell (p := ⟨Bx, 0, none⟩) hBx).trans hbox
  have HL1 := hide hl1
  clear hY hJ hJx h0 hbox hl1 hl2
  obtain ⟨N0, -⟩ : ∃ n : Nat, True := ⟨9, trivial⟩
  refine (callsIn_wide (n := N0)).1 ?_
  refine callsIn_of_wp Tryd.func53 rfl trivial ?_ rfl
  simp only [Tryd.ntmps53, List.size_toArray, List.length_cons, List.length_nil, Nat.reduceAdd, Nat.reduceSub, Array.replicate_succ, Array.replicate_zero, List.push_toArray, List.append_toArray, List.nil_append, List.cons_append]
  gi_wp2
  gi_loopw [3] (fun p wr => ∃ (pre : List (Nat × Sp)) (r : Nat), p = .int .i64 ((r : Int) - 1) ∧ Hid (J B pre wr) ∧ Hid (Chg (fun k => G k ∨ k = l ∨ B ≤ k) w wr) ∧ Hid (pre.length + r = m)) (fun p _ => (intOf p + 1).toNat)
  case atStart => exact ⟨[], m, rfl, H0, Chg.of_below hW, (show _ = _ by simp)⟩
  case round =>
    obtain ⟨pre, r, rfl, HP, HC, HL⟩ := hrel
    have hc0 : wr.cell? ⟨Bx, 0, none⟩ = some (.slice a m cap) := (HC.out.cellAt hBx (by rintro (h | h | h); exact hGb h; have := HL1.out; omega; have := HBW.out; omega)).trans HBX.out
    cases r with
    | zero =>
      have q1 : ¬ (0 : Int) ≤ ((0 : Nat) : Int) - 1 := by omega
      gi_wp2_with fail
      refine bodyPost_end (results_none rfl _ _ _) rfl ?_
      exact ⟨⟨_, rfl⟩, .inl ⟨B, pre, by have := HL.out; omega, HP.out⟩⟩
    | succ r =>
      have q1 : (0 : Int) ≤ (((r + 1 : Nat) : Int)) - 1 := by omega
      have er : (((r + 1 : Nat) : Int)) - 1 = (r : Int) := by omega
      rw [er] at q1 ⊢
      have hrm : r < m := by have := HL.out; omega
      obtain ⟨b, off, ha, hlb, hx⟩ := (HR.out.chg HC.out (by intro b hb; have hbw := HR.out.inB_lt hb; rintro (h | h | h); exact HG.out b hb h; have := HL1.out; omega; have := HBW.out; omega)).nth (by omega)
      have hmk : r < F.length := by rw [HM.out]; exact hrm
      have c0 : wr.rangeAt b (off + r * 33) (SE.c F[r]) := hx r hmk
      have HX : Hid (F[r]? = some F[r]) := List.getElem?_eq_getElem hmk
      generalize F[r] = km at c0 HX
      have hmn : (r : Int) < (m : Int) := by omega
      subst ha
      clear hx
      obtain ⟨fn, tmps, assign, body, hy, hR⟩ := HY.out B pre (r, km) wr (by rw [HB.out]; exact Nat.le_refl _) HP.out ⟨by have := HL.out; rw [HM.out]; omega, HX.out⟩
      simp only [sbV] at hy
      have HRR := hide hR
      clear hR
      gi_wp2_with (first
        | (refine wpListIn_load_row9 rfl 70 _ rfl b (off + r * 33) rfl (SE.c km) _ c0 Tryd.underlying70 rfl (Tryd.sizeS _) ?_)
        | fail)
      refine ⟨fun h => by simp [Fence.wide] at h, (round_any HRR.out).mono ?_⟩
      rintro e w3 ⟨hc3, -, ⟨rfl, hj⟩ | ⟨rfl, hj⟩⟩
      · gi_wp2_with fail
        go_roundw
        case rel => exact ⟨pre ++ [(r, km)], r, by go_num, hj, HC.out.trans hc3, (show _ = _ by have := HL.out; rw [List.length_append, List.length_singleton]; omega)⟩
        case measure => simp only [intOf]; omega
      · gi_wp2_with fail
        refine bodyPost_ret (results_none rfl _ _ _) rfl ?_
        exact ⟨⟨_, rfl⟩, .inr ⟨_, _, hj⟩⟩
theorem rises_mem : ∀ (l : List Sp) (b : Int), -1 ≤ b → rises b l = true → ∀ s ∈ l, 0 ≤ s.1 ∧ s.1 ≤ 255
  | [], _, _, _, _, hs => by cases hs
  | x :: l, b, hb, h, s, hs => by
    unfold rises at h
    rw [Bool.and_eq_true, Bool.and_eq_true, Bool.not_eq_true', Bool.not_eq_true', decide_eq_false_iff_not, decide_eq_false_iff_not] at h
    obtain ⟨⟨h1, h2⟩, h3⟩ := h
    rcases List.mem_cons.1 hs with rfl | hs
    · omega
    · exact rises_mem l x.1 (by omega) h3 s hs
theorem good_mem {p : Pr} (h : goodP p = true) : ∀ s ∈ p.1, 0 ≤ s.1 ∧ s.1 ≤ 255 := by
  rw [goodP_alt, Bool.and_eq_true] at h
  exact rises_mem p.1 (-1) (by omega) h.1
theorem good_start {p : Pr} (h : goodP p = true) : erP p.2 = startP p := by
  obtain ⟨l, lf, k, v⟩ := p
  unfold goodP at h
  unfold erP startP
  cases lf with
  | true => simp [ze]
  | false =>
    simp only [Bool.false_eq_true, if_false, Bool.and_eq_true, decide_eq_true_eq] at h
    obtain ⟨_, rfl, rfl⟩ := h
    simp [ze]
/-- What is kept while Climb goes back. -/
structure CK (w3 : World) (N E : Nat) (k : Hs) (p : Pr) (st : Hs) (B : Nat) (pre : List (Nat × Sp)) (X : World) : Prop where
  x : Blk X E 24 (By (climbF k (p.1.drop (p.1.length - pre.length)) st).1)
  r : Blk X (N + 2) 24 (By zh.1)
  k : Blk X N 24 (By k.1)
  c : Chg (fun j => j = E ∨ B ≤ j) w3 X
  s : w3.heap.size < B
theorem wpListIn_load_row9g {F : Fence} {n : Nat} {P : Program} {w : World} {ops : Array Oper} {rest : List Oper} {op : Oper} {a : Act} {Q : Exit → Act → World → Prop} (hw : Region.wanted op (yielded ops a.tmps) = true) (ty : TypeId) (x : Operand) (ho : op.op = .load ty x)
    (b o : Nat) (hx : a.eval x = .pointer (some ⟨b, o, none⟩)) (cs : List Value) (d : TypeDesc) (hc : w.rangeAt b o cs)
    (hu : P.underlying ty = some d) (hd : d.isRow = true) (hi : (P.info? ty).map (·.size) = some cs.length)
    (h : wpListIn F n P ops Q rest (a.put op.dst (.agg cs.toArray)) w) : wpListIn F n P ops Q (op :: rest) a w := by
  refine wpListIn_step fun K hK => ?_
  rw [if_pos hw]
  refine ⟨fun f hf => ?_, ?_⟩
  · simp [Oper.about, ho] at hf
  · rw [semAt_load9 ho]
    simp only [execOp, ho, hx, Sem.run_bind, Sem.run_pure, Result.andThen_ok, run_loadAt_mid w b o ty cs d hc hu hd hi]
    exact hK _ _ h
set_option maxHeartbeats 4000000 in
set_option maxRecDepth 100000 in
theorem bClimb_none {w : World} {v : Value} {p : Pr} (k : Hs) (hr : RdG SE w v p.1) (hno : (goodP p && leadsP k p) = false) : Calls Tryd.prog 16 #[HV k, .agg (PrC v p).toArray] w fun e w' => e = .returned (.tuple #[.agg (By zh.1).toArray, .bool false]) ∧ Below w.heap.size w w' := by
  have HR := hide hr
  obtain ⟨a, cp, rfl⟩ := hr.slice
  clear hr
  obtain ⟨n, HNL⟩ : ∃ n, Hid (p.1.length = n) := ⟨_, rfl⟩
  rw [HNL.out] at HR ⊢
  obtain ⟨N, HN⟩ : ∃ N, Hid (w.heap.size = N) := ⟨_, rfl⟩
  rw [HN.out]
  unfold HV
  go_enter Tryd.func16, Tryd.ntmps16
  go_upto_region 1 with fail
  obtain ⟨w1, hw1⟩ : ∃ z, z = ((w.alloc (.cells (By k.1).toArray 24 (0, 0))).alloc (.cells (PrC (.slice a n cp) p).toArray 39 (0, 0))).alloc (.cells (By zh.1).toArray 24 (0, 0)) := ⟨_, rfl⟩
  change Code.wp _ _ _ _ (((w.alloc (.cells (By k.1).toArray 24 (0, 0))).alloc (.cells (PrC (.slice a n cp) p).toArray 39 (0, 0))).alloc (.cells (By zh.1).toArray 24 (0, 0)))
  rw [← hw1, HN.out]
  obtain ⟨b0, b1, b2, ln, sz1⟩ := box3 HN hw1
  clear hw1
  have rk := b0.range0
  have rp := b1.range0
  have P1 := hide b1
  have K1 := hide b0
  have B2 := hide b2
  have L1 := hide ln
  have R1 := hide (HR.out.kept (ln.mono (Nat.le_of_eq HN.out)))
  clear b0 b1 b2 ln
  obtain ⟨z0, HZ0⟩ : ∃ z, Hid (zh = z) := ⟨_, rfl⟩
  have hbz : ∀ W, (Instr.build 24 #[]).run Tryd.prog W = .ok (.agg (By z0.1).toArray) W := fun W => by rw [← HZ0.out]; exact run_build W _ _ _ (by kernel_rfl)
  have CG := hide (bGood_any R1.out)
  obtain ⟨gd, HG⟩ : ∃ z, Hid (goodP p = z) := ⟨_, rfl⟩
  rw [HG.out] at CG
  rw [HG.out] at hno
  cases gd with
  | false =>
    go_wp2_with (first
      | (refine wpList_load_mid rfl 39 _ rfl (N + 1) 0 rfl (PrC (.slice a n cp) p) _ rp Tryd.underlying39 rfl (Tryd.sizePr _ _) ?_)
      | (go_at_call 20; refine CG.out.mono ?_; rintro e w2 ⟨rfl, hb2⟩; have B3 := hide (B2.out.kept hb2); have L2 : Hid (Below N w w2) := (show _ from L1.out.trans (hb2.mono (by omega))); clear hb2)
      | (refine wpList_build rfl 24 _ rfl (.agg (By z0.1).toArray) (by simp only [execOp, List.map_toArray, List.map_nil, Sem.run_bind, Sem.run_pure]; exact congrArg (fun r => Result.andThen r _) (hbz _)) ?_)
      | (refine wpList_store_blk rfl 24 _ _ rfl (N + 2) (By zh.1) (By (z0).1) 24 rfl rfl B3.out (by rw [By_len, By_len]) (Tryd.sizeH _) (By_one _) ?_; intro w7 hb7 hu7)
      | fail)
    refine bodyPost_ret (results_hb rfl _ _ (N + 2) 24 (By z0.1) (.bool false) rfl rfl hb7 Tryd.underlying24 rfl (Tryd.sizeH _)) rfl ⟨by rw [HZ0.out], ?_⟩
    exact L2.out.trans (hu7.below (by omega) (by have := B3.out.lt; omega))
  | true =>
    simp only [Bool.true_and] at hno
    go_wp2_with (first
      | (refine wpList_load_mid rfl 39 _ rfl (N + 1) 0 rfl (PrC (.slice a n cp) p) _ rp Tryd.underlying39 rfl (Tryd.sizePr _ _) ?_)
      | (go_at_call 20; refine CG.out.mono ?_; rintro e w2 ⟨rfl, hb2⟩; have B3 := hide (B2.out.kept hb2); have L2 : Hid (Below N w w2) := (show _ from L1.out.trans (hb2.mono (by omega))); have S2 : Hid (N ≤ w2.heap.size) := (show _ ≤ _ by have := B3.out.lt; omega); have CL := hide (bleads_any k (R1.out.kept hb2)); have rp2 := (P1.out.kept hb2).range0; have rk2 := (K1.out.kept hb2).range0; rw [hno] at CL; clear hb2)
      | (refine wpList_load_w9 rfl 39 _ rfl (N + 1) 0 rfl (PrC (.slice a n cp) p) _ rp2 Tryd.underlying39 rfl (Tryd.sizePr _ _) ?_)
      | (refine wpList_load_w9 rfl 24 _ rfl N 0 rfl (By k.1) _ rk2 Tryd.underlying24 rfl (Tryd.sizeH _) ?_)
      | (go_at_call 33; refine CL.out.mono ?_; rintro e w3 ⟨rfl, hb3⟩; have B4 := hide (B3.out.kept hb3); have L3 : Hid (Below N w w3) := (show _ from L2.out.trans (hb3.mono S2.out)); clear hb3)
      | (refine wpList_build rfl 24 _ rfl (.agg (By z0.1).toArray) (by simp only [execOp, List.map_toArray, List.map_nil, Sem.run_bind, Sem.run_pure]; exact congrArg (fun r => Result.andThen r _) (hbz _)) ?_)
      | (refine wpList_store_blk rfl 24 _ _ rfl (N + 2) (By zh.1) (By (z0).1) 24 rfl rfl B4.out (by rw [By_len, By_len]) (Tryd.sizeH _) (By_one _) ?_; intro w7 hb7 hu7)
      | fail)
    refine bodyPost_ret (results_hb rfl _ _ (N + 2) 24 (By z0.1) (.bool false) rfl rfl hb7 Tryd.underlying24 rfl (Tryd.sizeH _)) rfl ⟨by rw [HZ0.out], ?_⟩
    exact L3.out.trans (hu7.below (by omega) (by have := B4.out.lt; omega))
set_option maxHeartbeats 4000000 in
set_option maxRecDepth 100000 in
theorem bClimb_some {w : World} {v : Value} {p : Pr} (k : Hs) (hr : RdG SE w v p.1) (hn : p.1.length ≤ 1000000) (hT : Tabs w) (hg : goodP p = true) (hl : leadsP k p = true) : Calls Tryd.prog 16 #[HV k, .agg (PrC v p).toArray] w fun e w' => e = .returned (.tuple #[.agg (By (climbF k p.1 (startP p)).1).toArray, .bool true]) ∧ Below w.heap.size w w' := by
  have HT := hide hT
  have HR := hide hr
  obtain ⟨a, cp, rfl⟩ := hr.slice
  clear hr
  obtain ⟨n, HNL⟩ : ∃ n, Hid (p.1.length = n) := ⟨_, rfl⟩
  rw [HNL.out] at HR ⊢
  obtain ⟨N, HN⟩ : ∃ N, Hid (w.heap.size = N) := ⟨_, rfl⟩
  rw [HN.out]
  rw [HNL.out] at hn
  have h2 : 2 ≤ N := by rw [← HN.out]; exact hT.size
  clear hT
  obtain ⟨N0, -⟩ : ∃ n : Nat, True := ⟨9, trivial⟩
  refine (callsIn_wide (n := N0)).1 ?_
  refine callsIn_of_wp_marks Tryd.func16 rfl trivial ?_ rfl
  simp only [Tryd.ntmps16, List.size_toArray, List.length_cons, List.length_nil, Nat.reduceAdd, Nat.reduceSub, Array.replicate_succ, Array.replicate_zero, List.push_toArray, List.append_toArray, List.nil_append, List.cons_append]
  unfold HV
  obtain ⟨w1, hw1⟩ : ∃ z, z = ((w.alloc (.cells (By k.1).toArray 24 (0, 0))).alloc (.cells (PrC (.slice a n cp) p).toArray 39 (0, 0))).alloc (.cells (By zh.1).toArray 24 (0, 0)) := ⟨_, rfl⟩
  obtain ⟨b0, b1, b2, ln, sz1⟩ := box3 HN hw1
  have rp := b1.range0
  rw [hw1, ← HN.out] at rp
  gi_wp2_with (first
    | (refine wpListIn_load_row9 rfl 39 _ rfl (w.heap.size + 1) 0 rfl (PrC (.slice a n cp) p) _ rp Tryd.underlying39 rfl (Tryd.sizePr _ _) ?_)
    | fail)
  rw [HN.out]
  change Fence.wide.fn _ ∧ _ ∧ CallsIn _ _ _ _ _ (((w.alloc (.cells (By k.1).toArray 24 (0, 0))).alloc (.cells (PrC (.slice a n cp) p).toArray 39 (0, 0))).alloc (.cells (By zh.1).toArray 24 (0, 0))) _
  rw [← hw1]
  clear hw1 rp
  have R1 := hide (HR.out.kept (ln.mono (Nat.le_of_eq HN.out)))
  have CG := hide (bGood_any R1.out)
  rw [hg] at CG
  refine wide_call CG.out ?_
  rintro e w2 ⟨rfl, hb2⟩
  have K2 := hide (b0.kept hb2)
  have P2 := hide (b1.kept hb2)
  have Z2 := hide (b2.kept hb2)
  have R2 := hide (R1.out.kept hb2)
  have L2 : Hid (Below N w w2) := (show _ from ln.trans (hb2.mono (by omega)))
  have S2 : Hid (N ≤ w2.heap.size) := (show _ ≤ _ from Nat.le_of_lt K2.out.lt)
  have CL := hide (bleads_any k R2.out)
  rw [hl] at CL
  have rp2 := P2.out.range0
  have rk2 := K2.out.range0
  clear b0 b1 b2 ln sz1 hb2 CG R1
  gi_wp2_with (first
    | (refine wpListIn_load_row9g rfl 39 _ rfl (N + 1) 0 rfl (PrC (.slice a n cp) p) _ rp2 Tryd.underlying39 rfl (Tryd.sizePr _ _) ?_)
    | (refine wpListIn_load_row9g rfl 24 _ rfl N 0 rfl (By k.1) _ rk2 Tryd.underlying24 rfl (Tryd.sizeH _) ?_)
    | fail)
  refine wide_call CL.out ?_
  rintro e w3 ⟨rfl, hb3⟩
  have K3 := hide (K2.out.kept hb3)
  have P3 := hide (P2.out.kept hb3)
  have Z3 := hide (Z2.out.kept hb3)
  have R3 := hide (R2.out.kept hb3)
  have L3 : Hid (Below N w w3) := (show _ from L2.out.trans (hb3.mono S2.out))
  have S3 : Hid (N ≤ w3.heap.size) := (show _ ≤ _ from Nat.le_of_lt K3.out.lt)
  have rp3 := P3.out.range0
  clear hb3 CL rp2 rk2 K2 P2 Z2 R2 L2 S2
  gi_wp2_with (first
    | (refine wpListIn_load_row9 rfl 39 _ rfl (N + 1) 0 rfl (PrC (.slice a n cp) p) _ rp3 Tryd.underlying39 rfl (Tryd.sizePr _ _) ?_)
    | fail)
  refine wide_call (bend_any (.slice a n cp) p w3) ?_
  rintro e w4 ⟨rfl, hb4⟩
  have K4 := hide (K3.out.kept hb4)
  have P4 := hide (P3.out.kept hb4)
  have Z4 := hide (Z3.out.kept hb4)
  have R4 := hide (R3.out.kept hb4)
  have L4 : Hid (Below N w w4) := (show _ from L3.out.trans (hb4.mono S3.out))
  have S4 : Hid (N ≤ w4.heap.size) := (show _ ≤ _ from Nat.le_of_lt K4.out.lt)
  have T4 := hide (HT.out.kept (L4.out.mono h2))
  clear hb4 rp3 K3 P3 Z3 R3 L3 S3
  gi_wp2_with fail
  refine wide_call (eroot_any p.2 w4 T4.out) ?_
  rintro e w5 ⟨rfl, hb5⟩
  have K5 := hide (K4.out.kept hb5)
  have P5 := hide (P4.out.kept hb5)
  have Z5 := hide (Z4.out.kept hb5)
  have R5 := hide (R4.out.kept hb5)
  have L5 : Hid (Below N w w5) := (show _ from L4.out.trans (hb5.mono S4.out))
  have S5 : Hid (N + 2 < w5.heap.size) := Z5.out.lt
  clear hb5 K4 P4 Z4 R4 L4 S4 T4
  obtain ⟨st, HSt⟩ : ∃ z, Hid (erP p.2 = z) := ⟨_, rfl⟩
  have HSTP : Hid (startP p = st) := (show _ = _ by rw [← good_start hg, HSt.out])
  rw [HSt.out]
  obtain ⟨E, HE⟩ : ∃ E, Hid (w5.heap.size = E) := ⟨_, rfl⟩
  gi_wp2_with (first
    | (rw [HE.out]; refine wpListIn_store_blk rfl 24 _ _ rfl E (By zh.1) (By st.1) 24 rfl rfl (by rw [← HE.out]; exact Blk.new w5 24 (By zh.1)) (by rw [By_len, By_len]) (Tryd.sizeH _) (By_one _) ?_; intro w6 hb6 hu6 hz6; have D6 : Below w5.heap.size w5 w6 := (((Below.refl _ _).alloc (Nat.le_refl _) _).trans (hu6.below (Nat.le_of_eq HE.out) (by simp))); have K6 := hide (K5.out.kept D6); have P6 := hide (P5.out.kept D6); have Z6 := hide (Z5.out.kept D6); have R6 := hide (R5.out.kept D6); have X6 := hide hb6; have L6 : Hid (Below N w w6) := (show _ from L5.out.trans (D6.mono (by have := S5.out; omega))); have cs6 := PrC.steps P6.out; clear hb6 hu6 hz6 D6)
    | fail)
  clear K5 P5 Z5 R5 L5
  refine wide_call (sbackward_any a n cp w6) ?_
  rintro e w7 ⟨rfl, hw7⟩
  obtain ⟨U, HU⟩ : ∃ U, Hid (w6.heap.size = U) := ⟨_, rfl⟩
  rw [HU.out]
  obtain ⟨bu, lu, sz7⟩ := box1 (A := [.slice a n cp]) HU hw7
  have D7 : Below w6.heap.size w6 w7 := by rw [HU.out]; exact lu
  have hEU : E < U := by rw [← HU.out]; exact X6.out.lt
  have hNE : N + 2 < E := by rw [← HE.out]; exact S5.out
  have BU := hide bu
  have K7 := hide (K6.out.kept D7)
  have Z7 := hide (Z6.out.kept D7)
  have R7 := hide (R6.out.kept D7)
  have X7 := hide (X6.out.kept D7)
  have L7 : Hid (Below N w w7) := (show _ from L6.out.trans (D7.mono (by rw [HU.out]; omega)))
  have T7 := hide (HT.out.kept (L7.out.mono h2))
  have Z71 := hide sz7
  have HIN : Hid (∀ b, InB (.slice a n cp) b → b < N) := (show _ from fun b hb => by rw [← HN.out]; exact HR.out.inB_lt hb)
  have HGM := hide (good_mem hg)
  clear hw7 bu lu sz7 D7 K6 P6 Z6 R6 X6 L6 cs6 hg hl
  gi_wp2_with fail
  have hs7 := Z71.out
  refine wp_ranged4 (n := N0) (gf := 53) (lb := #[PT U]) rfl (enters_of Tryd.func53 (by kernel_rfl) rfl) (encs := sbV) (fun _ => rfl) (R := sbR p.1) (S := fun xs => xs.length = p.1.length) (CK w7 N E k p st) (fun _ _ _ _ => False) ?ip (fun _ _ _ _ _ _ _ _ _ _ h => h) ?ib (fun _ _ _ _ _ h _ => h) ?h0 (G := fun j => j = E)
    (sbackward1_hands U a cp p.1 w7 (by rw [HNL.out]; exact BU.out.cell (j := 0) rfl) BU.out.lt (by rw [HNL.out]; exact R7.out) (by rw [HNL.out]; omega) (by omega) (fun b hb e => by rw [HNL.out] at hb; have := HIN.out b hb; omega))
    (fun x_ h => { tmps := #[.agg (By k.1).toArray, .agg (PrC (.slice a n cp) p).toArray, PT N, PT (N + 1), PT (N + 2), .bool false, PT E, undef, PT h, .agg (PrC (.slice a n cp) p).toArray, .bool true, .bool false, .bool false, .agg (PrC (.slice a n cp) p).toArray, .agg (By k.1).toArray, .bool true, .bool false, .bool false, undef, .agg (PrC (.slice a n cp) p).toArray, .agg (EN.c p.2).toArray, HV st, PT (N + 1), .slice a n cp, .func (.func 53) #[] #[PT U], .int .i64 (x_.1 : Int), .agg (SE.c x_.2).toArray, undef, undef, undef, undef, undef, undef, undef, undef], defers := [] }) (fun x h X => Blk X h 70 (SE.c x.2)) ?ap ?assign ?body ?done (fun _ _ _ _ _ _ _ h _ => h.elim)
  case ip =>
    intro B pre X j o0 o hj hX hn hI
    have hp := chg_put (G := fun i => i = j) (W := X) (l := j) rfl o
    exact ⟨hI.x.chg hp (by omega), hI.r.chg hp (by omega), hI.k.chg hp (by omega), hI.c.then hp (fun i hi e => by omega), hI.s⟩
  case ib =>
    intro B pre X Y hI hb
    exact ⟨hI.x.kept hb, hI.r.kept hb, hI.k.kept hb, hI.c.then (Chg.of_below (F := fun _ => False) hb) (fun _ _ h => h.elim), hI.s⟩
  case h0 =>
    intro X hX hlt
    refine ⟨?_, Z7.out.kept hX, K7.out.kept hX, Chg.of_below hX, hlt⟩
    rw [List.length_nil, Nat.sub_zero, List.drop_length]
    exact X7.out.kept hX
  case ap =>
    intro x h X j o0 o hj hX hn hB
    exact hB.put10 hX hn
  case assign =>
    intro m l' x X K' hle hK
    have BW := Blk.new X 70 (SE.c zs)
    have HK := hide hK
    clear hK
    simp only [sbV]
    gi_wp2_with (first
      | (refine wpListIn_store_blk rfl 70 _ _ rfl X.heap.size (SE.c zs) (SE.c x.2) 70 rfl rfl BW (by rw [SE_len, SE_len]) (Tryd.sizeS _) (SE.one _) ?_; intro w5 hb5 hu5 hz5)
      | fail)
    exact HK.out w5 (((Below.refl _ _).alloc (Nat.le_refl _) _).trans (hu5.below (Nat.le_refl _) (by simp))) hb5
  case body =>
    rintro m l' B pre ⟨r, s⟩ h X hwB hBh hle hI hR hA
    obtain ⟨hR1, hR2⟩ := hR
    simp only at hR1 hR2 hA
    obtain ⟨hrl, hrs⟩ := List.getElem?_eq_some_iff.1 hR2
    obtain ⟨hb0, hb1⟩ := HGM.out s (List.mem_of_getElem? hR2)
    obtain ⟨i, S, rfl⟩ : ∃ (i : Nat) (S : Hs), s = ((i : Int), S) := ⟨s.1.toNat, s.2, by rw [Int.toNat_of_nonneg hb0]⟩
    have HST : Hid (climbF k (p.1.drop r) st = joinP k ((i : Int), S) (climbF k (p.1.drop (r + 1)) st)) := (show _ = _ by rw [List.drop_eq_getElem_cons hrl, hrs]; rfl)
    have ix := hI.x
    have HQL : Hid (p.1.length - pre.length = r + 1) := (show _ = _ by omega)
    have HQL2 : Hid (p.1.length - (pre ++ [(r, ((i : Int), S))]).length = r) := (show _ = _ by rw [List.length_append, List.length_singleton]; omega)
    rw [HQL.out] at ix
    obtain ⟨y, HY⟩ : ∃ y, Hid (climbF k (p.1.drop (r + 1)) st = y) := ⟨_, rfl⟩
    rw [HY.out] at ix HST
    have IX := hide ix
    have IR := hide hI.r
    have KX := hide hI.k
    have IC := hide hI.c
    have HAf := hide hA
    have TW : Hid (Tabs X) := T7.out.kept (hI.c.below (by omega) (fun j hj h => by rcases h with h | h <;> omega))
    have CB := hide (fun w => kBit_any k (i : Int) w)
    have HJ : Hid (joinP k ((i : Int), S) y = if bit k i then fkH i S y else fkH i y S) := (show _ = _ by unfold joinP; simp only; rw [bitZ_cut, Int.toNat_natCast]; cases bit k i <;> simp)
    rw [bitZ_nat] at CB
    unfold bitN at CB
    obtain ⟨sd, HS⟩ : ∃ s, Hid (bit k i = s) := ⟨_, rfl⟩
    rw [HS.out] at CB HJ
    clear hI hA hR2 ix hrl hrs hR1 hb0 hb1
    gi_wp2_with fail
    cases sd with
    | false =>
      have HST2 : Hid (climbF k (p.1.drop (p.1.length - (pre ++ [(r, ((i : Int), S))]).length)) st = fkH i y S) := (show _ = _ by rw [HQL2.out, HST.out, HJ.out]; simp)
      refine wpIn_region_tails op_in Tryd.mixed (by decide +kernel) (KS (fun i_ => match i_ with | 0 => .val (.agg (SE.c ((i : Int), S)).toArray) | 1 => .val (HV k) | 2 => .val (.pointer (some ⟨h, 0, none⟩)) | 3 => .val (.int .i64 (i : Int)) | 4 => .val (.int .i64 0) | 5 => .val (HV y) | 6 => .val (HV (fkH i y S)) | _ => .free)) 35 rfl (by decide +kernel) 7 (by decide) (by decide +kernel) (KS_mono _) ?_ ?_
      · refine AllFrom.cons ⟨rfl, fun a' w' hg hk hd => ?_⟩ (AllFrom.cons ⟨rfl, fun a' w' hg hk hd => ?_⟩ (AllFrom.cons ⟨rfl, fun a' w' hg hk hd => ?_⟩ (AllFrom.cons ⟨rfl, fun a' w' hg hk hd => ?_⟩ (AllFrom.cons ⟨rfl, fun a' w' hg hk hd => ?_⟩ (AllFrom.cons ⟨rfl, fun a' w' hg hk hd => ?_⟩ (AllFrom.cons ⟨rfl, fun a' w' hg hk hd => ?_⟩ AllFrom.nil))))))
        · skip
          intro Q
          have e8 : a'.eval (.tmp 8) = .pointer (some ⟨h, 0, none⟩) := hk.at 8 (by decide +kernel)
          exact wp_load_row 70 _ rfl _ _ e8 (SE.c ((i : Int), S)) _ ((HAf.out.kept hg).range0) Tryd.underlying70 rfl (Tryd.sizeS _) (KS_mkv rfl rfl)
        · skip
          intro Q
          have e2 : a'.eval (.tmp 2) = .pointer (some ⟨N, 0, none⟩) := hk.at 2 (by decide +kernel)
          exact wp_load_row 24 _ rfl _ _ e2 (By (k).1) _ ((KX.out.kept hg).range0) Tryd.underlying24 rfl (Tryd.sizeH _) (KS_mkv rfl rfl)
        · skip
          intro Q
          have e8 : a'.eval (.tmp 8) = .pointer (some ⟨h, 0, none⟩) := hk.at 8 (by decide +kernel)
          clear hd hk
          exact wp_value (.pointer (some ⟨h, 0, none⟩)) (by simp only [execOp, e8]; go_simp) (KS_mkv rfl rfl)
        · skip
          intro Q
          have e29 : a'.eval (.tmp 29) = .pointer (some ⟨h, 0, none⟩) := KS_val (hd.val 2 29 (by decide +kernel)) rfl
          have hc := SEbit (HAf.out.kept hg).range0
          clear hd hk
          exact wp_value (.int .i64 (i : Int)) (by simp only [execOp, e29]; go_simp) (KS_mkv rfl rfl)
        · skip
          intro Q
          have e28 : a'.eval (.tmp 28) = HV k := KS_val (hd.val 1 28 (by decide +kernel)) rfl
          have e30 : a'.eval (.tmp 30) = .int .i64 (i : Int) := KS_val (hd.val 3 30 (by decide +kernel)) rfl
          refine wp_call 38 _ (run_enter 38 _ _ rfl (by kernel_rfl)) ?_
          simp only [List.map_toArray, List.map_nil, List.map_cons, e28, e30]
          refine (CB.out _).mono ?_
          rintro e w5 ⟨rfl, hb5⟩
          exact ⟨_, rfl, KS_mkv rfl rfl, hb5⟩
        · skip
          intro Q
          have e6 : a'.eval (.tmp 6) = .pointer (some ⟨E, 0, none⟩) := hk.at 6 (by decide +kernel)
          exact wp_load_row 24 _ rfl _ _ e6 (By (y).1) _ ((IX.out.kept hg).range0) Tryd.underlying24 rfl (Tryd.sizeH _) (KS_mkv rfl rfl)
        · skip
          intro Q
          have e27 : a'.eval (.tmp 27) = .agg (SE.c ((i : Int), S)).toArray := KS_val (hd.val 0 27 (by decide +kernel)) rfl
          have e31 : a'.eval (.tmp 31) = .int .i64 0 := KS_val (hd.val 4 31 (by decide +kernel)) rfl
          have e32 : a'.eval (.tmp 32) = HV y := KS_val (hd.val 5 32 (by decide +kernel)) rfl
          refine wp_call 37 _ (run_enter 37 _ _ rfl (by kernel_rfl)) ?_
          simp only [List.map_toArray, List.map_nil, List.map_cons, e27, e31, e32]
          refine (join0_any i S y _ (TW.out.gr hg)).mono ?_
          rintro e w5 ⟨rfl, hb5⟩
          exact ⟨_, rfl, KS_mkv rfl rfl, hb5⟩
      · intro a' w5 hsz hdf hk hall hg
        have e33 : a'.eval (.tmp 33) = HV (fkH i y S) := KS_val (hall 6 _ 33 (by decide) rfl rfl) rfl
        have e6 : a'.eval (.tmp 6) = .pointer (some ⟨E, 0, none⟩) := hk.at 6 (by decide +kernel)
        refine ⟨rfl, op_in (fun c h => by cases h) (wp_store_blk 24 _ _ rfl E (By y.1) (By (fkH i y S).1) 24 e6 e33 (IX.out.kept hg) (by rw [By_len, By_len]) (Tryd.sizeH _) (By_one _) ?_)⟩
        intro w6 hb6 hu6
        refine ⟨_, rfl, ?_⟩
        have hc6 : Chg (fun j => j = E) X w6 := (Chg.of_below hg).trans (Chg.of_but hu6 rfl)
        refine ⟨keeps_chg hc6 (fun j o hk ho => ?_), hc6.mono (fun i _ h => .inl h), ⟨?_, (IR.out.kept hg).but hu6 (by omega), (KX.out.kept hg).but hu6 (by omega), IC.out.then hc6 (fun i _ h => .inl h), hwB⟩⟩
        · subst hk
          have := IX.out.symm.trans ho
          cases this
          rfl
        · rw [HST2.out]
          exact hb6
    | true =>
      have HST2 : Hid (climbF k (p.1.drop (p.1.length - (pre ++ [(r, ((i : Int), S))]).length)) st = fkH i S y) := (show _ = _ by rw [HQL2.out, HST.out, HJ.out]; simp)
      refine wpIn_region_tails op_in Tryd.mixed (by decide +kernel) (KS (fun i_ => match i_ with | 0 => .val (.agg (SE.c ((i : Int), S)).toArray) | 1 => .val (HV k) | 2 => .val (.pointer (some ⟨h, 0, none⟩)) | 3 => .val (.int .i64 (i : Int)) | 4 => .val (.int .i64 1) | 5 => .val (HV y) | 6 => .val (HV (fkH i S y)) | _ => .free)) 35 rfl (by decide +kernel) 7 (by decide) (by decide +kernel) (KS_mono _) ?_ ?_
      · refine AllFrom.cons ⟨rfl, fun a' w' hg hk hd => ?_⟩ (AllFrom.cons ⟨rfl, fun a' w' hg hk hd => ?_⟩ (AllFrom.cons ⟨rfl, fun a' w' hg hk hd => ?_⟩ (AllFrom.cons ⟨rfl, fun a' w' hg hk hd => ?_⟩ (AllFrom.cons ⟨rfl, fun a' w' hg hk hd => ?_⟩ (AllFrom.cons ⟨rfl, fun a' w' hg hk hd => ?_⟩ (AllFrom.cons ⟨rfl, fun a' w' hg hk hd => ?_⟩ AllFrom.nil))))))
        · skip
          intro Q
          have e8 : a'.eval (.tmp 8) = .pointer (some ⟨h, 0, none⟩) := hk.at 8 (by decide +kernel)
          exact wp_load_row 70 _ rfl _ _ e8 (SE.c ((i : Int), S)) _ ((HAf.out.kept hg).range0) Tryd.underlying70 rfl (Tryd.sizeS _) (KS_mkv rfl rfl)
        · skip
          intro Q
          have e2 : a'.eval (.tmp 2) = .pointer (some ⟨N, 0, none⟩) := hk.at 2 (by decide +kernel)
          exact wp_load_row 24 _ rfl _ _ e2 (By (k).1) _ ((KX.out.kept hg).range0) Tryd.underlying24 rfl (Tryd.sizeH _) (KS_mkv rfl rfl)
        · skip
          intro Q
          have e8 : a'.eval (.tmp 8) = .pointer (some ⟨h, 0, none⟩) := hk.at 8 (by decide +kernel)
          clear hd hk
          exact wp_value (.pointer (some ⟨h, 0, none⟩)) (by simp only [execOp, e8]; go_simp) (KS_mkv rfl rfl)
        · skip
          intro Q
          have e29 : a'.eval (.tmp 29) = .pointer (some ⟨h, 0, none⟩) := KS_val (hd.val 2 29 (by decide +kernel)) rfl
          have hc := SEbit (HAf.out.kept hg).range0
          clear hd hk
          exact wp_value (.int .i64 (i : Int)) (by simp only [execOp, e29]; go_simp) (KS_mkv rfl rfl)
        · skip
          intro Q
          have e28 : a'.eval (.tmp 28) = HV k := KS_val (hd.val 1 28 (by decide +kernel)) rfl
          have e30 : a'.eval (.tmp 30) = .int .i64 (i : Int) := KS_val (hd.val 3 30 (by decide +kernel)) rfl
          refine wp_call 38 _ (run_enter 38 _ _ rfl (by kernel_rfl)) ?_
          simp only [List.map_toArray, List.map_nil, List.map_cons, e28, e30]
          refine (CB.out _).mono ?_
          rintro e w5 ⟨rfl, hb5⟩
          exact ⟨_, rfl, KS_mkv rfl rfl, hb5⟩
        · skip
          intro Q
          have e6 : a'.eval (.tmp 6) = .pointer (some ⟨E, 0, none⟩) := hk.at 6 (by decide +kernel)
          exact wp_load_row 24 _ rfl _ _ e6 (By (y).1) _ ((IX.out.kept hg).range0) Tryd.underlying24 rfl (Tryd.sizeH _) (KS_mkv rfl rfl)
        · skip
          intro Q
          have e27 : a'.eval (.tmp 27) = .agg (SE.c ((i : Int), S)).toArray := KS_val (hd.val 0 27 (by decide +kernel)) rfl
          have e31 : a'.eval (.tmp 31) = .int .i64 1 := KS_val (hd.val 4 31 (by decide +kernel)) rfl
          have e32 : a'.eval (.tmp 32) = HV y := KS_val (hd.val 5 32 (by decide +kernel)) rfl
          refine wp_call 37 _ (run_enter 37 _ _ rfl (by kernel_rfl)) ?_
          simp only [List.map_toArray, List.map_nil, List.map_cons, e27, e31, e32]
          refine (join1_any i S y _ (TW.out.gr hg)).mono ?_
          rintro e w5 ⟨rfl, hb5⟩
          exact ⟨_, rfl, KS_mkv rfl rfl, hb5⟩
      · intro a' w5 hsz hdf hk hall hg
        have e33 : a'.eval (.tmp 33) = HV (fkH i S y) := KS_val (hall 6 _ 33 (by decide) rfl rfl) rfl
        have e6 : a'.eval (.tmp 6) = .pointer (some ⟨E, 0, none⟩) := hk.at 6 (by decide +kernel)
        refine ⟨rfl, op_in (fun c h => by cases h) (wp_store_blk 24 _ _ rfl E (By y.1) (By (fkH i S y).1) 24 e6 e33 (IX.out.kept hg) (by rw [By_len, By_len]) (Tryd.sizeH _) (By_one _) ?_)⟩
        intro w6 hb6 hu6
        refine ⟨_, rfl, ?_⟩
        have hc6 : Chg (fun j => j = E) X w6 := (Chg.of_below hg).trans (Chg.of_but hu6 rfl)
        refine ⟨keeps_chg hc6 (fun j o hk ho => ?_), hc6.mono (fun i _ h => .inl h), ⟨?_, (IR.out.kept hg).but hu6 (by omega), (KX.out.kept hg).but hu6 (by omega), IC.out.then hc6 (fun i _ h => .inl h), hwB⟩⟩
        · subst hk
          have := IX.out.symm.trans ho
          cases this
          rfl
        · rw [HST2.out]
          exact hb6
  case done =>
    rintro Dd B xs X hDd hDB hS hI hd
    have ix := hI.x
    rw [hS, Nat.sub_self, List.drop_zero] at ix
    obtain ⟨y, HXy⟩ : ∃ y, Hid (climbF k p.1 st = y) := ⟨_, rfl⟩
    rw [HXy.out] at ix
    have IX := hide ix
    have IR := hide hI.r
    have ic := hI.c
    clear ix hI
    gi_wp2_with (first
      | (refine wpListIn_load_row9 rfl 24 _ rfl E 0 rfl (By y.1) _ IX.out.range0 Tryd.underlying24 rfl (Tryd.sizeH y) ?_)
      | (refine wpListIn_store_blk rfl 24 _ _ rfl (N + 2) (By zh.1) (By y.1) 24 rfl rfl IR.out (by rw [By_len, By_len]) (Tryd.sizeH y) (By_one _) ?_; intro w9 hb9 hu9 hz9)
      | fail)
    have hD9 : w9.heap[Dd]? = some (.deferred (some [])) := (hu9.block Dd ((Array.getElem?_eq_some_iff.1 hd).1) (by omega)).trans hd
    refine ⟨by simp, .inl ⟨_, _, rfl, run_takeDeferred hD9, ?_⟩⟩
    have hp := chg_put (G := fun j => j = Dd) (W := w9) (l := Dd) rfl (.deferred none)
    refine ⟨_, results_hb rfl _ _ (N + 2) 24 (By y.1) (.bool true) rfl rfl (hb9.chg hp (by omega)) Tryd.underlying24 rfl (Tryd.sizeH y), by rw [HSTP.out, HXy.out], ?_⟩
    have h5 : Chg (fun j => N ≤ j) w7 X := ic.mono (fun i _ h => by rcases h with h | h <;> omega)
    have h6 : Chg (fun j => N ≤ j) X w9 := Chg.of_but hu9 (by show N ≤ N + 2; omega)
    have h7 := (h5.trans h6).trans (hp.mono (fun i _ h => by subst h; show N ≤ i; omega))
    exact L7.out.trans (h7.below (by omega) (fun j hj h => by omega))
theorem bClimb_any {w : World} {v : Value} {p : Pr} (k : Hs) (hr : RdG SE w v p.1) (hn : p.1.length ≤ 1000000) (hT : Tabs w) : Calls Tryd.prog 16 #[HV k, .agg (PrC v p).toArray] w fun e w' => e = .returned (.tuple #[.agg (By (climbP k p).1.1).toArray, .bool (climbP k p).2]) ∧ Below w.heap.size w w' := by
  unfold climbP
  cases h : (goodP p && leadsP k p) with
  | false =>
    have := bClimb_none k hr h
    simpa using this
  | true =>
    rw [Bool.and_eq_true] at h
    have := bClimb_some k hr hn hT h.1 h.2
    simpa using this
#print axioms bClimb_any
end Go.Proofs.YtooffljimdklfaaDoor

/-
  The reference's Climb: what the call does.
-/
namespace Go.Proofs.YtooffljimdklfaaDoor
open Go.RowKit
set_option maxHeartbeats 8000000 in
set_option maxRecDepth 100000 in
theorem eClimb_any {w : World} {v : Value} {p : Pr} (k : Hs) (hr : RdG SE w v p.1) (hn : p.1.length ≤ 1000000) : Calls Tryd.prog 17 #[HV k, .agg (PrC v p).toArray] w fun e w' => e = .returned (.tuple #[.agg (By (climbP k p).1.1).toArray, .bool (climbP k p).2]) ∧ Below w.heap.size w w' := by
  have HR := hide hr
  obtain ⟨a, cp, rfl⟩ := hr.slice
  clear hr
  obtain ⟨n, HNL⟩ : ∃ n, Hid (p.1.length = n) := ⟨_, rfl⟩
  rw [HNL.out] at HR ⊢
  obtain ⟨N, HN⟩ : ∃ N, Hid (w.heap.size = N) := ⟨_, rfl⟩
  rw [HN.out]
  rw [HNL.out] at hn
  unfold HV
  go_enter Tryd.func17, Tryd.ntmps17
  go_upto_region 1 with fail
  obtain ⟨w1, hw1⟩ : ∃ z, z = ((w.alloc (.cells (By k.1).toArray 24 (0, 0))).alloc (.cells (PrC (.slice a n cp) p).toArray 35 (0, 0))).alloc (.cells (By zh.1).toArray 24 (0, 0)) := ⟨_, rfl⟩
  change Code.wp _ _ _ _ (((w.alloc (.cells (By k.1).toArray 24 (0, 0))).alloc (.cells (PrC (.slice a n cp) p).toArray 35 (0, 0))).alloc (.cells (By zh.1).toArray 24 (0, 0)))
  rw [← hw1, HN.out]
  obtain ⟨b0, b1, b2, ln, sz1⟩ := box3 HN hw1
  clear hw1
  have rp := b1.range0
  have P1 := hide b1
  have K1 := hide b0
  have B2 := hide b2
  have L1 := hide ln
  have R1 := hide (HR.out.kept (ln.mono (Nat.le_of_eq HN.out)))
  clear b0 b1 b2 ln
  obtain ⟨z0, HZ0⟩ : ∃ z, Hid (zh = z) := ⟨_, rfl⟩
  have hbz : ∀ W, (Instr.build 24 #[]).run Tryd.prog W = .ok (.agg (By z0.1).toArray) W := fun W => by rw [← HZ0.out]; exact run_build W _ _ _ (by kernel_rfl)
  have CG := hide (eGood_any R1.out)
  obtain ⟨gd, HG⟩ : ∃ z, Hid (goodP p = z) := ⟨_, rfl⟩
  rw [HG.out] at CG
  cases gd with
  | false =>
    have CF : Hid (climbP k p = (zh, false)) := (show _ = _ by unfold climbP; rw [HG.out]; rfl)
    go_wp2_with (first
      | (refine wpList_load_mid rfl 35 _ rfl (N + 1) 0 rfl (PrC (.slice a n cp) p) _ rp Tryd.underlying35 rfl (Tryd.sizeRp _ _) ?_)
      | (go_at_call 21; refine CG.out.mono ?_; rintro e w2 ⟨rfl, hb2⟩; have B3 := hide (B2.out.kept hb2); have L2 : Hid (Below N w w2) := (show _ from L1.out.trans (hb2.mono (by omega))); clear hb2)
      | (refine wpList_build rfl 24 _ rfl (.agg (By z0.1).toArray) (by simp only [execOp, List.map_toArray, List.map_nil, Sem.run_bind, Sem.run_pure]; exact congrArg (fun r => Result.andThen r _) (hbz _)) ?_)
      | (refine wpList_store_blk rfl 24 _ _ rfl (N + 2) (By zh.1) (By (z0).1) 24 rfl rfl B3.out (by rw [By_len, By_len]) (Tryd.sizeH _) (By_one _) ?_; intro w7 hb7 hu7)
      | fail)
    refine bodyPost_ret (results_hb rfl _ _ (N + 2) 24 (By z0.1) (.bool false) rfl rfl hb7 Tryd.underlying24 rfl (Tryd.sizeH _)) rfl ⟨by rw [CF.out, HZ0.out], ?_⟩
    exact L2.out.trans (hu7.below (by omega) (by have := B3.out.lt; omega))
  | true =>
    have HGM := hide (good_mem HG.out)
    have HCP : Hid (climbP k p = if leadsP k p then (climbF k p.1 (startP p), true) else (zh, false)) := (show _ = _ by unfold climbP; rw [HG.out, Bool.true_and])
    obtain ⟨lf, HLF⟩ : ∃ z, Hid (p.2.1 = z) := ⟨_, rfl⟩
    have CL : Hid (∀ W, Below w1.heap.size w1 W → W.cell? ⟨N + 1, 1, none⟩ = some (.bool lf)) := (show _ from fun W hW => by rw [← HLF.out]; exact PrC.leaf (P1.out.kept hW))
    have AR : Hid True := trivial
    cases lf with
    | false =>
      have CT : Hid (climbP k p = (ntH, true)) := (show _ = _ by
        have hg := HG.out
        unfold goodP at hg
        rw [HLF.out] at hg
        simp only [Bool.false_eq_true, if_false, Bool.and_eq_true, decide_eq_true_eq] at hg
        have hnil : p.1 = [] := List.eq_nil_of_length_eq_zero hg.1
        have hl : leadsP k p = true := by unfold leadsP; rw [hnil]; rfl
        rw [HCP.out, hl, if_pos rfl, hnil]
        unfold startP
        rw [HLF.out]
        rfl)
      go_wp2_with (first
        | (refine wpList_load_mid rfl 35 _ rfl (N + 1) 0 rfl (PrC (.slice a n cp) p) _ rp Tryd.underlying35 rfl (Tryd.sizeRp _ _) ?_)
        | (go_at_call 21; refine CG.out.mono ?_; rintro e w2 ⟨rfl, hb2⟩; have B3 := hide (B2.out.kept hb2); have L2 : Hid (Below N w w2) := (show _ from L1.out.trans (hb2.mono (by omega))); have cl := CL.out w2 hb2; clear hb2)
        | (go_at_call 26; refine (rnothing_any _).mono ?_; rintro e w3 ⟨rfl, hb3⟩; have B4 := hide (B3.out.kept hb3); have L3 : Hid (Below N w w3) := (show _ from L2.out.trans (hb3.mono (by have := B3.out.lt; omega))); clear hb3)
        | (refine wpList_store_blk rfl 24 _ _ rfl (N + 2) (By zh.1) (By (ntH).1) 24 rfl rfl B4.out (by rw [By_len, By_len]) (Tryd.sizeH _) (By_one _) ?_; intro w7 hb7 hu7)
        | fail)
      refine bodyPost_ret (results_hb rfl _ _ (N + 2) 24 (By ntH.1) (.bool true) rfl rfl hb7 Tryd.underlying24 rfl (Tryd.sizeH _)) rfl ⟨by rw [CT.out], ?_⟩
      exact L3.out.trans (hu7.below (by omega) (by have := B4.out.lt; omega))
    | true =>
      have CF : Hid (leadsP k p = false → climbP k p = (zh, false)) := (show _ from fun h => by rw [HCP.out, h]; rfl)
      obtain ⟨st, HSt⟩ : ∃ z, Hid (startP p = z) := ⟨_, rfl⟩
      have HIT : Hid (itH p.2.2.1 p.2.2.2 = st) := (show _ = _ by rw [← HSt.out]; unfold startP; rw [HLF.out]; rfl)
      have CT : Hid (leadsP k p = true → climbP k p = (climbF k p.1 st, true)) := (show _ from fun h => by rw [HCP.out, h, HSt.out]; rfl)
      go_upto_region 6 with (first
        | (refine wpList_load_mid rfl 35 _ rfl (N + 1) 0 rfl (PrC (.slice a n cp) p) _ rp Tryd.underlying35 rfl (Tryd.sizeRp _ _) ?_)
        | (go_at_call 21; refine CG.out.mono ?_; rintro e w2 ⟨rfl, hb2⟩; have B3 := hide (B2.out.kept hb2); have K2 := hide (K1.out.kept hb2); have P2 := hide (P1.out.kept hb2); have L2 : Hid (Below N w w2) := (show _ from L1.out.trans (hb2.mono (by omega))); have cl := CL.out w2 hb2; have rk2 := PrC.key P2.out; have rv2 := PrC.value P2.out; clear hb2)
        | (refine wpList_load_mid rfl 24 _ rfl (N + 1) 2 rfl (By p.2.2.1.1) _ rk2 Tryd.underlying24 rfl (Tryd.sizeH _) ?_)
        | (refine wpList_load_mid rfl 24 _ rfl (N + 1) 34 rfl (By p.2.2.2.1) _ rv2 Tryd.underlying24 rfl (Tryd.sizeH _) ?_)
        | (go_at_call 39; refine (ritem_any p.2.2.1 p.2.2.2 _).mono ?_; rintro e w3 ⟨rfl, hb3⟩; have Z3 := hide (B3.out.kept hb3); have K3 := hide (K2.out.kept hb3); have P3 := hide (P2.out.kept hb3); have L3 : Hid (Below N w w3) := (show _ from L2.out.trans (hb3.mono (by have := B3.out.lt; omega))); clear hb3; rw [HIT.out]; obtain ⟨E, HE⟩ : ∃ E, Hid (w3.heap.size = E) := ⟨_, rfl⟩)
        | (rw [HE.out]; refine wpList_store_blk rfl 24 _ _ rfl E (By zh.1) (By st.1) 24 rfl rfl (by rw [← HE.out]; exact Blk.new w3 24 (By zh.1)) (by rw [By_len, By_len]) (Tryd.sizeH _) (By_one _) ?_; intro w4 hb4 hu4)
        | fail)
      have D4 : Below w3.heap.size w3 w4 := (((Below.refl _ _).alloc (Nat.le_refl _) _).trans (hu4.below (Nat.le_of_eq HE.out) (by simp)))
      have hNE : N + 2 < E := by rw [← HE.out]; exact Z3.out.lt
      have K4 := hide (K3.out.kept D4)
      have P4 := hide (P3.out.kept D4)
      have Z4 := hide (Z3.out.kept D4)
      have Y4 := hide hb4
      have L4 : Hid (Below N w w4) := (show _ from L3.out.trans (D4.mono (by rw [HE.out]; omega)))
      have c0 := PrC.steps P4.out
      clear hb4 hu4 D4 K3 P3 Z3 L3 K2 P2 B3 L2 rk2 rv2 cl CL R1 B2 K1 P1 L1 rp CG AR
      go_wp2_with fail
      go_loopg [7] (n + 1) (fun g z wr => ∃ (r : Nat), r ≤ n ∧ g = r + 1 ∧ z = .int .i64 ((r : Int) - 1) ∧ Hid (leadsP k p = (p.1.take r).all fun s => decide (bitZ p.2.2.1 s.1 = bitZ k s.1)) ∧ Hid (Below N w wr) ∧ Hid (Blk wr (N + 1) 35 (PrC (.slice a n cp) p)) ∧ Hid (Blk wr N 24 (By k.1)) ∧ Hid (Blk wr (N + 2) 24 (By zh.1)) ∧ Hid (Blk wr E 24 (By (climbF k (p.1.drop r) st).1)))
      case atStart => exact ⟨n, Nat.le_refl _, rfl, rfl, (show _ = _ by rw [List.take_of_length_le (by rw [HNL.out]; exact Nat.le_refl _)]; rfl), L4, P4, K4, Z4, (show Blk _ _ _ _ by rw [List.drop_of_length_le (by rw [HNL.out]; exact Nat.le_refl _)]; exact Y4.out)⟩
      case round =>
        clear L4 P4 K4 Z4 Y4 c0
        obtain ⟨r, hrn, hgr, rfl, RI, LR, PR, KR, ZR, YR0⟩ := hrel
        have hGR : N ≤ wr.heap.size := Nat.le_of_lt KR.out.lt
        have c0 := PrC.steps PR.out
        cases r with
        | zero =>
          have q1 : ¬ (0 : Int) ≤ ((0 : Nat) : Int) - 1 := by omega
          have RT : Hid (leadsP k p = true) := (show _ = _ by rw [RI.out]; rfl)
          have yr := YR0.out
          rw [List.drop_zero] at yr
          obtain ⟨y, HY⟩ : ∃ y, Hid (climbF k p.1 st = y) := ⟨_, rfl⟩
          rw [HY.out] at yr
          have ry := yr.range0
          go_wp2_with (first
            | (refine wpList_load_mid rfl 24 _ rfl E 0 rfl (By y.1) _ ry Tryd.underlying24 rfl (Tryd.sizeH _) ?_)
            | (refine wpList_store_blk rfl 24 _ _ rfl (N + 2) (By zh.1) (By (y).1) 24 rfl rfl ZR.out (by rw [By_len, By_len]) (Tryd.sizeH _) (By_one _) ?_; intro w7 hb7 hu7)
            | fail)
          refine bodyPost_ret (results_hb rfl _ _ (N + 2) 24 (By y.1) (.bool true) rfl rfl hb7 Tryd.underlying24 rfl (Tryd.sizeH _)) rfl ⟨by rw [CT.out RT.out, HY.out], ?_⟩
          exact LR.out.trans (hu7.below (by omega) hGR)
        | succ m =>
          have q1 : (0 : Int) ≤ (((m + 1 : Nat) : Int)) - 1 := by omega
          have er : (((m + 1 : Nat) : Int)) - 1 = (m : Int) := by omega
          rw [er] at q1 ⊢
          have hmL : m < p.1.length := by rw [HNL.out]; omega
          obtain ⟨ba, oa, hsl, hba, hxa⟩ := (HR.out.kept (LR.out.mono (Nat.le_of_eq HN.out))).nth (by omega)
          have hx : wr.rangeAt ba (oa + m * 33) (SE.c p.1[m]) := hxa m hmL
          have HMEM := HGM.out p.1[m] (List.getElem_mem hmL)
          have HDR : Hid (p.1.drop m = p.1[m] :: p.1.drop (m + 1)) := (show _ = _ from List.drop_eq_getElem_cons hmL)
          have HTK : Hid (p.1.take (m + 1) = p.1.take m ++ [p.1[m]]) := (show _ = _ from List.take_succ_eq_append_getElem hmL)
          generalize p.1[m] = x at hx HMEM HDR HTK
          obtain ⟨i, S, rfl⟩ : ∃ (i : Nat) (S : Hs), x = ((i : Int), S) := ⟨x.1.toNat, x.2, by rw [Int.toNat_of_nonneg HMEM.1]⟩
          subst hsl
          clear hxa HMEM hmL
          have q2 : (m : Int) < (n : Int) := by omega
          obtain ⟨M, HM⟩ : ∃ M, Hid (wr.heap.size = M) := ⟨_, rfl⟩
          have hEM : E < M := by rw [← HM.out]; exact YR0.out.lt
          obtain ⟨y, HY⟩ : ∃ y, Hid (climbF k (p.1.drop (m + 1)) st = y) := ⟨_, rfl⟩
          have YR : Hid (Blk wr E 24 (By y.1)) := (show Blk _ _ _ _ by rw [← HY.out]; exact YR0.out)
          have HST : Hid (climbF k (p.1.drop m) st = joinP k ((i : Int), S) y) := (show _ = _ by rw [HDR.out, climbF, HY.out])
          have HJ0 : Hid (joinP k ((i : Int), S) y = if bit k i then fkH i S y else fkH i y S) := (show _ = _ by unfold joinP; simp only; rw [bitZ_cut, Int.toNat_natCast]; cases bit k i <;> simp)
          have RI2 : Hid (leadsP k p = (((p.1.take m).all fun s => decide (bitZ p.2.2.1 s.1 = bitZ k s.1)) && decide (bitZ p.2.2.1 (i : Int) = bitZ k (i : Int)))) := (show _ = _ by rw [RI.out, HTK.out, List.all_append]; simp)
          have C1 := hide (fun w => yBit_any k (i : Int) w)
          have C2 := hide (fun w => yBit_any p.2.2.1 (i : Int) w)
          obtain ⟨b2, HB2⟩ : ∃ z, Hid (bitZ p.2.2.1 (i : Int) = z) := ⟨_, rfl⟩
          rw [HB2.out] at C2 RI2
          rw [bitZ_cut] at C1 RI2
          obtain ⟨sd, HS⟩ : ∃ s, Hid (bit k i = s) := ⟨_, rfl⟩
          rw [HS.out] at C1 RI2 HJ0
          clear YR0 RI HTK HDR
          cases sd with
          | false =>
            have HJ : Hid (joinP k ((i : Int), S) y = fkH i y S) := (show _ = _ by rw [HJ0.out]; simp)
            have C1 : Hid (∀ w, Calls Tryd.prog 31 #[HV k, .int .i64 (i : Int)] w fun e w' => e = .returned (.int .i64 0) ∧ Below w.heap.size w w') := (show _ from C1.out)
            have RI2 : Hid (leadsP k p = (((p.1.take m).all fun s => decide (bitZ p.2.2.1 s.1 = bitZ k s.1)) && decide (b2 = 0))) := (show _ = _ by rw [RI2.out]; rfl)
            by_cases hne : (0 : Int) = b2
            · subst hne
              have RN : Hid (leadsP k p = (p.1.take m).all fun s => decide (bitZ p.2.2.1 s.1 = bitZ k s.1)) := (show _ = _ by rw [RI2.out]; simp)
              go_upto_region 10 with (first
                | (refine wpList_load_mid rfl 69 _ rfl ba (oa + m * 33) rfl (SE.c ((i : Int), S)) _ hx Tryd.underlying69 rfl (Tryd.sizeR _) ?_)
                | (rw [HM.out]; refine wpList_store_blk rfl 69 _ _ rfl M (SE.c zs) (SE.c ((i : Int), S)) 69 rfl rfl (by rw [← HM.out]; exact Blk.new wr 69 (SE.c zs)) (by rw [SE_len, SE_len]) (Tryd.sizeR _) (SE.one _) ?_; intro w3 hb3 hu3; have D3 : Below wr.heap.size wr w3 := (((Below.refl _ _).alloc (Nat.le_refl _) _).trans (hu3.below (Nat.le_of_eq HM.out) (by simp))); have L3 : Hid (Below N w w3) := (show _ from LR.out.trans (D3.mono hGR)); have X3 := hide hb3; have P3 := hide (PR.out.kept D3); have K3 := hide (KR.out.kept D3); have Z3 := hide (ZR.out.kept D3); have Y3 := hide (YR.out.kept D3); clear hb3 hu3 D3)
                | fail)
              refine wp_region_inv Tryd.mixed (KS (fun i_ => match i_ with | 0 => .val (HV k) | 1 | 6 => .val (.pointer (some ⟨M, 0, none⟩)) | 2 | 7 => .val (.int .i64 (i : Int)) | 3 | 8 => .val (.int .i64 0) | 4 => .val (.pointer (some ⟨N + 1, 2, none⟩)) | 5 => .val (HV p.2.2.1) | 9 => .val (.bool false) | _ => .free)) 64 rfl (by decide +kernel) (KS_mono _) ?_ ?_
              · refine AllFrom.cons (fun a' w' hg hk hd => ?_) (AllFrom.cons (fun a' w' hg hk hd => ?_) (AllFrom.cons (fun a' w' hg hk hd => ?_) (AllFrom.cons (fun a' w' hg hk hd => ?_) (AllFrom.cons (fun a' w' hg hk hd => ?_) (AllFrom.cons (fun a' w' hg hk hd => ?_) (AllFrom.cons (fun a' w' hg hk hd => ?_) (AllFrom.cons (fun a' w' hg hk hd => ?_) (AllFrom.cons (fun a' w' hg hk hd => ?_) (AllFrom.cons (fun a' w' hg hk hd => ?_) AllFrom.nil)))))))))
                · skip
                  intro Q
                  have e2 : a'.eval (.tmp 2) = .pointer (some ⟨N, 0, none⟩) := hk.at 2 (by decide +kernel)
                  exact wp_load_row 24 _ rfl _ _ e2 (By (k).1) _ ((K3.out.kept hg).range0) Tryd.underlying24 rfl (Tryd.sizeH _) (KS_mkv rfl rfl)
                · skip
                  intro Q
                  have e8 : a'.eval (.tmp 8) = .pointer (some ⟨M, 0, none⟩) := hk.at 8 (by decide +kernel)
                  clear hd hk
                  exact wp_value (.pointer (some ⟨M, 0, none⟩)) (by simp only [execOp, e8]; go_simp) (KS_mkv rfl rfl)
                · skip
                  intro Q
                  have e36 : a'.eval (.tmp 36) = .pointer (some ⟨M, 0, none⟩) := KS_val (hd.val 1 36 (by decide +kernel)) rfl
                  have hc := SEbit (X3.out.kept hg).range0
                  clear hd hk
                  exact wp_value (.int .i64 (i : Int)) (by simp only [execOp, e36]; go_simp) (KS_mkv rfl rfl)
                · skip
                  intro Q
                  have e35 : a'.eval (.tmp 35) = HV k := KS_val (hd.val 0 35 (by decide +kernel)) rfl
                  have e37 : a'.eval (.tmp 37) = .int .i64 (i : Int) := KS_val (hd.val 2 37 (by decide +kernel)) rfl
                  refine wp_call 31 _ (run_enter 31 _ _ rfl (by kernel_rfl)) ?_
                  simp only [List.map_toArray, List.map_nil, List.map_cons, e35, e37]
                  refine (C1.out _).mono ?_
                  rintro e w5 ⟨rfl, hb5⟩
                  exact ⟨_, rfl, KS_mkv rfl rfl, hb5⟩
                · skip
                  intro Q
                  have e3 : a'.eval (.tmp 3) = .pointer (some ⟨N + 1, 0, none⟩) := hk.at 3 (by decide +kernel)
                  clear hd hk
                  exact wp_value (.pointer (some ⟨N + 1, 2, none⟩)) (by simp only [execOp, e3]; go_simp) (KS_mkv rfl rfl)
                · skip
                  intro Q
                  have e39 : a'.eval (.tmp 39) = .pointer (some ⟨N + 1, 2, none⟩) := KS_val (hd.val 4 39 (by decide +kernel)) rfl
                  exact wp_load_row 24 _ rfl _ _ e39 (By (p.2.2.1).1) _ (PrC.key (P3.out.kept hg)) Tryd.underlying24 rfl (Tryd.sizeH _) (KS_mkv rfl rfl)
                · skip
                  intro Q
                  have e8 : a'.eval (.tmp 8) = .pointer (some ⟨M, 0, none⟩) := hk.at 8 (by decide +kernel)
                  clear hd hk
                  exact wp_value (.pointer (some ⟨M, 0, none⟩)) (by simp only [execOp, e8]; go_simp) (KS_mkv rfl rfl)
                · skip
                  intro Q
                  have e41 : a'.eval (.tmp 41) = .pointer (some ⟨M, 0, none⟩) := KS_val (hd.val 6 41 (by decide +kernel)) rfl
                  have hc := SEbit (X3.out.kept hg).range0
                  clear hd hk
                  exact wp_value (.int .i64 (i : Int)) (by simp only [execOp, e41]; go_simp) (KS_mkv rfl rfl)
                · skip
                  intro Q
                  have e40 : a'.eval (.tmp 40) = HV p.2.2.1 := KS_val (hd.val 5 40 (by decide +kernel)) rfl
                  have e42 : a'.eval (.tmp 42) = .int .i64 (i : Int) := KS_val (hd.val 7 42 (by decide +kernel)) rfl
                  refine wp_call 31 _ (run_enter 31 _ _ rfl (by kernel_rfl)) ?_
                  simp only [List.map_toArray, List.map_nil, List.map_cons, e40, e42]
                  refine (C2.out _).mono ?_
                  rintro e w5 ⟨rfl, hb5⟩
                  exact ⟨_, rfl, KS_mkv rfl rfl, hb5⟩
                · skip
                  intro Q
                  have e38 : a'.eval (.tmp 38) = .int .i64 0 := KS_val (hd.val 3 38 (by decide +kernel)) rfl
                  have e43 : a'.eval (.tmp 43) = .int .i64 0 := KS_val (hd.val 8 43 (by decide +kernel)) rfl
                  clear hd hk
                  exact wp_value (.bool false) (by simp only [execOp, e38, e43]; go_simp) (KS_mkv rfl rfl)
              · intro a' w4 hsz hdf hk hall hg
                have e35 : a'.eval (.tmp 35) = HV k := KS_val (hall 0 _ 35 rfl rfl) rfl
                have e36 : a'.eval (.tmp 36) = .pointer (some ⟨M, 0, none⟩) := KS_val (hall 1 _ 36 rfl rfl) rfl
                have e37 : a'.eval (.tmp 37) = .int .i64 (i : Int) := KS_val (hall 2 _ 37 rfl rfl) rfl
                have e38 : a'.eval (.tmp 38) = .int .i64 0 := KS_val (hall 3 _ 38 rfl rfl) rfl
                have e39 : a'.eval (.tmp 39) = .pointer (some ⟨N + 1, 2, none⟩) := KS_val (hall 4 _ 39 rfl rfl) rfl
                have e40 : a'.eval (.tmp 40) = HV p.2.2.1 := KS_val (hall 5 _ 40 rfl rfl) rfl
                have e41 : a'.eval (.tmp 41) = .pointer (some ⟨M, 0, none⟩) := KS_val (hall 6 _ 41 rfl rfl) rfl
                have e42 : a'.eval (.tmp 42) = .int .i64 (i : Int) := KS_val (hall 7 _ 42 rfl rfl) rfl
                have e43 : a'.eval (.tmp 43) = .int .i64 0 := KS_val (hall 8 _ 43 rfl rfl) rfl
                have e44 : a'.eval (.tmp 44) = .bool false := KS_val (hall 9 _ 44 rfl rfl) rfl
                have ha := act_puts 64 rfl hsz hdf hk [35, 36, 37, 38, 39, 40, 41, 42, 43, 44] (by decide +kernel)
                simp only [puts, List.foldl_cons, List.foldl_nil, e35, e36, e37, e38, e39, e40, e41, e42, e43, e44] at ha
                simp only [Act.put, List.setIfInBounds_toArray, List.set_cons_succ, List.set_cons_zero] at ha
                clear hall hk hsz hdf e35 e36 e37 e38 e39 e40 e41 e42 e43 e44
                subst ha
                have L4 : Hid (Below N w w4) := (show _ from L3.out.trans (hg.mono (by have := P3.out.lt; omega)))
                have P4 := hide (P3.out.kept hg)
                have K4 := hide (K3.out.kept hg)
                have Z4 := hide (Z3.out.kept hg)
                have Y4 := hide (Y3.out.kept hg)
                have X4 := hide (X3.out.kept hg)
                clear hg K3 P3 Z3 Y3 X3 L3
                have rk4 := K4.out.range0
                have cb4 := SEbit X4.out.range0
                have ry4 := Y4.out.range0
                have rs4 : w4.rangeAt M 1 (By S.1) := SEside X4.out.range0
                have hN4 : N ≤ w4.heap.size := Nat.le_of_lt K4.out.lt
                obtain ⟨z, HZ⟩ : ∃ z, Hid (fkH i y S = z) := ⟨_, rfl⟩
                go_wp2_with (first
                  | (refine wpList_load_mid rfl 24 _ rfl N 0 rfl (By k.1) _ rk4 Tryd.underlying24 rfl (Tryd.sizeH _) ?_)
                  | (go_at_call 31; refine (C1.out _).mono ?_; rintro e w5 ⟨rfl, hb5⟩; have L5 : Hid (Below N w w5) := (show _ from L4.out.trans (hb5.mono hN4)); have P5 := hide (P4.out.kept hb5); have K5 := hide (K4.out.kept hb5); have Z5 := hide (Z4.out.kept hb5); have Y5 := hide (Y4.out.kept hb5); have cb5 := SEbit (X4.out.kept hb5).range0; have rs5 : w5.rangeAt M 1 (By S.1) := SEside (X4.out.kept hb5).range0; have ry5 := Y5.out.range0; clear hb5)
                  | (refine wpList_load_mid rfl 24 _ rfl E 0 rfl (By y.1) _ ry5 Tryd.underlying24 rfl (Tryd.sizeH _) ?_)
                  | (refine wpList_load_mid rfl 24 _ rfl M 1 rfl (By S.1) _ rs5 Tryd.underlying24 rfl (Tryd.sizeH _) ?_)
                  | (go_at_call 40; refine (rfork_any i y S _).mono ?_; rintro e w6 ⟨rfl, hb6⟩; have hN5 : N ≤ w5.heap.size := Nat.le_of_lt K5.out.lt; have L6 : Hid (Below N w w6) := (show _ from L5.out.trans (hb6.mono hN5)); have P6 := hide (P5.out.kept hb6); have K6 := hide (K5.out.kept hb6); have Z6 := hide (Z5.out.kept hb6); have Y6 := hide (Y5.out.kept hb6); rw [HZ.out]; clear hb6 hN5)
                  | (refine wpList_store_blk rfl 24 _ _ rfl E (By y.1) (By z.1) 24 rfl rfl Y6.out (by rw [By_len, By_len]) (Tryd.sizeH _) (By_one _) ?_; intro w7 hb7 hu7)
                  | fail)
                have hN6 : N ≤ w6.heap.size := Nat.le_of_lt K6.out.lt
                have L7 : Hid (Below N w w7) := (show _ from L6.out.trans (hu7.below (by omega) hN6))
                have P7 := hide (P6.out.but hu7 (by omega))
                have K7 := hide (K6.out.but hu7 (by omega))
                have Z7 := hide (Z6.out.but hu7 (by omega))
                have Y7 : Hid (Blk w7 E 24 (By (climbF k (p.1.drop m) st).1)) := (show Blk _ _ _ _ by rw [HST.out, HJ.out, HZ.out]; exact hb7)
                clear hb7 hu7
                go_roundg (m + 1)
                case measure => omega
                case rel => exact ⟨m, by omega, rfl, rfl, RN, L7, P7, K7, Z7, Y7⟩
            · have RF : Hid (leadsP k p = false) := (show _ = _ by rw [RI2.out, decide_eq_false (fun e => hne e.symm)]; simp)
              go_upto_region 10 with (first
                | (refine wpList_load_mid rfl 69 _ rfl ba (oa + m * 33) rfl (SE.c ((i : Int), S)) _ hx Tryd.underlying69 rfl (Tryd.sizeR _) ?_)
                | (rw [HM.out]; refine wpList_store_blk rfl 69 _ _ rfl M (SE.c zs) (SE.c ((i : Int), S)) 69 rfl rfl (by rw [← HM.out]; exact Blk.new wr 69 (SE.c zs)) (by rw [SE_len, SE_len]) (Tryd.sizeR _) (SE.one _) ?_; intro w3 hb3 hu3; have D3 : Below wr.heap.size wr w3 := (((Below.refl _ _).alloc (Nat.le_refl _) _).trans (hu3.below (Nat.le_of_eq HM.out) (by simp))); have L3 : Hid (Below N w w3) := (show _ from LR.out.trans (D3.mono hGR)); have X3 := hide hb3; have P3 := hide (PR.out.kept D3); have K3 := hide (KR.out.kept D3); have Z3 := hide (ZR.out.kept D3); have Y3 := hide (YR.out.kept D3); clear hb3 hu3 D3)
                | fail)
              refine wp_region_inv Tryd.mixed (KS (fun i_ => match i_ with | 0 => .val (HV k) | 1 | 6 => .val (.pointer (some ⟨M, 0, none⟩)) | 2 | 7 => .val (.int .i64 (i : Int)) | 3 => .val (.int .i64 0) | 4 => .val (.pointer (some ⟨N + 1, 2, none⟩)) | 5 => .val (HV p.2.2.1) | 8 => .val (.int .i64 b2) | 9 => .val (.bool true) | _ => .free)) 64 rfl (by decide +kernel) (KS_mono _) ?_ ?_
              · refine AllFrom.cons (fun a' w' hg hk hd => ?_) (AllFrom.cons (fun a' w' hg hk hd => ?_) (AllFrom.cons (fun a' w' hg hk hd => ?_) (AllFrom.cons (fun a' w' hg hk hd => ?_) (AllFrom.cons (fun a' w' hg hk hd => ?_) (AllFrom.cons (fun a' w' hg hk hd => ?_) (AllFrom.cons (fun a' w' hg hk hd => ?_) (AllFrom.cons (fun a' w' hg hk hd => ?_) (AllFrom.cons (fun a' w' hg hk hd => ?_) (AllFrom.cons (fun a' w' hg hk hd => ?_) AllFrom.nil)))))))))
                · skip
                  intro Q
                  have e2 : a'.eval (.tmp 2) = .pointer (some ⟨N, 0, none⟩) := hk.at 2 (by decide +kernel)
                  exact wp_load_row 24 _ rfl _ _ e2 (By (k).1) _ ((K3.out.kept hg).range0) Tryd.underlying24 rfl (Tryd.sizeH _) (KS_mkv rfl rfl)
                · skip
                  intro Q
                  have e8 : a'.eval (.tmp 8) = .pointer (some ⟨M, 0, none⟩) := hk.at 8 (by decide +kernel)
                  clear hd hk
                  exact wp_value (.pointer (some ⟨M, 0, none⟩)) (by simp only [execOp, e8]; go_simp) (KS_mkv rfl rfl)
                · skip
                  intro Q
                  have e36 : a'.eval (.tmp 36) = .pointer (some ⟨M, 0, none⟩) := KS_val (hd.val 1 36 (by decide +kernel)) rfl
                  have hc := SEbit (X3.out.kept hg).range0
                  clear hd hk
                  exact wp_value (.int .i64 (i : Int)) (by simp only [execOp, e36]; go_simp) (KS_mkv rfl rfl)
                · skip
                  intro Q
                  have e35 : a'.eval (.tmp 35) = HV k := KS_val (hd.val 0 35 (by decide +kernel)) rfl
                  have e37 : a'.eval (.tmp 37) = .int .i64 (i : Int) := KS_val (hd.val 2 37 (by decide +kernel)) rfl
                  refine wp_call 31 _ (run_enter 31 _ _ rfl (by kernel_rfl)) ?_
                  simp only [List.map_toArray, List.map_nil, List.map_cons, e35, e37]
                  refine (C1.out _).mono ?_
                  rintro e w5 ⟨rfl, hb5⟩
                  exact ⟨_, rfl, KS_mkv rfl rfl, hb5⟩
                · skip
                  intro Q
                  have e3 : a'.eval (.tmp 3) = .pointer (some ⟨N + 1, 0, none⟩) := hk.at 3 (by decide +kernel)
                  clear hd hk
                  exact wp_value (.pointer (some ⟨N + 1, 2, none⟩)) (by simp only [execOp, e3]; go_simp) (KS_mkv rfl rfl)
                · skip
                  intro Q
                  have e39 : a'.eval (.tmp 39) = .pointer (some ⟨N + 1, 2, none⟩) := KS_val (hd.val 4 39 (by decide +kernel)) rfl
                  exact wp_load_row 24 _ rfl _ _ e39 (By (p.2.2.1).1) _ (PrC.key (P3.out.kept hg)) Tryd.underlying24 rfl (Tryd.sizeH _) (KS_mkv rfl rfl)
                · skip
                  intro Q
                  have e8 : a'.eval (.tmp 8) = .pointer (some ⟨M, 0, none⟩) := hk.at 8 (by decide +kernel)
                  clear hd hk
                  exact wp_value (.pointer (some ⟨M, 0, none⟩)) (by simp only [execOp, e8]; go_simp) (KS_mkv rfl rfl)
                · skip
                  intro Q
                  have e41 : a'.eval (.tmp 41) = .pointer (some ⟨M, 0, none⟩) := KS_val (hd.val 6 41 (by decide +kernel)) rfl
                  have hc := SEbit (X3.out.kept hg).range0
                  clear hd hk
                  exact wp_value (.int .i64 (i : Int)) (by simp only [execOp, e41]; go_simp) (KS_mkv rfl rfl)
                · skip
                  intro Q
                  have e40 : a'.eval (.tmp 40) = HV p.2.2.1 := KS_val (hd.val 5 40 (by decide +kernel)) rfl
                  have e42 : a'.eval (.tmp 42) = .int .i64 (i : Int) := KS_val (hd.val 7 42 (by decide +kernel)) rfl
                  refine wp_call 31 _ (run_enter 31 _ _ rfl (by kernel_rfl)) ?_
                  simp only [List.map_toArray, List.map_nil, List.map_cons, e40, e42]
                  refine (C2.out _).mono ?_
                  rintro e w5 ⟨rfl, hb5⟩
                  exact ⟨_, rfl, KS_mkv rfl rfl, hb5⟩
                · skip
                  intro Q
                  have e38 : a'.eval (.tmp 38) = .int .i64 0 := KS_val (hd.val 3 38 (by decide +kernel)) rfl
                  have e43 : a'.eval (.tmp 43) = .int .i64 b2 := KS_val (hd.val 8 43 (by decide +kernel)) rfl
                  clear hd hk
                  exact wp_value (.bool true) (by simp only [execOp, e38, e43]; go_simp; first | done | exact hne | simp [hne]) (KS_mkv rfl rfl)
              · intro a' w4 hsz hdf hk hall hg
                have e35 : a'.eval (.tmp 35) = HV k := KS_val (hall 0 _ 35 rfl rfl) rfl
                have e36 : a'.eval (.tmp 36) = .pointer (some ⟨M, 0, none⟩) := KS_val (hall 1 _ 36 rfl rfl) rfl
                have e37 : a'.eval (.tmp 37) = .int .i64 (i : Int) := KS_val (hall 2 _ 37 rfl rfl) rfl
                have e38 : a'.eval (.tmp 38) = .int .i64 0 := KS_val (hall 3 _ 38 rfl rfl) rfl
                have e39 : a'.eval (.tmp 39) = .pointer (some ⟨N + 1, 2, none⟩) := KS_val (hall 4 _ 39 rfl rfl) rfl
                have e40 : a'.eval (.tmp 40) = HV p.2.2.1 := KS_val (hall 5 _ 40 rfl rfl) rfl
                have e41 : a'.eval (.tmp 41) = .pointer (some ⟨M, 0, none⟩) := KS_val (hall 6 _ 41 rfl rfl) rfl
                have e42 : a'.eval (.tmp 42) = .int .i64 (i : Int) := KS_val (hall 7 _ 42 rfl rfl) rfl
                have e43 : a'.eval (.tmp 43) = .int .i64 b2 := KS_val (hall 8 _ 43 rfl rfl) rfl
                have e44 : a'.eval (.tmp 44) = .bool true := KS_val (hall 9 _ 44 rfl rfl) rfl
                have ha := act_puts 64 rfl hsz hdf hk [35, 36, 37, 38, 39, 40, 41, 42, 43, 44] (by decide +kernel)
                simp only [puts, List.foldl_cons, List.foldl_nil, e35, e36, e37, e38, e39, e40, e41, e42, e43, e44] at ha
                simp only [Act.put, List.setIfInBounds_toArray, List.set_cons_succ, List.set_cons_zero] at ha
                clear hall hk hsz hdf e35 e36 e37 e38 e39 e40 e41 e42 e43 e44
                subst ha
                have L4 : Hid (Below N w w4) := (show _ from L3.out.trans (hg.mono (by have := P3.out.lt; omega)))
                have P4 := hide (P3.out.kept hg)
                have K4 := hide (K3.out.kept hg)
                have Z4 := hide (Z3.out.kept hg)
                have Y4 := hide (Y3.out.kept hg)
                have X4 := hide (X3.out.kept hg)
                clear hg K3 P3 Z3 Y3 X3 L3
                go_wp2_with (first
                  | (refine wpList_build rfl 24 _ rfl (.agg (By z0.1).toArray) (by simp only [execOp, List.map_toArray, List.map_nil, Sem.run_bind, Sem.run_pure]; exact congrArg (fun r => Result.andThen r _) (hbz _)) ?_)
                  | (refine wpList_store_blk rfl 24 _ _ rfl (N + 2) (By zh.1) (By (z0).1) 24 rfl rfl Z4.out (by rw [By_len, By_len]) (Tryd.sizeH _) (By_one _) ?_; intro w7 hb7 hu7)
                  | fail)
                refine bodyPost_ret (results_hb rfl _ _ (N + 2) 24 (By z0.1) (.bool false) rfl rfl hb7 Tryd.underlying24 rfl (Tryd.sizeH _)) rfl ⟨by rw [CF.out RF.out, HZ0.out], ?_⟩
                exact L4.out.trans (hu7.below (by omega) (by have := Z4.out.lt; omega))
          | true =>
            have HJ : Hid (joinP k ((i : Int), S) y = fkH i S y) := (show _ = _ by rw [HJ0.out]; simp)
            have C1 : Hid (∀ w, Calls Tryd.prog 31 #[HV k, .int .i64 (i : Int)] w fun e w' => e = .returned (.int .i64 1) ∧ Below w.heap.size w w') := (show _ from C1.out)
            have RI2 : Hid (leadsP k p = (((p.1.take m).all fun s => decide (bitZ p.2.2.1 s.1 = bitZ k s.1)) && decide (b2 = 1))) := (show _ = _ by rw [RI2.out]; rfl)
            by_cases hne : (1 : Int) = b2
            · subst hne
              have RN : Hid (leadsP k p = (p.1.take m).all fun s => decide (bitZ p.2.2.1 s.1 = bitZ k s.1)) := (show _ = _ by rw [RI2.out]; simp)
              go_upto_region 10 with (first
                | (refine wpList_load_mid rfl 69 _ rfl ba (oa + m * 33) rfl (SE.c ((i : Int), S)) _ hx Tryd.underlying69 rfl (Tryd.sizeR _) ?_)
                | (rw [HM.out]; refine wpList_store_blk rfl 69 _ _ rfl M (SE.c zs) (SE.c ((i : Int), S)) 69 rfl rfl (by rw [← HM.out]; exact Blk.new wr 69 (SE.c zs)) (by rw [SE_len, SE_len]) (Tryd.sizeR _) (SE.one _) ?_; intro w3 hb3 hu3; have D3 : Below wr.heap.size wr w3 := (((Below.refl _ _).alloc (Nat.le_refl _) _).trans (hu3.below (Nat.le_of_eq HM.out) (by simp))); have L3 : Hid (Below N w w3) := (show _ from LR.out.trans (D3.mono hGR)); have X3 := hide hb3; have P3 := hide (PR.out.kept D3); have K3 := hide (KR.out.kept D3); have Z3 := hide (ZR.out.kept D3); have Y3 := hide (YR.out.kept D3); clear hb3 hu3 D3)
                | fail)
              refine wp_region_inv Tryd.mixed (KS (fun i_ => match i_ with | 0 => .val (HV k) | 1 | 6 => .val (.pointer (some ⟨M, 0, none⟩)) | 2 | 7 => .val (.int .i64 (i : Int)) | 3 | 8 => .val (.int .i64 1) | 4 => .val (.pointer (some ⟨N + 1, 2, none⟩)) | 5 => .val (HV p.2.2.1) | 9 => .val (.bool false) | _ => .free)) 64 rfl (by decide +kernel) (KS_mono _) ?_ ?_
              · refine AllFrom.cons (fun a' w' hg hk hd => ?_) (AllFrom.cons (fun a' w' hg hk hd => ?_) (AllFrom.cons (fun a' w' hg hk hd => ?_) (AllFrom.cons (fun a' w' hg hk hd => ?_) (AllFrom.cons (fun a' w' hg hk hd => ?_) (AllFrom.cons (fun a' w' hg hk hd => ?_) (AllFrom.cons (fun a' w' hg hk hd => ?_) (AllFrom.cons (fun a' w' hg hk hd => ?_) (AllFrom.cons (fun a' w' hg hk hd => ?_) (AllFrom.cons (fun a' w' hg hk hd => ?_) AllFrom.nil)))))))))
                · skip
                  intro Q
                  have e2 : a'.eval (.tmp 2) = .pointer (some ⟨N, 0, none⟩) := hk.at 2 (by decide +kernel)
                  exact wp_load_row 24 _ rfl _ _ e2 (By (k).1) _ ((K3.out.kept hg).range0) Tryd.underlying24 rfl (Tryd.sizeH _) (KS_mkv rfl rfl)
                · skip
                  intro Q
                  have e8 : a'.eval (.tmp 8) = .pointer (some ⟨M, 0, none⟩) := hk.at 8 (by decide +kernel)
                  clear hd hk
                  exact wp_value (.pointer (some ⟨M, 0, none⟩)) (by simp only [execOp, e8]; go_simp) (KS_mkv rfl rfl)
                · skip
                  intro Q
                  have e36 : a'.eval (.tmp 36) = .pointer (some ⟨M, 0, none⟩) := KS_val (hd.val 1 36 (by decide +kernel)) rfl
                  have hc := SEbit (X3.out.kept hg).range0
                  clear hd hk
                  exact wp_value (.int .i64 (i : Int)) (by simp only [execOp, e36]; go_simp) (KS_mkv rfl rfl)
                · skip
                  intro Q
                  have e35 : a'.eval (.tmp 35) = HV k := KS_val (hd.val 0 35 (by decide +kernel)) rfl
                  have e37 : a'.eval (.tmp 37) = .int .i64 (i : Int) := KS_val (hd.val 2 37 (by decide +kernel)) rfl
                  refine wp_call 31 _ (run_enter 31 _ _ rfl (by kernel_rfl)) ?_
                  simp only [List.map_toArray, List.map_nil, List.map_cons, e35, e37]
                  refine (C1.out _).mono ?_
                  rintro e w5 ⟨rfl, hb5⟩
                  exact ⟨_, rfl, KS_mkv rfl rfl, hb5⟩
                · skip
                  intro Q
                  have e3 : a'.eval (.tmp 3) = .pointer (some ⟨N + 1, 0, none⟩) := hk.at 3 (by decide +kernel)
                  clear hd hk
                  exact wp_value (.pointer (some ⟨N + 1, 2, none⟩)) (by simp only [execOp, e3]; go_simp) (KS_mkv rfl rfl)
                · skip
                  intro Q
                  have e39 : a'.eval (.tmp 39) = .pointer (some ⟨N + 1, 2, none⟩) := KS_val (hd.val 4 39 (by decide +kernel)) rfl
                  exact wp_load_row 24 _ rfl _ _ e39 (By (p.2.2.1).1) _ (PrC.key (P3.out.kept hg)) Tryd.underlying24 rfl (Tryd.sizeH _) (KS_mkv rfl rfl)
                · skip
                  intro Q
                  have e8 : a'.eval (.tmp 8) = .pointer (some ⟨M, 0, none⟩) := hk.at 8 (by decide +kernel)
                  clear hd hk
                  exact wp_value (.pointer (some ⟨M, 0, none⟩)) (by simp only [execOp, e8]; go_simp) (KS_mkv rfl rfl)
                · skip
                  intro Q
                  have e41 : a'.eval (.tmp 41) = .pointer (some ⟨M, 0, none⟩) := KS_val (hd.val 6 41 (by decide +kernel)) rfl
                  have hc := SEbit (X3.out.kept hg).range0
                  clear hd hk
                  exact wp_value (.int .i64 (i : Int)) (by simp only [execOp, e41]; go_simp) (KS_mkv rfl rfl)
                · skip
                  intro Q
                  have e40 : a'.eval (.tmp 40) = HV p.2.2.1 := KS_val (hd.val 5 40 (by decide +kernel)) rfl
                  have e42 : a'.eval (.tmp 42) = .int .i64 (i : Int) := KS_val (hd.val 7 42 (by decide +kernel)) rfl
                  refine wp_call 31 _ (run_enter 31 _ _ rfl (by kernel_rfl)) ?_
                  simp only [List.map_toArray, List.map_nil, List.map_cons, e40, e42]
                  refine (C2.out _).mono ?_
                  rintro e w5 ⟨rfl, hb5⟩
                  exact ⟨_, rfl, KS_mkv rfl rfl, hb5⟩
                · skip
                  intro Q
                  have e38 : a'.eval (.tmp 38) = .int .i64 1 := KS_val (hd.val 3 38 (by decide +kernel)) rfl
                  have e43 : a'.eval (.tmp 43) = .int .i64 1 := KS_val (hd.val 8 43 (by decide +kernel)) rfl
                  clear hd hk
                  exact wp_value (.bool false) (by simp only [execOp, e38, e43]; go_simp) (KS_mkv rfl rfl)
              · intro a' w4 hsz hdf hk hall hg
                have e35 : a'.eval (.tmp 35) = HV k := KS_val (hall 0 _ 35 rfl rfl) rfl
                have e36 : a'.eval (.tmp 36) = .pointer (some ⟨M, 0, none⟩) := KS_val (hall 1 _ 36 rfl rfl) rfl
                have e37 : a'.eval (.tmp 37) = .int .i64 (i : Int) := KS_val (hall 2 _ 37 rfl rfl) rfl
                have e38 : a'.eval (.tmp 38) = .int .i64 1 := KS_val (hall 3 _ 38 rfl rfl) rfl
                have e39 : a'.eval (.tmp 39) = .pointer (some ⟨N + 1, 2, none⟩) := KS_val (hall 4 _ 39 rfl rfl) rfl
                have e40 : a'.eval (.tmp 40) = HV p.2.2.1 := KS_val (hall 5 _ 40 rfl rfl) rfl
                have e41 : a'.eval (.tmp 41) = .pointer (some ⟨M, 0, none⟩) := KS_val (hall 6 _ 41 rfl rfl) rfl
                have e42 : a'.eval (.tmp 42) = .int .i64 (i : Int) := KS_val (hall 7 _ 42 rfl rfl) rfl
                have e43 : a'.eval (.tmp 43) = .int .i64 1 := KS_val (hall 8 _ 43 rfl rfl) rfl
                have e44 : a'.eval (.tmp 44) = .bool false := KS_val (hall 9 _ 44 rfl rfl) rfl
                have ha := act_puts 64 rfl hsz hdf hk [35, 36, 37, 38, 39, 40, 41, 42, 43, 44] (by decide +kernel)
                simp only [puts, List.foldl_cons, List.foldl_nil, e35, e36, e37, e38, e39, e40, e41, e42, e43, e44] at ha
                simp only [Act.put, List.setIfInBounds_toArray, List.set_cons_succ, List.set_cons_zero] at ha
                clear hall hk hsz hdf e35 e36 e37 e38 e39 e40 e41 e42 e43 e44
                subst ha
                have L4 : Hid (Below N w w4) := (show _ from L3.out.trans (hg.mono (by have := P3.out.lt; omega)))
                have P4 := hide (P3.out.kept hg)
                have K4 := hide (K3.out.kept hg)
                have Z4 := hide (Z3.out.kept hg)
                have Y4 := hide (Y3.out.kept hg)
                have X4 := hide (X3.out.kept hg)
                clear hg K3 P3 Z3 Y3 X3 L3
                have rk4 := K4.out.range0
                have cb4 := SEbit X4.out.range0
                have ry4 := Y4.out.range0
                have rs4 : w4.rangeAt M 1 (By S.1) := SEside X4.out.range0
                have hN4 : N ≤ w4.heap.size := Nat.le_of_lt K4.out.lt
                obtain ⟨z, HZ⟩ : ∃ z, Hid (fkH i S y = z) := ⟨_, rfl⟩
                go_wp2_with (first
                  | (refine wpList_load_mid rfl 24 _ rfl N 0 rfl (By k.1) _ rk4 Tryd.underlying24 rfl (Tryd.sizeH _) ?_)
                  | (go_at_call 31; refine (C1.out _).mono ?_; rintro e w5 ⟨rfl, hb5⟩; have L5 : Hid (Below N w w5) := (show _ from L4.out.trans (hb5.mono hN4)); have P5 := hide (P4.out.kept hb5); have K5 := hide (K4.out.kept hb5); have Z5 := hide (Z4.out.kept hb5); have Y5 := hide (Y4.out.kept hb5); have cb5 := SEbit (X4.out.kept hb5).range0; have rs5 : w5.rangeAt M 1 (By S.1) := SEside (X4.out.kept hb5).range0; have ry5 := Y5.out.range0; clear hb5)
                  | (refine wpList_load_mid rfl 24 _ rfl E 0 rfl (By y.1) _ ry5 Tryd.underlying24 rfl (Tryd.sizeH _) ?_)
                  | (refine wpList_load_mid rfl 24 _ rfl M 1 rfl (By S.1) _ rs5 Tryd.underlying24 rfl (Tryd.sizeH _) ?_)
                  | (go_at_call 40; refine (rfork_any i S y _).mono ?_; rintro e w6 ⟨rfl, hb6⟩; have hN5 : N ≤ w5.heap.size := Nat.le_of_lt K5.out.lt; have L6 : Hid (Below N w w6) := (show _ from L5.out.trans (hb6.mono hN5)); have P6 := hide (P5.out.kept hb6); have K6 := hide (K5.out.kept hb6); have Z6 := hide (Z5.out.kept hb6); have Y6 := hide (Y5.out.kept hb6); rw [HZ.out]; clear hb6 hN5)
                  | (refine wpList_store_blk rfl 24 _ _ rfl E (By y.1) (By z.1) 24 rfl rfl Y6.out (by rw [By_len, By_len]) (Tryd.sizeH _) (By_one _) ?_; intro w7 hb7 hu7)
                  | fail)
                have hN6 : N ≤ w6.heap.size := Nat.le_of_lt K6.out.lt
                have L7 : Hid (Below N w w7) := (show _ from L6.out.trans (hu7.below (by omega) hN6))
                have P7 := hide (P6.out.but hu7 (by omega))
                have K7 := hide (K6.out.but hu7 (by omega))
                have Z7 := hide (Z6.out.but hu7 (by omega))
                have Y7 : Hid (Blk w7 E 24 (By (climbF k (p.1.drop m) st).1)) := (show Blk _ _ _ _ by rw [HST.out, HJ.out, HZ.out]; exact hb7)
                clear hb7 hu7
                go_roundg (m + 1)
                case measure => omega
                case rel => exact ⟨m, by omega, rfl, rfl, RN, L7, P7, K7, Z7, Y7⟩
            · have RF : Hid (leadsP k p = false) := (show _ = _ by rw [RI2.out, decide_eq_false (fun e => hne e.symm)]; simp)
              go_upto_region 10 with (first
                | (refine wpList_load_mid rfl 69 _ rfl ba (oa + m * 33) rfl (SE.c ((i : Int), S)) _ hx Tryd.underlying69 rfl (Tryd.sizeR _) ?_)
                | (rw [HM.out]; refine wpList_store_blk rfl 69 _ _ rfl M (SE.c zs) (SE.c ((i : Int), S)) 69 rfl rfl (by rw [← HM.out]; exact Blk.new wr 69 (SE.c zs)) (by rw [SE_len, SE_len]) (Tryd.sizeR _) (SE.one _) ?_; intro w3 hb3 hu3; have D3 : Below wr.heap.size wr w3 := (((Below.refl _ _).alloc (Nat.le_refl _) _).trans (hu3.below (Nat.le_of_eq HM.out) (by simp))); have L3 : Hid (Below N w w3) := (show _ from LR.out.trans (D3.mono hGR)); have X3 := hide hb3; have P3 := hide (PR.out.kept D3); have K3 := hide (KR.out.kept D3); have Z3 := hide (ZR.out.kept D3); have Y3 := hide (YR.out.kept D3); clear hb3 hu3 D3)
                | fail)
              refine wp_region_inv Tryd.mixed (KS (fun i_ => match i_ with | 0 => .val (HV k) | 1 | 6 => .val (.pointer (some ⟨M, 0, none⟩)) | 2 | 7 => .val (.int .i64 (i : Int)) | 3 => .val (.int .i64 1) | 4 => .val (.pointer (some ⟨N + 1, 2, none⟩)) | 5 => .val (HV p.2.2.1) | 8 => .val (.int .i64 b2) | 9 => .val (.bool true) | _ => .free)) 64 rfl (by decide +kernel) (KS_mono _) ?_ ?_
              · refine AllFrom.cons (fun a' w' hg hk hd => ?_) (AllFrom.cons (fun a' w' hg hk hd => ?_) (AllFrom.cons (fun a' w' hg hk hd => ?_) (AllFrom.cons (fun a' w' hg hk hd => ?_) (AllFrom.cons (fun a' w' hg hk hd => ?_) (AllFrom.cons (fun a' w' hg hk hd => ?_) (AllFrom.cons (fun a' w' hg hk hd => ?_) (AllFrom.cons (fun a' w' hg hk hd => ?_) (AllFrom.cons (fun a' w' hg hk hd => ?_) (AllFrom.cons (fun a' w' hg hk hd => ?_) AllFrom.nil)))))))))
                · skip
                  intro Q
                  have e2 : a'.eval (.tmp 2) = .pointer (some ⟨N, 0, none⟩) := hk.at 2 (by decide +kernel)
                  exact wp_load_row 24 _ rfl _ _ e2 (By (k).1) _ ((K3.out.kept hg).range0) Tryd.underlying24 rfl (Tryd.sizeH _) (KS_mkv rfl rfl)
                · skip
                  intro Q
                  have e8 : a'.eval (.tmp 8) = .pointer (some ⟨M, 0, none⟩) := hk.at 8 (by decide +kernel)
                  clear hd hk
                  exact wp_value (.pointer (some ⟨M, 0, none⟩)) (by simp only [execOp, e8]; go_simp) (KS_mkv rfl rfl)
                · skip
                  intro Q
                  have e36 : a'.eval (.tmp 36) = .pointer (some ⟨M, 0, none⟩) := KS_val (hd.val 1 36 (by decide +kernel)) rfl
                  have hc := SEbit (X3.out.kept hg).range0
                  clear hd hk
                  exact wp_value (.int .i64 (i : Int)) (by simp only [execOp, e36]; go_simp) (KS_mkv rfl rfl)
                · skip
                  intro Q
                  have e35 : a'.eval (.tmp 35) = HV k := KS_val (hd.val 0 35 (by decide +kernel)) rfl
                  have e37 : a'.eval (.tmp 37) = .int .i64 (i : Int) := KS_val (hd.val 2 37 (by decide +kernel)) rfl
                  refine wp_call 31 _ (run_enter 31 _ _ rfl (by kernel_rfl)) ?_
                  simp only [List.map_toArray, List.map_nil, List.map_cons, e35, e37]
                  refine (C1.out _).mono ?_
                  rintro e w5 ⟨rfl, hb5⟩
                  exact ⟨_, rfl, KS_mkv rfl rfl, hb5⟩
                · skip
                  intro Q
                  have e3 : a'.eval (.tmp 3) = .pointer (some ⟨N + 1, 0, none⟩) := hk.at 3 (by decide +kernel)
                  clear hd hk
                  exact wp_value (.pointer (some ⟨N + 1, 2, none⟩)) (by simp only [execOp, e3]; go_simp) (KS_mkv rfl rfl)
                · skip
                  intro Q
                  have e39 : a'.eval (.tmp 39) = .pointer (some ⟨N + 1, 2, none⟩) := KS_val (hd.val 4 39 (by decide +kernel)) rfl
                  exact wp_load_row 24 _ rfl _ _ e39 (By (p.2.2.1).1) _ (PrC.key (P3.out.kept hg)) Tryd.underlying24 rfl (Tryd.sizeH _) (KS_mkv rfl rfl)
                · skip
                  intro Q
                  have e8 : a'.eval (.tmp 8) = .pointer (some ⟨M, 0, none⟩) := hk.at 8 (by decide +kernel)
                  clear hd hk
                  exact wp_value (.pointer (some ⟨M, 0, none⟩)) (by simp only [execOp, e8]; go_simp) (KS_mkv rfl rfl)
                · skip
                  intro Q
                  have e41 : a'.eval (.tmp 41) = .pointer (some ⟨M, 0, none⟩) := KS_val (hd.val 6 41 (by decide +kernel)) rfl
                  have hc := SEbit (X3.out.kept hg).range0
                  clear hd hk
                  exact wp_value (.int .i64 (i : Int)) (by simp only [execOp, e41]; go_simp) (KS_mkv rfl rfl)
                · skip
                  intro Q
                  have e40 : a'.eval (.tmp 40) = HV p.2.2.1 := KS_val (hd.val 5 40 (by decide +kernel)) rfl
                  have e42 : a'.eval (.tmp 42) = .int .i64 (i : Int) := KS_val (hd.val 7 42 (by decide +kernel)) rfl
                  refine wp_call 31 _ (run_enter 31 _ _ rfl (by kernel_rfl)) ?_
                  simp only [List.map_toArray, List.map_nil, List.map_cons, e40, e42]
                  refine (C2.out _).mono ?_
                  rintro e w5 ⟨rfl, hb5⟩
                  exact ⟨_, rfl, KS_mkv rfl rfl, hb5⟩
                · skip
                  intro Q
                  have e38 : a'.eval (.tmp 38) = .int .i64 1 := KS_val (hd.val 3 38 (by decide +kernel)) rfl
                  have e43 : a'.eval (.tmp 43) = .int .i64 b2 := KS_val (hd.val 8 43 (by decide +kernel)) rfl
                  clear hd hk
                  exact wp_value (.bool true) (by simp only [execOp, e38, e43]; go_simp; first | done | exact hne | simp [hne]) (KS_mkv rfl rfl)
              · intro a' w4 hsz hdf hk hall hg
                have e35 : a'.eval (.tmp 35) = HV k := KS_val (hall 0 _ 35 rfl rfl) rfl
                have e36 : a'.eval (.tmp 36) = .pointer (some ⟨M, 0, none⟩) := KS_val (hall 1 _ 36 rfl rfl) rfl
                have e37 : a'.eval (.tmp 37) = .int .i64 (i : Int) := KS_val (hall 2 _ 37 rfl rfl) rfl
                have e38 : a'.eval (.tmp 38) = .int .i64 1 := KS_val (hall 3 _ 38 rfl rfl) rfl
                have e39 : a'.eval (.tmp 39) = .pointer (some ⟨N + 1, 2, none⟩) := KS_val (hall 4 _ 39 rfl rfl) rfl
                have e40 : a'.eval (.tmp 40) = HV p.2.2.1 := KS_val (hall 5 _ 40 rfl rfl) rfl
                have e41 : a'.eval (.tmp 41) = .pointer (some ⟨M, 0, none⟩) := KS_val (hall 6 _ 41 rfl rfl) rfl
                have e42 : a'.eval (.tmp 42) = .int .i64 (i : Int) := KS_val (hall 7 _ 42 rfl rfl) rfl
                have e43 : a'.eval (.tmp 43) = .int .i64 b2 := KS_val (hall 8 _ 43 rfl rfl) rfl
                have e44 : a'.eval (.tmp 44) = .bool true := KS_val (hall 9 _ 44 rfl rfl) rfl
                have ha := act_puts 64 rfl hsz hdf hk [35, 36, 37, 38, 39, 40, 41, 42, 43, 44] (by decide +kernel)
                simp only [puts, List.foldl_cons, List.foldl_nil, e35, e36, e37, e38, e39, e40, e41, e42, e43, e44] at ha
                simp only [Act.put, List.setIfInBounds_toArray, List.set_cons_succ, List.set_cons_zero] at ha
                clear hall hk hsz hdf e35 e36 e37 e38 e39 e40 e41 e42 e43 e44
                subst ha
                have L4 : Hid (Below N w w4) := (show _ from L3.out.trans (hg.mono (by have := P3.out.lt; omega)))
                have P4 := hide (P3.out.kept hg)
                have K4 := hide (K3.out.kept hg)
                have Z4 := hide (Z3.out.kept hg)
                have Y4 := hide (Y3.out.kept hg)
                have X4 := hide (X3.out.kept hg)
                clear hg K3 P3 Z3 Y3 X3 L3
                go_wp2_with (first
                  | (refine wpList_build rfl 24 _ rfl (.agg (By z0.1).toArray) (by simp only [execOp, List.map_toArray, List.map_nil, Sem.run_bind, Sem.run_pure]; exact congrArg (fun r => Result.andThen r _) (hbz _)) ?_)
                  | (refine wpList_store_blk rfl 24 _ _ rfl (N + 2) (By zh.1) (By (z0).1) 24 rfl rfl Z4.out (by rw [By_len, By_len]) (Tryd.sizeH _) (By_one _) ?_; intro w7 hb7 hu7)
                  | fail)
                refine bodyPost_ret (results_hb rfl _ _ (N + 2) 24 (By z0.1) (.bool false) rfl rfl hb7 Tryd.underlying24 rfl (Tryd.sizeH _)) rfl ⟨by rw [CF.out RF.out, HZ0.out], ?_⟩
                exact L4.out.trans (hu7.below (by omega) (by have := Z4.out.lt; omega))
#print axioms eClimb_any
end Go.Proofs.YtooffljimdklfaaDoor

/-
  Check, member's and the reference's: what the calls do.
-/
namespace Go.Proofs.YtooffljimdklfaaDoor
open Go.RowKit
theorem own_iff (e : En) (k : Hs) : (e.1 && decide (e.2.1 = k)) = decide (e = (true, k, e.2.2)) := by
  obtain ⟨l, x, y⟩ := e
  cases l with
  | false => simp
  | true => by_cases h : x = k <;> simp [h]
theorem results_hbb {P : Program} {fn : Func} {p u v : Tmp} {ty : TypeId} (h : fn.results = #[.cell p ty, .tmp u, .tmp v]) (tmps : Array Value) (w : World) (g : Nat) (T : TypeId) (cs : List Value) (b c : Value) {d : TypeDesc}
    (hp : tmps.getD p undef = .pointer (some ⟨g, 0, none⟩)) (hb : tmps.getD u undef = b) (hc : tmps.getD v undef = c) (hB : Blk w g T cs) (hu : P.underlying ty = some d) (hd : d.isRow = true) (hi : (P.info? ty).map (·.size) = some cs.length) :
    (results fn tmps).run P w = .ok (.tuple #[.agg cs.toArray, b, c]) w := by
  have h1 := run_loadVar_mid (P := P) w g 0 ty cs d hB.range0 hu hd hi
  rw [Array.getD_eq_getD_getElem?] at hp hb hc
  simp only [results, h]
  simp [Result.andThen, hp, hb, hc, asAddr, h1]
set_option maxHeartbeats 8000000 in
set_option maxRecDepth 100000 in
theorem bCheck_any {w : World} {v : Value} {p : Pr} (r k : Hs) (hr : RdG SE w v p.1) (hn : p.1.length ≤ 1000000) (hT : Tabs w) : Calls Tryd.prog 18 #[HV r, HV k, .agg (PrC v p).toArray] w fun e w' => e = .returned (.tuple #[.agg (By (checkP r k p).1.1).toArray, .bool (checkP r k p).2.1, .bool (checkP r k p).2.2]) ∧ Below w.heap.size w w' := by
  have HLN : Hid (p.1.length ≤ 1000000) := hn
  have HT := hide hT
  have HR := hide hr
  obtain ⟨a, cp, rfl⟩ := hr.slice
  clear hr
  obtain ⟨n, HNL⟩ : ∃ n, Hid (p.1.length = n) := ⟨_, rfl⟩
  rw [HNL.out] at HR ⊢
  obtain ⟨N, HN⟩ : ∃ N, Hid (w.heap.size = N) := ⟨_, rfl⟩
  rw [HN.out]
  have h2 : 2 ≤ N := by rw [← HN.out]; exact hT.size
  clear hT
  clear hn
  unfold HV
  go_enter Tryd.func18, Tryd.ntmps18
  go_upto_region 1 with fail
  obtain ⟨w1, hw1⟩ : ∃ z, z = (((w.alloc (.cells (By r.1).toArray 24 (0, 0))).alloc (.cells (By k.1).toArray 24 (0, 0))).alloc (.cells (PrC (.slice a n cp) p).toArray 39 (0, 0))).alloc (.cells (By zh.1).toArray 24 (0, 0)) := ⟨_, rfl⟩
  change Code.wp _ _ _ _ ((((w.alloc (.cells (By r.1).toArray 24 (0, 0))).alloc (.cells (By k.1).toArray 24 (0, 0))).alloc (.cells (PrC (.slice a n cp) p).toArray 39 (0, 0))).alloc (.cells (By zh.1).toArray 24 (0, 0)))
  rw [← hw1, HN.out]
  obtain ⟨b0, b1, b2, b3, ln, sz1⟩ := box4 HN hw1
  clear hw1
  have rk := b1.range0
  have rp := b2.range0
  have R0 := hide b0
  have K1 := hide b1
  have P1 := hide b2
  have B3 := hide b3
  have L1 := hide ln
  have R1 := hide (HR.out.kept (ln.mono (Nat.le_of_eq HN.out)))
  have T1 := hide (HT.out.kept (L1.out.mono h2))
  clear b0 b1 b2 b3 ln
  obtain ⟨z0, HZ0⟩ : ∃ z, Hid (zh = z) := ⟨_, rfl⟩
  have hbz : ∀ W, (Instr.build 24 #[]).run Tryd.prog W = .ok (.agg (By z0.1).toArray) W := fun W => by rw [← HZ0.out]; exact run_build W _ _ _ (by kernel_rfl)
  have CC := hide (bClimb_any k R1.out HLN.out T1.out)
  obtain ⟨⟨h, ok⟩, HCL⟩ : ∃ z, Hid (climbP k p = z) := ⟨_, rfl⟩
  rw [HCL.out] at CC
  have HCK : Hid (checkP r k p = if ok && decide (h = r) then (if p.2.1 && decide (p.2.2.1 = k) then (p.2.2.2, true, true) else (zh, false, true)) else (zh, false, false)) := (show _ = _ by unfold checkP; rw [HCL.out])
  go_upto_region 2 with (first
    | (refine wpList_load_mid rfl 24 _ rfl (N + 1) 0 rfl (By k.1) _ rk Tryd.underlying24 rfl (Tryd.sizeH _) ?_)
    | (refine wpList_load_mid rfl 39 _ rfl (N + 2) 0 rfl (PrC (.slice a n cp) p) _ rp Tryd.underlying39 rfl (Tryd.sizePr _ _) ?_)
    | (go_at_call 16; refine CC.out.mono ?_; rintro e w2 ⟨rfl, hb2⟩; have R2 := hide (R0.out.kept hb2); have K2 := hide (K1.out.kept hb2); have P2 := hide (P1.out.kept hb2); have Z2 := hide (B3.out.kept hb2); have L2 : Hid (Below N w w2) := (show _ from L1.out.trans (hb2.mono (by omega))); obtain ⟨E, HE⟩ : ∃ E, Hid (w2.heap.size = E) := ⟨_, rfl⟩; clear hb2)
    | (rw [HE.out]; refine wpList_store_blk rfl 24 _ _ rfl E (By zh.1) (By h.1) 24 rfl rfl (by rw [← HE.out]; exact Blk.new w2 24 (By zh.1)) (by rw [By_len, By_len]) (Tryd.sizeH _) (By_one _) ?_; intro w3 hb3 hu3; have D3 : Below w2.heap.size w2 w3 := (((Below.refl _ _).alloc (Nat.le_refl _) _).trans (hu3.below (Nat.le_of_eq HE.out) (by simp))); have R3 := hide (R2.out.kept D3); have K3 := hide (K2.out.kept D3); have P3 := hide (P2.out.kept D3); have Z3 := hide (Z2.out.kept D3); have X3 := hide hb3; have L3 : Hid (Below N w w3) := (show _ from L2.out.trans (D3.mono (by have := Z2.out.lt; omega))); clear hb3 hu3 D3)
    | fail)
  have rx := X3.out.range0
  have rr := R3.out.range0
  have rk3 := K3.out.range0
  have rv3 := PrC.value P3.out
  have hNE : N + 3 < E := by rw [← HE.out]; exact Z2.out.lt
  clear R0 K1 P1 B3 L1 R1 CC rk rp R2 K2 P2 Z2 L2
  have heq := eqA h r
  cases ok with
  | false =>
    have CF : Hid (checkP r k p = (zh, false, false)) := (show _ = _ by rw [HCK.out]; rfl)
    go_wp2_with (first
      | (refine wpList_build rfl 24 _ rfl (.agg (By z0.1).toArray) (by simp only [execOp, List.map_toArray, List.map_nil, Sem.run_bind, Sem.run_pure]; exact congrArg (fun r => Result.andThen r _) (hbz _)) ?_)
      | (refine wpList_store_blk rfl 24 _ _ rfl (N + 3) (By zh.1) (By (z0).1) 24 rfl rfl Z3.out (by rw [By_len, By_len]) (Tryd.sizeH _) (By_one _) ?_; intro w7 hb7 hu7)
      | fail)
    refine bodyPost_ret (results_hbb rfl _ _ (N + 3) 24 (By z0.1) (.bool false) (.bool false) rfl rfl rfl hb7 Tryd.underlying24 rfl (Tryd.sizeH _)) rfl ⟨by rw [CF.out, HZ0.out], ?_⟩
    exact L3.out.trans (hu7.below (by omega) (by have := Z3.out.lt; omega))
  | true =>
    by_cases hh : h = r
    · rw [decide_eq_true hh] at heq
      have HCK2 : Hid (checkP r k p = if p.2.1 && decide (p.2.2.1 = k) then (p.2.2.2, true, true) else (zh, false, true)) := (show _ = _ by rw [HCK.out, decide_eq_true hh]; rfl)
      clear hh
      have hbe := build_end true k p.2.2.2
      obtain ⟨G, HGs⟩ : ∃ G, Hid (w3.heap.size = G) := ⟨_, rfl⟩
      go_upto_region 5 with (first
      | (refine wpList_load_w9 rfl 24 _ rfl E 0 rfl (By h.1) _ rx Tryd.underlying24 rfl (Tryd.sizeH _) ?_)
      | (refine wpList_load_w9 rfl 24 _ rfl N 0 rfl (By r.1) _ rr Tryd.underlying24 rfl (Tryd.sizeH _) ?_)
      | (refine wpList_load_mid rfl 24 _ rfl (N + 1) 0 rfl (By k.1) _ rk3 Tryd.underlying24 rfl (Tryd.sizeH _) ?_)
      | (refine wpList_load_mid rfl 24 _ rfl (N + 2) 34 rfl (By p.2.2.2.1) _ rv3 Tryd.underlying24 rfl (Tryd.sizeH _) ?_)
      | (refine wpList_build rfl 79 _ rfl (.agg (EN.c (true, k, p.2.2.2)).toArray) (by simp only [execOp, List.map_toArray, List.map_cons, List.map_nil, Sem.run_bind, Sem.run_pure]; exact congrArg (fun r => Result.andThen r _) (hbe _)) ?_)
      | (rw [HGs.out]; refine wpList_store_blk rfl 79 _ _ rfl G (EN.c ze) (EN.c (true, k, p.2.2.2)) 79 rfl rfl (by rw [← HGs.out]; exact Blk.new w3 79 (EN.c ze)) (by rw [EN_len, EN_len]) (Tryd.sizeE _) (EN.one _) ?_; intro w5 hb5 hu5)
      | fail)
      have D5 : Below w3.heap.size w3 w5 := (((Below.refl _ _).alloc (Nat.le_refl _) _).trans (hu5.below (Nat.le_of_eq HGs.out) (by simp)))
      have P5 := hide (P3.out.kept D5)
      have Z5 := hide (Z3.out.kept D5)
      have W5 := hide hb5
      have L5 : Hid (Below N w w5) := (show _ from L3.out.trans (D5.mono (by have := Z3.out.lt; omega)))
      clear hb5 hu5 D5 rx rr rk3 rv3 heq
      have HOW := hide (own_iff p.2 k)
      by_cases ho : p.2 = (true, k, p.2.2.2)
      · have CT : Hid (checkP r k p = (p.2.2.2, true, true)) := (show _ = _ by rw [HCK2.out, HOW.out, decide_eq_true ho]; rfl)
        have HO := hide ho
        clear ho
        refine wp_region_inv Tryd.mixed (KS (fun i_ => match i_ with | 0 => .val (.agg (PrC (.slice a n cp) p).toArray) | 1 => .val (.agg (EN.c p.2).toArray) | 2 => .val (.agg (EN.c (true, k, p.2.2.2)).toArray) | 3 => .val (.bool false) | _ => .free)) 37 rfl (by decide +kernel) (KS_mono _) ?_ ?_
        · refine AllFrom.cons (fun a' w' hg hk hd => ?_) (AllFrom.cons (fun a' w' hg hk hd => ?_) (AllFrom.cons (fun a' w' hg hk hd => ?_) (AllFrom.cons (fun a' w' hg hk hd => ?_) AllFrom.nil)))
          · skip
            intro Q
            have e5 : a'.eval (.tmp 5) = .pointer (some ⟨N + 2, 0, none⟩) := hk.at 5 (by decide +kernel)
            exact wp_load_row 39 _ rfl _ _ e5 (PrC (.slice a n cp) p) _ ((P5.out.kept hg).range0) Tryd.underlying39 rfl (Tryd.sizePr _ _) (KS_mkv rfl rfl)
          · skip
            intro Q
            have e30 : a'.eval (.tmp 30) = .agg (PrC (.slice a n cp) p).toArray := KS_val (hd.val 0 30 (by decide +kernel)) rfl
            refine wp_call 34 _ (run_enter 34 _ _ rfl (by kernel_rfl)) ?_
            simp only [List.map_toArray, List.map_nil, List.map_cons, e30]
            refine (bend_any (.slice a n cp) p _).mono ?_
            rintro e w5 ⟨rfl, hb5⟩
            exact ⟨_, rfl, KS_mkv rfl rfl, hb5⟩
          · skip
            intro Q
            have e11 : a'.eval (.tmp 11) = .pointer (some ⟨G, 0, none⟩) := hk.at 11 (by decide +kernel)
            exact wp_load_row 79 _ rfl _ _ e11 (EN.c (true, k, p.2.2.2)) _ ((W5.out.kept hg).range0) Tryd.underlying79 rfl (Tryd.sizeE _) (KS_mkv rfl rfl)
          · skip
            intro Q
            have e31 : a'.eval (.tmp 31) = .agg (EN.c p.2).toArray := KS_val (hd.val 1 31 (by decide +kernel)) rfl
            have e32 : a'.eval (.tmp 32) = .agg (EN.c (true, k, p.2.2.2)).toArray := KS_val (hd.val 2 32 (by decide +kernel)) rfl
            have hq := eqE p.2 (true, k, p.2.2.2)
            rw [decide_eq_true HO.out] at hq
            clear hd hk
            exact wp_value _ (by simp only [execOp, e31, e32]; go_simp) (KS_mkv rfl rfl)
        · intro a' w6 hsz hdf hk hall hg
          have e30 : a'.eval (.tmp 30) = .agg (PrC (.slice a n cp) p).toArray := KS_val (hall 0 _ 30 rfl rfl) rfl
          have e31 : a'.eval (.tmp 31) = .agg (EN.c p.2).toArray := KS_val (hall 1 _ 31 rfl rfl) rfl
          have e32 : a'.eval (.tmp 32) = .agg (EN.c (true, k, p.2.2.2)).toArray := KS_val (hall 2 _ 32 rfl rfl) rfl
          have e33 : a'.eval (.tmp 33) = .bool false := KS_val (hall 3 _ 33 rfl rfl) rfl
          have ha := act_puts 37 rfl hsz hdf hk [30, 31, 32, 33] (by decide +kernel)
          simp only [puts, List.foldl_cons, List.foldl_nil, e30, e31, e32, e33] at ha
          simp only [Act.put, List.setIfInBounds_toArray, List.set_cons_succ, List.set_cons_zero] at ha
          clear hall hk hsz hdf e30 e31 e32 e33
          subst ha
          have Z6 := hide (Z5.out.kept hg)
          have P6 := hide (P5.out.kept hg)
          have L6 : Hid (Below N w w6) := (show _ from L5.out.trans (hg.mono (by have := Z5.out.lt; omega)))
          have rv6 := PrC.value P6.out
          clear hg
          go_wp2_with (first
            | (refine wpList_load_mid rfl 24 _ rfl (N + 2) 34 rfl (By p.2.2.2.1) _ rv6 Tryd.underlying24 rfl (Tryd.sizeH _) ?_)
            | (refine wpList_store_blk rfl 24 _ _ rfl (N + 3) (By zh.1) (By (p.2.2.2).1) 24 rfl rfl Z6.out (by rw [By_len, By_len]) (Tryd.sizeH _) (By_one _) ?_; intro w7 hb7 hu7)
            | fail)
          refine bodyPost_ret (results_hbb rfl _ _ (N + 3) 24 (By p.2.2.2.1) (.bool true) (.bool true) rfl rfl rfl hb7 Tryd.underlying24 rfl (Tryd.sizeH _)) rfl ⟨by rw [CT.out], ?_⟩
          exact L6.out.trans (hu7.below (by omega) (by have := Z6.out.lt; omega))
      · have CT : Hid (checkP r k p = (zh, false, true)) := (show _ = _ by rw [HCK2.out, HOW.out, decide_eq_false ho]; rfl)
        have HO := hide ho
        clear ho
        refine wp_region_inv Tryd.mixed (KS (fun i_ => match i_ with | 0 => .val (.agg (PrC (.slice a n cp) p).toArray) | 1 => .val (.agg (EN.c p.2).toArray) | 2 => .val (.agg (EN.c (true, k, p.2.2.2)).toArray) | 3 => .val (.bool true) | _ => .free)) 37 rfl (by decide +kernel) (KS_mono _) ?_ ?_
        · refine AllFrom.cons (fun a' w' hg hk hd => ?_) (AllFrom.cons (fun a' w' hg hk hd => ?_) (AllFrom.cons (fun a' w' hg hk hd => ?_) (AllFrom.cons (fun a' w' hg hk hd => ?_) AllFrom.nil)))
          · skip
            intro Q
            have e5 : a'.eval (.tmp 5) = .pointer (some ⟨N + 2, 0, none⟩) := hk.at 5 (by decide +kernel)
            exact wp_load_row 39 _ rfl _ _ e5 (PrC (.slice a n cp) p) _ ((P5.out.kept hg).range0) Tryd.underlying39 rfl (Tryd.sizePr _ _) (KS_mkv rfl rfl)
          · skip
            intro Q
            have e30 : a'.eval (.tmp 30) = .agg (PrC (.slice a n cp) p).toArray := KS_val (hd.val 0 30 (by decide +kernel)) rfl
            refine wp_call 34 _ (run_enter 34 _ _ rfl (by kernel_rfl)) ?_
            simp only [List.map_toArray, List.map_nil, List.map_cons, e30]
            refine (bend_any (.slice a n cp) p _).mono ?_
            rintro e w5 ⟨rfl, hb5⟩
            exact ⟨_, rfl, KS_mkv rfl rfl, hb5⟩
          · skip
            intro Q
            have e11 : a'.eval (.tmp 11) = .pointer (some ⟨G, 0, none⟩) := hk.at 11 (by decide +kernel)
            exact wp_load_row 79 _ rfl _ _ e11 (EN.c (true, k, p.2.2.2)) _ ((W5.out.kept hg).range0) Tryd.underlying79 rfl (Tryd.sizeE _) (KS_mkv rfl rfl)
          · skip
            intro Q
            have e31 : a'.eval (.tmp 31) = .agg (EN.c p.2).toArray := KS_val (hd.val 1 31 (by decide +kernel)) rfl
            have e32 : a'.eval (.tmp 32) = .agg (EN.c (true, k, p.2.2.2)).toArray := KS_val (hd.val 2 32 (by decide +kernel)) rfl
            have hq := eqE p.2 (true, k, p.2.2.2)
            rw [decide_eq_false HO.out] at hq
            clear hd hk
            exact wp_value _ (by simp only [execOp, e31, e32]; go_simp) (KS_mkv rfl rfl)
        · intro a' w6 hsz hdf hk hall hg
          have e30 : a'.eval (.tmp 30) = .agg (PrC (.slice a n cp) p).toArray := KS_val (hall 0 _ 30 rfl rfl) rfl
          have e31 : a'.eval (.tmp 31) = .agg (EN.c p.2).toArray := KS_val (hall 1 _ 31 rfl rfl) rfl
          have e32 : a'.eval (.tmp 32) = .agg (EN.c (true, k, p.2.2.2)).toArray := KS_val (hall 2 _ 32 rfl rfl) rfl
          have e33 : a'.eval (.tmp 33) = .bool true := KS_val (hall 3 _ 33 rfl rfl) rfl
          have ha := act_puts 37 rfl hsz hdf hk [30, 31, 32, 33] (by decide +kernel)
          simp only [puts, List.foldl_cons, List.foldl_nil, e30, e31, e32, e33] at ha
          simp only [Act.put, List.setIfInBounds_toArray, List.set_cons_succ, List.set_cons_zero] at ha
          clear hall hk hsz hdf e30 e31 e32 e33
          subst ha
          have Z6 := hide (Z5.out.kept hg)
          have P6 := hide (P5.out.kept hg)
          have L6 : Hid (Below N w w6) := (show _ from L5.out.trans (hg.mono (by have := Z5.out.lt; omega)))
          have rv6 := PrC.value P6.out
          clear hg
          go_wp2_with (first
            | (refine wpList_build rfl 24 _ rfl (.agg (By z0.1).toArray) (by simp only [execOp, List.map_toArray, List.map_nil, Sem.run_bind, Sem.run_pure]; exact congrArg (fun r => Result.andThen r _) (hbz _)) ?_)
            | (refine wpList_store_blk rfl 24 _ _ rfl (N + 3) (By zh.1) (By (z0).1) 24 rfl rfl Z6.out (by rw [By_len, By_len]) (Tryd.sizeH _) (By_one _) ?_; intro w7 hb7 hu7)
            | fail)
          refine bodyPost_ret (results_hbb rfl _ _ (N + 3) 24 (By z0.1) (.bool false) (.bool true) rfl rfl rfl hb7 Tryd.underlying24 rfl (Tryd.sizeH _)) rfl ⟨by rw [CT.out, HZ0.out], ?_⟩
          exact L6.out.trans (hu7.below (by omega) (by have := Z6.out.lt; omega))
    · rw [decide_eq_false hh] at heq
      have CF : Hid (checkP r k p = (zh, false, false)) := (show _ = _ by rw [HCK.out, decide_eq_false hh]; rfl)
      clear hh
      go_wp2_with (first
      | (refine wpList_load_w9 rfl 24 _ rfl E 0 rfl (By h.1) _ rx Tryd.underlying24 rfl (Tryd.sizeH _) ?_)
      | (refine wpList_load_w9 rfl 24 _ rfl N 0 rfl (By r.1) _ rr Tryd.underlying24 rfl (Tryd.sizeH _) ?_)
      | (refine wpList_build rfl 24 _ rfl (.agg (By z0.1).toArray) (by simp only [execOp, List.map_toArray, List.map_nil, Sem.run_bind, Sem.run_pure]; exact congrArg (fun r => Result.andThen r _) (hbz _)) ?_)
      | (refine wpList_store_blk rfl 24 _ _ rfl (N + 3) (By zh.1) (By (z0).1) 24 rfl rfl Z3.out (by rw [By_len, By_len]) (Tryd.sizeH _) (By_one _) ?_; intro w7 hb7 hu7)
      | fail)
      refine bodyPost_ret (results_hbb rfl _ _ (N + 3) 24 (By z0.1) (.bool false) (.bool false) rfl rfl rfl hb7 Tryd.underlying24 rfl (Tryd.sizeH _)) rfl ⟨by rw [CF.out, HZ0.out], ?_⟩
      exact L3.out.trans (hu7.below (by omega) (by have := Z3.out.lt; omega))
set_option maxHeartbeats 8000000 in
set_option maxRecDepth 100000 in
theorem eCheck_any {w : World} {v : Value} {p : Pr} (r k : Hs) (hr : RdG SE w v p.1) (hn : p.1.length ≤ 1000000) : Calls Tryd.prog 19 #[HV r, HV k, .agg (PrC v p).toArray] w fun e w' => e = .returned (.tuple #[.agg (By (checkP r k p).1.1).toArray, .bool (checkP r k p).2.1, .bool (checkP r k p).2.2]) ∧ Below w.heap.size w w' := by
  have HLN : Hid (p.1.length ≤ 1000000) := hn
  have HR := hide hr
  obtain ⟨a, cp, rfl⟩ := hr.slice
  clear hr
  obtain ⟨n, HNL⟩ : ∃ n, Hid (p.1.length = n) := ⟨_, rfl⟩
  rw [HNL.out] at HR ⊢
  obtain ⟨N, HN⟩ : ∃ N, Hid (w.heap.size = N) := ⟨_, rfl⟩
  rw [HN.out]
  clear hn
  unfold HV
  go_enter Tryd.func19, Tryd.ntmps19
  go_upto_region 1 with fail
  obtain ⟨w1, hw1⟩ : ∃ z, z = (((w.alloc (.cells (By r.1).toArray 24 (0, 0))).alloc (.cells (By k.1).toArray 24 (0, 0))).alloc (.cells (PrC (.slice a n cp) p).toArray 35 (0, 0))).alloc (.cells (By zh.1).toArray 24 (0, 0)) := ⟨_, rfl⟩
  change Code.wp _ _ _ _ ((((w.alloc (.cells (By r.1).toArray 24 (0, 0))).alloc (.cells (By k.1).toArray 24 (0, 0))).alloc (.cells (PrC (.slice a n cp) p).toArray 35 (0, 0))).alloc (.cells (By zh.1).toArray 24 (0, 0)))
  rw [← hw1, HN.out]
  obtain ⟨b0, b1, b2, b3, ln, sz1⟩ := box4 HN hw1
  clear hw1
  have rk := b1.range0
  have rp := b2.range0
  have R0 := hide b0
  have K1 := hide b1
  have P1 := hide b2
  have B3 := hide b3
  have L1 := hide ln
  have R1 := hide (HR.out.kept (ln.mono (Nat.le_of_eq HN.out)))
  clear b0 b1 b2 b3 ln
  obtain ⟨z0, HZ0⟩ : ∃ z, Hid (zh = z) := ⟨_, rfl⟩
  have hbz : ∀ W, (Instr.build 24 #[]).run Tryd.prog W = .ok (.agg (By z0.1).toArray) W := fun W => by rw [← HZ0.out]; exact run_build W _ _ _ (by kernel_rfl)
  have CC := hide (eClimb_any k R1.out HLN.out)
  obtain ⟨⟨h, ok⟩, HCL⟩ : ∃ z, Hid (climbP k p = z) := ⟨_, rfl⟩
  rw [HCL.out] at CC
  have HCK : Hid (checkP r k p = if ok && decide (h = r) then (if p.2.1 && decide (p.2.2.1 = k) then (p.2.2.2, true, true) else (zh, false, true)) else (zh, false, false)) := (show _ = _ by unfold checkP; rw [HCL.out])
  go_upto_region 2 with (first
    | (refine wpList_load_mid rfl 24 _ rfl (N + 1) 0 rfl (By k.1) _ rk Tryd.underlying24 rfl (Tryd.sizeH _) ?_)
    | (refine wpList_load_mid rfl 35 _ rfl (N + 2) 0 rfl (PrC (.slice a n cp) p) _ rp Tryd.underlying35 rfl (Tryd.sizeRp _ _) ?_)
    | (go_at_call 17; refine CC.out.mono ?_; rintro e w2 ⟨rfl, hb2⟩; have R2 := hide (R0.out.kept hb2); have K2 := hide (K1.out.kept hb2); have P2 := hide (P1.out.kept hb2); have Z2 := hide (B3.out.kept hb2); have L2 : Hid (Below N w w2) := (show _ from L1.out.trans (hb2.mono (by omega))); obtain ⟨E, HE⟩ : ∃ E, Hid (w2.heap.size = E) := ⟨_, rfl⟩; clear hb2)
    | (rw [HE.out]; refine wpList_store_blk rfl 24 _ _ rfl E (By zh.1) (By h.1) 24 rfl rfl (by rw [← HE.out]; exact Blk.new w2 24 (By zh.1)) (by rw [By_len, By_len]) (Tryd.sizeH _) (By_one _) ?_; intro w3 hb3 hu3; have D3 : Below w2.heap.size w2 w3 := (((Below.refl _ _).alloc (Nat.le_refl _) _).trans (hu3.below (Nat.le_of_eq HE.out) (by simp))); have R3 := hide (R2.out.kept D3); have K3 := hide (K2.out.kept D3); have P3 := hide (P2.out.kept D3); have Z3 := hide (Z2.out.kept D3); have X3 := hide hb3; have L3 : Hid (Below N w w3) := (show _ from L2.out.trans (D3.mono (by have := Z2.out.lt; omega))); clear hb3 hu3 D3)
    | fail)
  have rx := X3.out.range0
  have rr := R3.out.range0
  have rk3 := K3.out.range0
  have rv3 := PrC.value P3.out
  have hNE : N + 3 < E := by rw [← HE.out]; exact Z2.out.lt
  clear R0 K1 P1 B3 L1 R1 CC rk rp R2 K2 P2 Z2 L2
  have heq := eqA h r
  cases ok with
  | false =>
    have CF : Hid (checkP r k p = (zh, false, false)) := (show _ = _ by rw [HCK.out]; rfl)
    go_wp2_with (first
      | (refine wpList_build rfl 24 _ rfl (.agg (By z0.1).toArray) (by simp only [execOp, List.map_toArray, List.map_nil, Sem.run_bind, Sem.run_pure]; exact congrArg (fun r => Result.andThen r _) (hbz _)) ?_)
      | (refine wpList_store_blk rfl 24 _ _ rfl (N + 3) (By zh.1) (By (z0).1) 24 rfl rfl Z3.out (by rw [By_len, By_len]) (Tryd.sizeH _) (By_one _) ?_; intro w7 hb7 hu7)
      | fail)
    refine bodyPost_ret (results_hbb rfl _ _ (N + 3) 24 (By z0.1) (.bool false) (.bool false) rfl rfl rfl hb7 Tryd.underlying24 rfl (Tryd.sizeH _)) rfl ⟨by rw [CF.out, HZ0.out], ?_⟩
    exact L3.out.trans (hu7.below (by omega) (by have := Z3.out.lt; omega))
  | true =>
    by_cases hh : h = r
    · rw [decide_eq_true hh] at heq
      have HCK2 : Hid (checkP r k p = if p.2.1 && decide (p.2.2.1 = k) then (p.2.2.2, true, true) else (zh, false, true)) := (show _ = _ by rw [HCK.out, decide_eq_true hh]; rfl)
      clear hh
      have c1 := PrC.leaf P3.out
      have rq3 := PrC.key P3.out
      have heq2 := eqA p.2.2.1 k
      obtain ⟨lf, HLF⟩ : ∃ z, Hid (p.2.1 = z) := ⟨_, rfl⟩
      rw [HLF.out] at c1 HCK2
      cases lf with
      | false =>
        have CT : Hid (checkP r k p = (zh, false, true)) := (show _ = _ by rw [HCK2.out]; rfl)
        go_wp2_with (first
          | (refine wpList_load_w9 rfl 24 _ rfl E 0 rfl (By h.1) _ rx Tryd.underlying24 rfl (Tryd.sizeH _) ?_)
          | (refine wpList_load_w9 rfl 24 _ rfl N 0 rfl (By r.1) _ rr Tryd.underlying24 rfl (Tryd.sizeH _) ?_)
          | (refine wpList_build rfl 24 _ rfl (.agg (By z0.1).toArray) (by simp only [execOp, List.map_toArray, List.map_nil, Sem.run_bind, Sem.run_pure]; exact congrArg (fun r => Result.andThen r _) (hbz _)) ?_)
          | (refine wpList_store_blk rfl 24 _ _ rfl (N + 3) (By zh.1) (By (z0).1) 24 rfl rfl Z3.out (by rw [By_len, By_len]) (Tryd.sizeH _) (By_one _) ?_; intro w7 hb7 hu7)
          | fail)
        refine bodyPost_ret (results_hbb rfl _ _ (N + 3) 24 (By z0.1) (.bool false) (.bool true) rfl rfl rfl hb7 Tryd.underlying24 rfl (Tryd.sizeH _)) rfl ⟨by rw [CT.out, HZ0.out], ?_⟩
        exact L3.out.trans (hu7.below (by omega) (by have := Z3.out.lt; omega))
      | true =>
        by_cases hk : p.2.2.1 = k
        · rw [decide_eq_true hk] at heq2 HCK2
          have CT : Hid (checkP r k p = (p.2.2.2, true, true)) := (show _ = _ by rw [HCK2.out]; rfl)
          clear hk
          go_wp2_with (first
            | (refine wpList_load_w9 rfl 24 _ rfl E 0 rfl (By h.1) _ rx Tryd.underlying24 rfl (Tryd.sizeH _) ?_)
            | (refine wpList_load_w9 rfl 24 _ rfl N 0 rfl (By r.1) _ rr Tryd.underlying24 rfl (Tryd.sizeH _) ?_)
            | (refine wpList_load_w9 rfl 24 _ rfl (N + 2) 2 rfl (By p.2.2.1.1) _ rq3 Tryd.underlying24 rfl (Tryd.sizeH _) ?_)
            | (refine wpList_load_w9 rfl 24 _ rfl (N + 1) 0 rfl (By k.1) _ rk3 Tryd.underlying24 rfl (Tryd.sizeH _) ?_)
            | (refine wpList_load_mid rfl 24 _ rfl (N + 2) 34 rfl (By p.2.2.2.1) _ rv3 Tryd.underlying24 rfl (Tryd.sizeH _) ?_)
            | (refine wpList_store_blk rfl 24 _ _ rfl (N + 3) (By zh.1) (By (p.2.2.2).1) 24 rfl rfl Z3.out (by rw [By_len, By_len]) (Tryd.sizeH _) (By_one _) ?_; intro w7 hb7 hu7)
            | fail)
          refine bodyPost_ret (results_hbb rfl _ _ (N + 3) 24 (By p.2.2.2.1) (.bool true) (.bool true) rfl rfl rfl hb7 Tryd.underlying24 rfl (Tryd.sizeH _)) rfl ⟨by rw [CT.out], ?_⟩
          exact L3.out.trans (hu7.below (by omega) (by have := Z3.out.lt; omega))
        · rw [decide_eq_false hk] at heq2 HCK2
          have CT : Hid (checkP r k p = (zh, false, true)) := (show _ = _ by rw [HCK2.out]; rfl)
          clear hk
          go_wp2_with (first
            | (refine wpList_load_w9 rfl 24 _ rfl E 0 rfl (By h.1) _ rx Tryd.underlying24 rfl (Tryd.sizeH _) ?_)
            | (refine wpList_load_w9 rfl 24 _ rfl N 0 rfl (By r.1) _ rr Tryd.underlying24 rfl (Tryd.sizeH _) ?_)
            | (refine wpList_load_w9 rfl 24 _ rfl (N + 2) 2 rfl (By p.2.2.1.1) _ rq3 Tryd.underlying24 rfl (Tryd.sizeH _) ?_)
            | (refine wpList_load_w9 rfl 24 _ rfl (N + 1) 0 rfl (By k.1) _ rk3 Tryd.underlying24 rfl (Tryd.sizeH _) ?_)
            | (refine wpList_build rfl 24 _ rfl (.agg (By z0.1).toArray) (by simp only [execOp, List.map_toArray, List.map_nil, Sem.run_bind, Sem.run_pure]; exact congrArg (fun r => Result.andThen r _) (hbz _)) ?_)
            | (refine wpList_store_blk rfl 24 _ _ rfl (N + 3) (By zh.1) (By (z0).1) 24 rfl rfl Z3.out (by rw [By_len, By_len]) (Tryd.sizeH _) (By_one _) ?_; intro w7 hb7 hu7)
            | fail)
          refine bodyPost_ret (results_hbb rfl _ _ (N + 3) 24 (By z0.1) (.bool false) (.bool true) rfl rfl rfl hb7 Tryd.underlying24 rfl (Tryd.sizeH _)) rfl ⟨by rw [CT.out, HZ0.out], ?_⟩
          exact L3.out.trans (hu7.below (by omega) (by have := Z3.out.lt; omega))
    · rw [decide_eq_false hh] at heq
      have CF : Hid (checkP r k p = (zh, false, false)) := (show _ = _ by rw [HCK.out, decide_eq_false hh]; rfl)
      clear hh
      go_wp2_with (first
      | (refine wpList_load_w9 rfl 24 _ rfl E 0 rfl (By h.1) _ rx Tryd.underlying24 rfl (Tryd.sizeH _) ?_)
      | (refine wpList_load_w9 rfl 24 _ rfl N 0 rfl (By r.1) _ rr Tryd.underlying24 rfl (Tryd.sizeH _) ?_)
      | (refine wpList_build rfl 24 _ rfl (.agg (By z0.1).toArray) (by simp only [execOp, List.map_toArray, List.map_nil, Sem.run_bind, Sem.run_pure]; exact congrArg (fun r => Result.andThen r _) (hbz _)) ?_)
      | (refine wpList_store_blk rfl 24 _ _ rfl (N + 3) (By zh.1) (By (z0).1) 24 rfl rfl Z3.out (by rw [By_len, By_len]) (Tryd.sizeH _) (By_one _) ?_; intro w7 hb7 hu7)
      | fail)
      refine bodyPost_ret (results_hbb rfl _ _ (N + 3) 24 (By z0.1) (.bool false) (.bool false) rfl rfl rfl hb7 Tryd.underlying24 rfl (Tryd.sizeH _)) rfl ⟨by rw [CF.out, HZ0.out], ?_⟩
      exact L3.out.trans (hu7.below (by omega) (by have := Z3.out.lt; omega))
#print axioms bCheck_any
#print axioms eCheck_any
end Go.Proofs.YtooffljimdklfaaDoor
