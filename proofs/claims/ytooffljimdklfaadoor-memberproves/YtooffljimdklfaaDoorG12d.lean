/-
  Texts that ride together: MbI MbJ MbY MbK Region15.
-/
import Derived.Test.YtooffljimdklfaaDoorG12a
import Derived.Test.YtooffljimdklfaaDoorG12b
import Derived.Test.YtooffljimdklfaaDoorG12c
import Derived.Test.YtooffljimdklfaaDoorLawX11
import Derived.Test.YtooffljimdklfaaDoorG11r
import Derived.Test.YtooffljimdklfaaDoorG11p
/-
  The law's plain and the reference's Same: what the calls do.
-/
namespace Go.Proofs.YtooffljimdklfaaDoor
open Go.RowKit
theorem wpList_build_rowr {ops : Array Oper} {rest : List Oper} {op : Oper} {a : Act} {w : World} {Q : Exit → Act → World → Prop} (hgd : op.guard = none) (x : Operand) (ho : op.op = .buildSlice 33 1 #[(0, x)]) (p : Sp) (hx : a.eval x = .agg (SE.c p).toArray)
    (h : wpList Tryd.prog ops Q rest (a.put op.dst (.slice (some ⟨w.heap.size, 0, none⟩) 1 1)) (w.alloc (.cells (SE.c p).toArray 69 (0, 0)))) : wpList Tryd.prog ops Q (op :: rest) a w := by
  refine wpList_plain hgd fun K hK => ?_
  have hr := build_row1r p w
  unfold Oper.wp execOp
  simp only [ho, hx, hr, List.map_toArray, List.map_cons, List.map_nil, Sem.run_bind, Sem.run_pure, Result.andThen_ok]
  exact hK _ _ h
/-- A slice stored into one cell of a block. -/
theorem wp_store_rs {w : World} {o : Oper} {a : Act} {K : Act → World → Prop} {Q : Exit → Act → World → Prop} (x y : Operand) (ho : o.op = .store 33 x y) (b j : Nat) (T : TypeId) (cs : List Value) (u : Value) (p : Option Addr) (n c : Nat)
    (hx : a.eval x = .pointer (some ⟨b, j, none⟩)) (hy : a.eval y = .slice p n c) (hB : Blk w b T cs) (hu : cs[j]? = some u) (h : ∀ w', Blk w' b T (cs.set j (.slice p n c)) → But b w w' → K (a.put o.dst undef) w') : o.wp Tryd.prog a w K Q := by
  have hc := hB.cell (j := j) (v := u) hu
  have hf := hB.frozen j
  have hrun : (execOp a.eval o).run Tryd.prog w = .ok .skip (w.setCell ⟨b, j, none⟩ (.slice p n c)) := by
    simp only [execOp, ho, hx, hy]
    go_simp
  unfold Oper.wp
  rw [hrun]
  exact h _ (hB.set j (.slice p n c)) (But.setCell b w j _)
theorem wpList_store_rs {ops : Array Oper} {rest : List Oper} {o : Oper} {a : Act} {w : World} {Q : Exit → Act → World → Prop} (hgd : o.guard = none) (x y : Operand) (ho : o.op = .store 33 x y) (b j : Nat) (T : TypeId) (cs : List Value) (u : Value) (p : Option Addr) (n c : Nat)
    (hx : a.eval x = .pointer (some ⟨b, j, none⟩)) (hy : a.eval y = .slice p n c) (hB : Blk w b T cs) (hu : cs[j]? = some u) (h : ∀ w', Blk w' b T (cs.set j (.slice p n c)) → But b w w' → wpList Tryd.prog ops Q rest (a.put o.dst undef) w') : wpList Tryd.prog ops Q (o :: rest) a w :=
  wpList_plain hgd fun _ hK => wp_store_rs x y ho b j T cs u p n c hx hy hB hu fun w' h1 h2 => hK _ _ (h w' h1 h2)
set_option maxHeartbeats 4000000 in
set_option maxRecDepth 100000 in
theorem plain_any {w : World} {v : Value} {p : Pr} (hr : RdG SE w v p.1) (hn : p.1.length ≤ 1000000) : Calls Tryd.prog 12 #[.agg (PrC v p).toArray] w fun e w' => ∃ a c, e = .returned (.agg (PrC (.slice a p.1.length c) p).toArray) ∧ OwnG SE w' w.heap.size 69 (.slice a p.1.length c) p.1 ∧ Below w.heap.size w w' := by
  have HR := hide hr
  obtain ⟨a, cp, rfl⟩ := hr.slice
  have hcap := hr.cap'
  clear hr
  obtain ⟨n, HNL⟩ : ∃ n, Hid (p.1.length = n) := ⟨_, rfl⟩
  rw [HNL.out] at HR hcap ⊢
  obtain ⟨N, HN⟩ : ∃ N, Hid (w.heap.size = N) := ⟨_, rfl⟩
  rw [HN.out]
  rw [HNL.out] at hn
  go_enter Tryd.func12, Tryd.ntmps12
  go_upto_region 1 with fail
  obtain ⟨w1, hw1⟩ : ∃ z, z = (w.alloc (.cells (PrC (.slice a n cp) p).toArray 39 (0, 0))).alloc (.cells (PrC (.slice none 0 0) zp).toArray 35 (0, 0)) := ⟨_, rfl⟩
  change Code.wp _ _ _ _ ((w.alloc (.cells (PrC (.slice a n cp) p).toArray 39 (0, 0))).alloc (.cells (PrC (.slice none 0 0) zp).toArray 35 (0, 0)))
  rw [← hw1, HN.out]
  obtain ⟨b0, b1, ln, sz1⟩ := box2 HN hw1
  clear hw1
  have P1 := hide b0
  have Z1 := hide b1
  have L1 := hide ln
  have hS1 := sz1
  have c1 := PrC.leaf b0
  have rk := PrC.key b0
  have rv := PrC.value b0
  have hbe := build_rproof p.2.1 p.2.2.1 p.2.2.2
  obtain ⟨E, HE⟩ : ∃ E, Hid (w1.heap.size = E) := ⟨_, rfl⟩
  have hNE : N + 2 ≤ E := by rw [← HE.out]; omega
  clear b0 b1 ln sz1 hS1
  go_upto_region 2 with (first
    | (refine wpList_load_mid rfl 24 _ rfl N 2 rfl (By p.2.2.1.1) _ rk Tryd.underlying24 rfl (Tryd.sizeH _) ?_)
    | (refine wpList_load_mid rfl 24 _ rfl N 34 rfl (By p.2.2.2.1) _ rv Tryd.underlying24 rfl (Tryd.sizeH _) ?_)
    | (refine wpList_build rfl 35 _ rfl (.agg (PrC (.slice none 0 0) p).toArray) (by simp only [execOp, List.map_toArray, List.map_cons, List.map_nil, Sem.run_bind, Sem.run_pure]; exact congrArg (fun r => Result.andThen r _) (hbe _)) ?_)
    | (rw [HE.out]; refine wpList_store_blk rfl 35 _ _ rfl E (PrC (.slice none 0 0) zp) (PrC (.slice none 0 0) p) 35 rfl rfl (by rw [← HE.out]; exact Blk.new w1 35 (PrC (.slice none 0 0) zp)) (by rw [PrC_len, PrC_len]) (Tryd.sizeRp _ _) (PrC_one _) ?_; intro w2 hb2 hu2)
    | fail)
  have D2 : Below w1.heap.size w1 w2 := (((Below.refl _ _).alloc (Nat.le_refl _) _).trans (hu2.below (Nat.le_of_eq HE.out) (by simp)))
  have P2 := hide (P1.out.kept D2)
  have Z2 := hide (Z1.out.kept D2)
  have X2 := hide hb2
  have L2 : Hid (Below N w w2) := (show _ from L1.out.trans (D2.mono (by rw [HE.out]; omega)))
  have c0 := PrC.steps P2.out
  clear hb2 hu2 D2 P1 Z1 L1 c1 rk rv hbe
  go_wp2_with fail
  go_loopg [16] (n + 1) (fun g z wr => ∃ (i : Nat) (pa : Option Addr) (pc : Nat), i ≤ n ∧ g + i = n + 1 ∧ z = .int .i64 (i : Int) ∧ Hid (OwnG SE wr N 69 (.slice pa i pc) (p.1.take i)) ∧ Hid (Blk wr E 35 (PrC (.slice pa i pc) p)) ∧ Hid (Blk wr (N + 1) 35 (PrC (.slice none 0 0) zp)) ∧ Hid (Below N w wr))
  case atStart => exact ⟨0, none, 0, by omega, by omega, rfl, (show OwnG _ _ _ _ _ _ from ownG_nil _ _ _), X2, Z2, L2⟩
  case round =>
    clear X2 Z2 L2 P2 c0
    obtain ⟨i, pa, pc, hi, hgi, rfl, OR, XR, ZR, LR⟩ := hrel
    have hGR : N ≤ wr.heap.size := by have := ZR.out.lt; omega
    by_cases hlt : i < n
    · have hlt2 : i < p.1.length := by rw [HNL.out]; exact hlt
      obtain ⟨ba, oa, hsl, hba, hxa⟩ := (HR.out.kept (LR.out.mono (Nat.le_of_eq HN.out))).nth (by omega)
      have hx : wr.rangeAt ba (oa + i * 33) (SE.c p.1[i]) := hxa i hlt2
      have HTK : Hid (p.1.take (i + 1) = p.1.take i ++ [p.1[i]]) := (show _ = _ from List.take_succ_eq_append_getElem hlt2)
      have HLT : Hid ((p.1.take i).length = i) := (show _ = _ by rw [List.length_take]; omega)
      generalize p.1[i] = x at hx HTK
      subst hsl
      clear hxa hlt2
      have q2 : (i : Int) < (n : Int) := by omega
      have q3 : ¬ n ≤ i := by omega
      obtain ⟨M, HM⟩ : ∃ M, Hid (wr.heap.size = M) := ⟨_, rfl⟩
      have hEM : E < M := by rw [← HM.out]; exact XR.out.lt
      have HL9 : Hid ((p.1.take i).length + [x].length ≤ 10000000) := (show _ ≤ _ by rw [HLT.out, List.length_singleton]; omega)
      go_wp2_with (first
        | (refine wpList_load_mid rfl 70 _ rfl ba (oa + i * 33) rfl (SE.c x) _ hx Tryd.underlying70 rfl (Tryd.sizeS x) ?_)
        | (rw [HM.out]; refine wpList_store_blk rfl 70 _ _ rfl M (SE.c zs) (SE.c x) 70 rfl rfl (by rw [← HM.out]; exact Blk.new wr 70 (SE.c zs)) (by rw [SE_len, SE_len]) (Tryd.sizeS x) (SE.one x) ?_; intro w3 hb3 hu3; have D3 : Below wr.heap.size wr w3 := (((Below.refl _ _).alloc (Nat.le_refl _) _).trans (hu3.below (Nat.le_of_eq HM.out) (by simp))); have L3 : Hid (Below N w w3) := (show _ from LR.out.trans (D3.mono hGR)); have B3 := hide hb3; have O3 := hide (OR.out.kept D3); have X3 := hide (XR.out.kept D3); have Z3 := hide (ZR.out.kept D3); have cx := PrC.steps X3.out; have hG3 : N ≤ w3.heap.size := (by have := hb3.lt; omega); clear hb3 hu3 D3)
        | (refine wpList_load_mid rfl 70 _ rfl M 0 rfl (SE.c x) _ B3.out.range0 Tryd.underlying70 rfl (Tryd.sizeS x) ?_)
        | (refine wpList_build_rowr rfl _ rfl x rfl ?_)
        | (refine wpList_append_E (E := SE) Tryd.underlying33 infoR9 (by decide) rfl (.tmp 21) (.tmp 23) rfl N (.slice pa i pc) (p.1.take i) rfl (O3.out.kept ((Below.refl _ _).alloc (Nat.le_refl _) _)) (.slice (some ⟨w3.heap.size, 0, none⟩) 1 1) [x] rfl (rdG_one w3 69 x) HL9.out (by simp; omega) ?_; intro v9 w9 o9 g9 q9; have O9 := hide o9; have D9 : Chg (fun j => (Value.slice pa i pc).ownBlock = some j) w3 w9 := (Chg.alloc _ w3 (.cells (SE.c x).toArray 69 (0, 0))).trans (Chg.of_grown g9 (fun k e _ => e)); have HNO : ∀ {j : Nat} {T : TypeId} {cs : List Value}, Blk w3 j T cs → T ≠ 69 → ¬ (Value.slice pa i pc).ownBlock = some j := (fun hB hT e => by obtain ⟨_, _, cur, hcur⟩ := O3.out.block e; exact hT (hB.inj (show Blk _ _ _ cur.toList from by simpa [Blk] using hcur)).1); have X9 := hide (X3.out.chg D9 (HNO X3.out (by decide))); have Z9 := hide (Z3.out.chg D9 (HNO Z3.out (by decide))); have L9 : Hid (Below N w w9) := (show _ from L3.out.trans (D9.below hG3 (fun j hj e => by have := (O3.out.block e).1; omega))); clear o9 g9 q9 D9 HNO; obtain ⟨p9, c9, hv9⟩ := O9.out.form; rw [List.length_append, List.length_singleton, HLT.out] at hv9; subst hv9)
        | (refine wpList_store_rs rfl (.tmp 25) (.tmp 24) rfl E 0 35 (PrC (.slice pa i pc) p) (.slice pa i pc) p9 (i + 1) c9 rfl rfl X9.out rfl ?_; intro w10 b10 u10)
        | fail)
      have O10 : Hid (OwnG SE w10 N 69 (.slice p9 (i + 1) c9) (p.1.take (i + 1))) := (show OwnG _ _ _ _ _ _ by rw [HTK.out]; exact O9.out.chg (F := fun j => j = E) (Chg.of_but u10 rfl) (fun j hj e => by subst e; obtain ⟨_, _, cur, hcur⟩ := O9.out.block hj; have h9 := (X9.out.inj (show Blk _ _ _ cur.toList from by simpa [Blk] using hcur)).1; exact absurd h9 (by decide)))
      have L10 : Hid (Below N w w10) := (show _ from L9.out.trans (u10.below (by omega) (by have := X9.out.lt; omega)))
      have Z10 := hide (Z9.out.but u10 (by omega))
      have X10 : Hid (Blk w10 E 35 (PrC (.slice p9 (i + 1) c9) p)) := b10
      clear b10 u10
      go_roundg (n + 1 - (i + 1))
      case measure => omega
      case rel => exact ⟨i + 1, p9, c9, by omega, by omega, by go_num, O10, X10, Z10, L10⟩
    · obtain rfl : i = n := by omega
      have q2 : ¬ (i : Int) < (i : Int) := by omega
      have OE : Hid (OwnG SE wr N 69 (.slice pa i pc) p.1) := (show OwnG _ _ _ _ _ _ by have := OR.out; rwa [List.take_of_length_le (by rw [HNL.out]; exact Nat.le_refl _)] at this)
      have rx := XR.out.range0
      go_wp2_with (first
        | (refine wpList_load_mid rfl 35 _ rfl E 0 rfl (PrC (.slice pa i pc) p) _ rx Tryd.underlying35 rfl (Tryd.sizeRp _ _) ?_)
        | (refine wpList_store_blk rfl 35 _ _ rfl (N + 1) (PrC (.slice none 0 0) zp) (PrC (.slice pa i pc) p) 35 rfl rfl ZR.out (by rw [PrC_len, PrC_len]) (Tryd.sizeRp _ _) (PrC_one _) ?_; intro w7 hb7 hu7)
        | fail)
      refine bodyPost_ret (results_cell_row rfl _ _ (N + 1) 35 _ (0, 0) _ rfl hb7 Tryd.underlying35 rfl (by simpa using Tryd.sizeRp _ _)) rfl ⟨pa, pc, rfl, ?_, LR.out.trans (hu7.below (by omega) hGR)⟩
      exact OE.out.chg (F := fun j => j = N + 1) (Chg.of_but hu7 rfl) (fun j hj e => by subst e; obtain ⟨_, _, cur, hcur⟩ := OE.out.block hj; have h9 := (ZR.out.inj (show Blk _ _ _ cur.toList from by simpa [Blk] using hcur)).1; exact absurd h9 (by decide))
set_option maxHeartbeats 4000000 in
set_option maxRecDepth 100000 in
theorem esame_any {w : World} {va vb : Value} {p : Pr} (ha : RdG SE w va p.1) (hb : RdG SE w vb p.1) : Calls Tryd.prog 11 #[.agg (PrC va p).toArray, .agg (PrC vb p).toArray] w fun e w' => e = .returned (.bool true) ∧ Below w.heap.size w w' := by
  have HA := hide ha
  have HB := hide hb
  obtain ⟨sa, ca, rfl⟩ := ha.slice
  obtain ⟨sb, cb, rfl⟩ := hb.slice
  have hcap := ha.cap'
  clear ha hb
  obtain ⟨n, HNL⟩ : ∃ n, Hid (p.1.length = n) := ⟨_, rfl⟩
  rw [HNL.out] at HA HB hcap ⊢
  obtain ⟨N, HN⟩ : ∃ N, Hid (w.heap.size = N) := ⟨_, rfl⟩
  rw [HN.out]
  go_enter Tryd.func11, Tryd.ntmps11
  go_upto_region 1 with fail
  obtain ⟨w1, hw1⟩ : ∃ z, z = (w.alloc (.cells (PrC (.slice sa n ca) p).toArray 35 (0, 0))).alloc (.cells (PrC (.slice sb n cb) p).toArray 35 (0, 0)) := ⟨_, rfl⟩
  change Code.wp _ _ _ _ ((w.alloc (.cells (PrC (.slice sa n ca) p).toArray 35 (0, 0))).alloc (.cells (PrC (.slice sb n cb) p).toArray 35 (0, 0)))
  rw [← hw1, HN.out]
  obtain ⟨b0, b1, ln, sz1⟩ := box2 HN hw1
  clear hw1
  have A1 := hide b0
  have B1 := hide b1
  have L1 := hide ln
  have c0 := PrC.steps b0
  have c1 := PrC.leaf b0
  have rk := PrC.key b0
  have rv := PrC.value b0
  have d0 := PrC.steps b1
  have d1 := PrC.leaf b1
  have sk := PrC.key b1
  have sv := PrC.value b1
  have hq1 := eqA p.2.2.1 p.2.2.1
  have hq2 := eqA p.2.2.2 p.2.2.2
  rw [decide_eq_true rfl] at hq1 hq2
  clear b0 b1 ln sz1
  obtain ⟨lf, HLF⟩ : ∃ z, Hid (p.2.1 = z) := ⟨_, rfl⟩
  rw [HLF.out] at c1 d1
  have hlq : (lf == lf) = true := by simp
  go_wp2_with (first
    | (refine wpList_load_w9 rfl 24 _ rfl N 2 rfl (By p.2.2.1.1) _ rk Tryd.underlying24 rfl (Tryd.sizeH _) ?_)
    | (refine wpList_load_w9 rfl 24 _ rfl N 34 rfl (By p.2.2.2.1) _ rv Tryd.underlying24 rfl (Tryd.sizeH _) ?_)
    | (refine wpList_load_w9 rfl 24 _ rfl (N + 1) 2 rfl (By p.2.2.1.1) _ sk Tryd.underlying24 rfl (Tryd.sizeH _) ?_)
    | (refine wpList_load_w9 rfl 24 _ rfl (N + 1) 34 rfl (By p.2.2.2.1) _ sv Tryd.underlying24 rfl (Tryd.sizeH _) ?_)
    | fail)
  go_loopg [37] (n + 1) (fun g z wr => ∃ (i : Nat), i ≤ n ∧ g + i = n + 1 ∧ z = .int .i64 (i : Int) ∧ Hid (Below N w wr) ∧ Hid (Blk wr N 35 (PrC (.slice sa n ca) p)) ∧ Hid (Blk wr (N + 1) 35 (PrC (.slice sb n cb) p)))
  case atStart => exact ⟨0, by omega, by omega, rfl, L1, A1, B1⟩
  case round =>
    clear L1 A1 B1 c0 c1 rk rv d0 d1 sk sv hq1 hq2
    obtain ⟨i, hi, hgi, rfl, LR, AR, BR⟩ := hrel
    have hGR : N ≤ wr.heap.size := Nat.le_of_lt AR.out.lt
    by_cases hlt : i < n
    · have hlt2 : i < p.1.length := by rw [HNL.out]; exact hlt
      obtain ⟨ba, oa, hsa, hba, hxa⟩ := (HA.out.kept (LR.out.mono (Nat.le_of_eq HN.out))).nth (by omega)
      obtain ⟨bb, ob, hsb, hbb, hxb⟩ := (HB.out.kept (LR.out.mono (Nat.le_of_eq HN.out))).nth (by omega)
      have hra : wr.rangeAt ba (oa + i * 33) (SE.c p.1[i]) := hxa i hlt2
      have hrb : wr.rangeAt bb (ob + i * 33) (SE.c p.1[i]) := hxb i hlt2
      generalize p.1[i] = x at hra hrb
      subst hsa
      subst hsb
      clear hxa hxb hlt2
      have q2 : (i : Int) < (n : Int) := by omega
      have q3 : ¬ n ≤ i := by omega
      go_upto_region 6 with fail
      refine wp_region_inv Tryd.mixed (KS (fun i_ => match i_ with | 0 => .val (.pointer (some ⟨N, 0, none⟩)) | 1 => .val (.slice (some ⟨ba, oa, none⟩) n ca) | 2 | 7 => .val (.int .i64 (i : Int)) | 3 => .val (.pointer (some ⟨ba, oa + i * 33, none⟩)) | 4 | 9 => .val (.agg (SE.c x).toArray) | 5 => .val (.pointer (some ⟨N + 1, 0, none⟩)) | 6 => .val (.slice (some ⟨bb, ob, none⟩) n cb) | 8 => .val (.pointer (some ⟨bb, ob + i * 33, none⟩)) | 10 => .val (.bool false) | _ => .free)) 52 rfl (by decide +kernel) (KS_mono _) ?_ ?_
      · refine AllFrom.cons (fun a' w' hg hk hd => ?_) (AllFrom.cons (fun a' w' hg hk hd => ?_) (AllFrom.cons (fun a' w' hg hk hd => ?_) (AllFrom.cons (fun a' w' hg hk hd => ?_) (AllFrom.cons (fun a' w' hg hk hd => ?_) (AllFrom.cons (fun a' w' hg hk hd => ?_) (AllFrom.cons (fun a' w' hg hk hd => ?_) (AllFrom.cons (fun a' w' hg hk hd => ?_) (AllFrom.cons (fun a' w' hg hk hd => ?_) (AllFrom.cons (fun a' w' hg hk hd => ?_) (AllFrom.cons (fun a' w' hg hk hd => ?_) AllFrom.nil))))))))))
        · skip
          intro Q
          have e2 : a'.eval (.tmp 2) = .pointer (some ⟨N, 0, none⟩) := hk.at 2 (by decide +kernel)
          clear hd hk
          exact wp_value (.pointer (some ⟨N, 0, none⟩)) (by simp only [execOp, e2]; go_simp) (KS_mkv rfl rfl)
        · skip
          intro Q
          have e40 : a'.eval (.tmp 40) = .pointer (some ⟨N, 0, none⟩) := KS_val (hd.val 0 40 (by decide +kernel)) rfl
          have hc := PrC.steps (AR.out.kept hg)
          clear hd hk
          exact wp_value (.slice (some ⟨ba, oa, none⟩) n ca) (by simp only [execOp, e40]; go_simp) (KS_mkv rfl rfl)
        · skip
          intro Q
          have e5 : a'.eval (.tmp 5) = .int .i64 (i : Int) := hk.at 5 (by decide +kernel)
          exact wp_value _ (by simp only [execOp, e5]; rfl) (KS_mkv rfl rfl)
        · skip
          intro Q
          have e41 : a'.eval (.tmp 41) = .slice (some ⟨ba, oa, none⟩) n ca := KS_val (hd.val 1 41 (by decide +kernel)) rfl
          have e42 : a'.eval (.tmp 42) = .int .i64 (i : Int) := KS_val (hd.val 2 42 (by decide +kernel)) rfl
          clear hd hk
          exact wp_value (.pointer (some ⟨ba, oa + i * 33, none⟩)) (by simp only [execOp, e41, e42]; go_simp) (KS_mkv rfl rfl)
        · skip
          intro Q
          have e43 : a'.eval (.tmp 43) = .pointer (some ⟨ba, oa + i * 33, none⟩) := KS_val (hd.val 3 43 (by decide +kernel)) rfl
          exact wp_load_row 69 _ rfl _ _ e43 (SE.c x) _ (rangeAt_kept11 hra hba hg) Tryd.underlying69 rfl (Tryd.sizeR x) (KS_mkv rfl rfl)
        · skip
          intro Q
          have e3 : a'.eval (.tmp 3) = .pointer (some ⟨N + 1, 0, none⟩) := hk.at 3 (by decide +kernel)
          clear hd hk
          exact wp_value (.pointer (some ⟨N + 1, 0, none⟩)) (by simp only [execOp, e3]; go_simp) (KS_mkv rfl rfl)
        · skip
          intro Q
          have e45 : a'.eval (.tmp 45) = .pointer (some ⟨N + 1, 0, none⟩) := KS_val (hd.val 5 45 (by decide +kernel)) rfl
          have hc := PrC.steps (BR.out.kept hg)
          clear hd hk
          exact wp_value (.slice (some ⟨bb, ob, none⟩) n cb) (by simp only [execOp, e45]; go_simp) (KS_mkv rfl rfl)
        · skip
          intro Q
          have e5 : a'.eval (.tmp 5) = .int .i64 (i : Int) := hk.at 5 (by decide +kernel)
          exact wp_value _ (by simp only [execOp, e5]; rfl) (KS_mkv rfl rfl)
        · skip
          intro Q
          have e46 : a'.eval (.tmp 46) = .slice (some ⟨bb, ob, none⟩) n cb := KS_val (hd.val 6 46 (by decide +kernel)) rfl
          have e47 : a'.eval (.tmp 47) = .int .i64 (i : Int) := KS_val (hd.val 7 47 (by decide +kernel)) rfl
          clear hd hk
          exact wp_value (.pointer (some ⟨bb, ob + i * 33, none⟩)) (by simp only [execOp, e46, e47]; go_simp) (KS_mkv rfl rfl)
        · skip
          intro Q
          have e48 : a'.eval (.tmp 48) = .pointer (some ⟨bb, ob + i * 33, none⟩) := KS_val (hd.val 8 48 (by decide +kernel)) rfl
          exact wp_load_row 69 _ rfl _ _ e48 (SE.c x) _ (rangeAt_kept11 hrb hbb hg) Tryd.underlying69 rfl (Tryd.sizeR x) (KS_mkv rfl rfl)
        · skip
          intro Q
          have e44 : a'.eval (.tmp 44) = .agg (SE.c x).toArray := KS_val (hd.val 4 44 (by decide +kernel)) rfl
          have e49 : a'.eval (.tmp 49) = .agg (SE.c x).toArray := KS_val (hd.val 9 49 (by decide +kernel)) rfl
          have hq := eqS x x
          rw [decide_eq_true rfl] at hq
          clear hd hk
          exact wp_value _ (by simp only [execOp, e44, e49]; go_simp) (KS_mkv rfl rfl)
      · intro a' w4 hsz hdf hk hall hg
        have e40 : a'.eval (.tmp 40) = .pointer (some ⟨N, 0, none⟩) := KS_val (hall 0 _ 40 rfl rfl) rfl
        have e41 : a'.eval (.tmp 41) = .slice (some ⟨ba, oa, none⟩) n ca := KS_val (hall 1 _ 41 rfl rfl) rfl
        have e42 : a'.eval (.tmp 42) = .int .i64 (i : Int) := KS_val (hall 2 _ 42 rfl rfl) rfl
        have e43 : a'.eval (.tmp 43) = .pointer (some ⟨ba, oa + i * 33, none⟩) := KS_val (hall 3 _ 43 rfl rfl) rfl
        have e44 : a'.eval (.tmp 44) = .agg (SE.c x).toArray := KS_val (hall 4 _ 44 rfl rfl) rfl
        have e45 : a'.eval (.tmp 45) = .pointer (some ⟨N + 1, 0, none⟩) := KS_val (hall 5 _ 45 rfl rfl) rfl
        have e46 : a'.eval (.tmp 46) = .slice (some ⟨bb, ob, none⟩) n cb := KS_val (hall 6 _ 46 rfl rfl) rfl
        have e47 : a'.eval (.tmp 47) = .int .i64 (i : Int) := KS_val (hall 7 _ 47 rfl rfl) rfl
        have e48 : a'.eval (.tmp 48) = .pointer (some ⟨bb, ob + i * 33, none⟩) := KS_val (hall 8 _ 48 rfl rfl) rfl
        have e49 : a'.eval (.tmp 49) = .agg (SE.c x).toArray := KS_val (hall 9 _ 49 rfl rfl) rfl
        have e50 : a'.eval (.tmp 50) = .bool false := KS_val (hall 10 _ 50 rfl rfl) rfl
        have ha := act_puts 52 rfl hsz hdf hk [40, 41, 42, 43, 44, 45, 46, 47, 48, 49, 50] (by decide +kernel)
        simp only [puts, List.foldl_cons, List.foldl_nil, e40, e41, e42, e43, e44, e45, e46, e47, e48, e49, e50] at ha
        simp only [Act.put, List.setIfInBounds_toArray, List.set_cons_succ, List.set_cons_zero] at ha
        clear hall hk hsz hdf e40 e41 e42 e43 e44 e45 e46 e47 e48 e49 e50
        subst ha
        have L4 : Hid (Below N w w4) := (show _ from LR.out.trans (hg.mono hGR))
        have A4 := hide (AR.out.kept hg)
        have B4 := hide (BR.out.kept hg)
        clear hg
        go_wp2_with fail
        go_roundg (n + 1 - (i + 1))
        case measure => omega
        case rel => exact ⟨i + 1, by omega, by omega, by go_num, L4, A4, B4⟩
    · obtain rfl : i = n := by omega
      have q2 : ¬ (i : Int) < (i : Int) := by omega
      go_wp2_with fail
      go_ret
      exact ⟨rfl, LR.out⟩
#print axioms plain_any
#print axioms esame_any
end Go.Proofs.YtooffljimdklfaaDoor

/-
  The law's made: what the call does.
-/
namespace Go.Proofs.YtooffljimdklfaaDoor
open Go.RowKit
/-- What is put, one behind the other. -/
def putsP (l : List It) : List It := l.foldl (fun m x => putP m x.1 x.2) []
theorem foldPut {m : List It} (l : List It) (h : Srt m) : Srt (l.foldl (fun m x => putP m x.1 x.2) m) ∧ (l.foldl (fun m x => putP m x.1 x.2) m).length ≤ m.length + l.length := by
  induction l generalizing m with
  | nil => exact ⟨h, by simp⟩
  | cons a l ih =>
    obtain ⟨h1, h2⟩ := ih (h.put a.1 a.2)
    refine ⟨h1, ?_⟩
    have := putP_length h a.1 a.2
    simp only [List.foldl_cons, List.length_cons] at h2 ⊢
    split at this <;> omega
theorem putsP_srt (l : List It) : Srt (putsP l) := (foldPut l Srt_nil).1
theorem putsP_length (l : List It) : (putsP l).length ≤ l.length := by have := (foldPut l Srt_nil).2; simpa [putsP] using this
theorem Tryd.sizeI12 (x : It) : (Tryd.prog.info? 63).map (·.size) = some (IE.c x).length := by rw [IE_len]; kernel_rfl
set_option maxHeartbeats 4000000 in
set_option maxRecDepth 100000 in
theorem imade_any {B0 : Nat} {w : World} {v : Value} {L : List It} (hr : RdG IE w v L) (hn : L.length ≤ 1000) (hB0 : B0 ≤ w.heap.size) : Calls Tryd.prog 10 #[v] w fun e w' => ∃ p pa lc, e = .returned (.tuple #[PT p, .slice pa (putsP L).length lc]) ∧ TrieAt B0 w' p (putsP L) ∧ OwnG IE w' w.heap.size 77 (.slice pa (putsP L).length lc) (putsP L) ∧ Below w.heap.size w w' := by
  have HR := hide hr
  obtain ⟨a, cp, rfl⟩ := hr.slice
  clear hr
  obtain ⟨n, HNL⟩ : ∃ n, Hid (L.length = n) := ⟨_, rfl⟩
  obtain ⟨N, HN⟩ : ∃ N, Hid (w.heap.size = N) := ⟨_, rfl⟩
  rw [HNL.out] at HR hn ⊢
  rw [HN.out] at hB0 ⊢
  have CN := hide (kNew_any B0 w)
  rw [HN.out] at CN
  go_enter Tryd.func10, Tryd.ntmps10
  go_wp2_with (first
    | (go_at_call 25; refine CN.out.mono ?_; rintro e w1 ⟨p0, rfl, hp0, t0, hb0⟩; have T0 := hide t0; have L0 := hide hb0; clear t0 hb0 hp0)
    | fail)
  go_loopg [4, 5, 11] (n + 1) (fun g t y z wr => ∃ (i p : Nat) (pa : Option Addr) (ln lc : Nat) (o : List It), i ≤ n ∧ g + i = n + 1 ∧ z = .int .i64 (i : Int) ∧ t = PT p ∧ y = .slice pa ln lc ∧ Hid ((L.take i).foldl (fun m x => putP m x.1 x.2) [] = o) ∧ Hid (TrieAt B0 wr p o) ∧ Hid (OwnG IE wr N 77 (.slice pa ln lc) o) ∧ Hid (Below N w wr))
  case atStart => exact ⟨0, p0, none, 0, 0, [], by omega, by omega, rfl, rfl, rfl, (show _ = _ from rfl), T0, (show OwnG _ _ _ _ _ _ from ownG_nil _ _ _), L0⟩
  case round =>
    clear T0 L0
    obtain ⟨i, p, pa, ln, lc, o, hi, hgi, rfl, rfl, rfl, FR, TR, OR, LR⟩ := hrel
    have HOL : Hid (o.length ≤ 1000000) := (show _ ≤ _ by
      have h1 := (foldPut (L.take i) Srt_nil).2
      rw [FR.out, List.length_take, List.length_nil] at h1
      omega)
    by_cases hlt : i < n
    · have hlt2 : i < L.length := by rw [HNL.out]; exact hlt
      obtain ⟨ba, oa, hsl, hba, hxa⟩ := (HR.out.kept (LR.out.mono (Nat.le_of_eq HN.out))).nth (by omega)
      have hx : wr.rangeAt ba (oa + i * 64) (IE.c L[i]) := hxa i hlt2
      obtain ⟨x, HX⟩ : ∃ x, Hid (L[i] = x) := ⟨L[i], (show L[i] = L[i] from rfl)⟩
      rw [HX.out] at hx
      subst hsl
      clear hxa
      have q2 : (i : Int) < (n : Int) := by omega
      have q3 : ¬ n ≤ i := by omega
      obtain ⟨E, HM⟩ : ∃ M, Hid (wr.heap.size = M) := ⟨_, rfl⟩
      have hNM : N ≤ E := by rw [← HM.out, ← HN.out]; exact LR.out.size
      have HTK : Hid (L.take (i + 1) = L.take i ++ [x]) := (show _ = _ by rw [List.take_succ_eq_append_getElem hlt2, HX.out])
      have HF2 : Hid ((L.take (i + 1)).foldl (fun m x => putP m x.1 x.2) [] = putP o x.1 x.2) := (show _ = _ by rw [HTK.out, List.foldl_append, FR.out]; rfl)
      go_upto_region 6 with (first
        | (refine wpList_load_mid rfl 63 _ rfl ba (oa + i * 64) rfl (IE.c x) _ hx Tryd.underlying63 rfl (Tryd.sizeI12 x) ?_)
        | (rw [HM.out]; refine wpList_store_blk rfl 63 _ _ rfl E (IE.c zi) (IE.c x) 63 rfl rfl (by rw [← HM.out]; exact Blk.new wr 63 (IE.c zi)) (by rw [IE_len, IE_len]) (Tryd.sizeI12 x) (IE.one x) ?_; intro w3 hb3 hu3; have D3 : Below wr.heap.size wr w3 := (((Below.refl _ _).alloc (Nat.le_refl _) _).trans (hu3.below (Nat.le_of_eq HM.out) (by simp))); have X3 := hide hb3; have T3 := hide (TR.out.kept D3); have O3 := hide (OR.out.kept D3); have L3 : Hid (Below N w w3) := (show _ from LR.out.trans (D3.mono (by rw [HM.out]; omega))); have G3 : Hid (N ≤ w3.heap.size) := (show _ ≤ _ from Nat.le_trans hNM (Nat.le_of_lt hb3.lt)); clear hb3 hu3 D3)
        | fail)
      refine wp_region_tailsK Tryd.mixed (KS (fun i_ => match i_ with | 0 => .val (PT p) | 1 | 7 => .val (.pointer (some ⟨E, 0, none⟩)) | 2 | 8 => .val (HV x.1) | 3 | 9 => .val (.pointer (some ⟨E, 32, none⟩)) | 4 | 10 => .val (HV x.2) | 5 => .of (fun w v_ => ∃ p_, v_ = PT p_ ∧ TrieAt B0 w p_ (putP o x.1 x.2)) (fun _ _ _ hg ⟨p_, e, h2⟩ => ⟨p_, e, h2.kept hg⟩) | 6 => .val (.slice pa ln lc) | 11 => .of (fun w v_ => OwnG IE w N 77 v_ (putP o x.1 x.2)) (fun _ _ _ hg h => h.kept hg) | _ => .free)) 30 rfl (by decide +kernel) 12 (by decide) (by decide +kernel) (KS_mono _) ?_ ?_
      · refine AllFrom.cons ⟨rfl, fun a' w' hg hk hd => ?_⟩ (AllFrom.cons ⟨rfl, fun a' w' hg hk hd => ?_⟩ (AllFrom.cons ⟨rfl, fun a' w' hg hk hd => ?_⟩ (AllFrom.cons ⟨rfl, fun a' w' hg hk hd => ?_⟩ (AllFrom.cons ⟨rfl, fun a' w' hg hk hd => ?_⟩ (AllFrom.cons ⟨rfl, fun a' w' hg hk hd => ?_⟩ (AllFrom.cons ⟨rfl, fun a' w' hg hk hd => ?_⟩ (AllFrom.cons ⟨rfl, fun a' w' hg hk hd => ?_⟩ (AllFrom.cons ⟨rfl, fun a' w' hg hk hd => ?_⟩ (AllFrom.cons ⟨rfl, fun a' w' hg hk hd => ?_⟩ (AllFrom.cons ⟨rfl, fun a' w' hg hk hd => ?_⟩ (AllFrom.cons ⟨rfl, fun a' w' hg hk hd => ?_⟩ AllFrom.nil)))))))))))
        · skip
          intro Q
          have e4 : a'.eval (.tmp 4) = PT p := hk.at 4 (by decide +kernel)
          exact wp_value _ (by simp only [execOp, e4]; rfl) (KS_mkv rfl rfl)
        · skip
          intro Q
          have e7 : a'.eval (.tmp 7) = .pointer (some ⟨E, 0, none⟩) := hk.at 7 (by decide +kernel)
          clear hd hk
          exact wp_value (.pointer (some ⟨E, 0, none⟩)) (by simp only [execOp, e7]; go_simp) (KS_mkv rfl rfl)
        · skip
          intro Q
          have e16 : a'.eval (.tmp 16) = .pointer (some ⟨E, 0, none⟩) := KS_val (hd.val 1 16 (by decide +kernel)) rfl
          exact wp_load_row 24 _ rfl _ _ e16 (By (x.1).1) _ (IEkey (X3.out.kept hg)) Tryd.underlying24 rfl (Tryd.sizeH _) (KS_mkv rfl rfl)
        · skip
          intro Q
          have e7 : a'.eval (.tmp 7) = .pointer (some ⟨E, 0, none⟩) := hk.at 7 (by decide +kernel)
          clear hd hk
          exact wp_value (.pointer (some ⟨E, 32, none⟩)) (by simp only [execOp, e7]; go_simp) (KS_mkv rfl rfl)
        · skip
          intro Q
          have e18 : a'.eval (.tmp 18) = .pointer (some ⟨E, 32, none⟩) := KS_val (hd.val 3 18 (by decide +kernel)) rfl
          exact wp_load_row 24 _ rfl _ _ e18 (By (x.2).1) _ (IEval (X3.out.kept hg)) Tryd.underlying24 rfl (Tryd.sizeH _) (KS_mkv rfl rfl)
        · skip
          intro Q
          have e15 : a'.eval (.tmp 15) = PT p := KS_val (hd.val 0 15 (by decide +kernel)) rfl
          have e17 : a'.eval (.tmp 17) = HV x.1 := KS_val (hd.val 2 17 (by decide +kernel)) rfl
          have e19 : a'.eval (.tmp 19) = HV x.2 := KS_val (hd.val 4 19 (by decide +kernel)) rfl
          refine wp_call 24 _ (run_enter 24 _ _ rfl (by kernel_rfl)) ?_
          simp only [List.map_toArray, List.map_nil, List.map_cons, e15, e17, e19]
          refine (tPut_any x.1 x.2 (T3.out.kept hg) (Nat.le_trans hB0 (Nat.le_trans G3.out hg.size)) HOL.out).mono ?_
          rintro e w5 ⟨p5, rfl, t5, hb5⟩
          exact ⟨_, rfl, KS_mko rfl ⟨p5, rfl, t5⟩, hb5⟩
        · skip
          intro Q
          have e5 : a'.eval (.tmp 5) = .slice pa ln lc := hk.at 5 (by decide +kernel)
          exact wp_value _ (by simp only [execOp, e5]; rfl) (KS_mkv rfl rfl)
        · skip
          intro Q
          have e7 : a'.eval (.tmp 7) = .pointer (some ⟨E, 0, none⟩) := hk.at 7 (by decide +kernel)
          clear hd hk
          exact wp_value (.pointer (some ⟨E, 0, none⟩)) (by simp only [execOp, e7]; go_simp) (KS_mkv rfl rfl)
        · skip
          intro Q
          have e22 : a'.eval (.tmp 22) = .pointer (some ⟨E, 0, none⟩) := KS_val (hd.val 7 22 (by decide +kernel)) rfl
          exact wp_load_row 24 _ rfl _ _ e22 (By (x.1).1) _ (IEkey (X3.out.kept hg)) Tryd.underlying24 rfl (Tryd.sizeH _) (KS_mkv rfl rfl)
        · skip
          intro Q
          have e7 : a'.eval (.tmp 7) = .pointer (some ⟨E, 0, none⟩) := hk.at 7 (by decide +kernel)
          clear hd hk
          exact wp_value (.pointer (some ⟨E, 32, none⟩)) (by simp only [execOp, e7]; go_simp) (KS_mkv rfl rfl)
        · skip
          intro Q
          have e24 : a'.eval (.tmp 24) = .pointer (some ⟨E, 32, none⟩) := KS_val (hd.val 9 24 (by decide +kernel)) rfl
          exact wp_load_row 24 _ rfl _ _ e24 (By (x.2).1) _ (IEval (X3.out.kept hg)) Tryd.underlying24 rfl (Tryd.sizeH _) (KS_mkv rfl rfl)
        · skip
          intro Q
          have e21 : a'.eval (.tmp 21) = .slice pa ln lc := KS_val (hd.val 6 21 (by decide +kernel)) rfl
          have e23 : a'.eval (.tmp 23) = HV x.1 := KS_val (hd.val 8 23 (by decide +kernel)) rfl
          have e25 : a'.eval (.tmp 25) = HV x.2 := KS_val (hd.val 10 25 (by decide +kernel)) rfl
          refine wp_call 27 _ (run_enter 27 _ _ rfl (by kernel_rfl)) ?_
          simp only [List.map_toArray, List.map_nil, List.map_cons, e21, e23, e25]
          refine (yPut_any x.1 x.2 (O3.out.rd.kept hg) HOL.out).mono ?_
          rintro e w5 ⟨v5, rfl, o5, hb5⟩
          exact ⟨_, rfl, KS_mko rfl (o5.mono (Nat.le_trans G3.out hg.size)), hb5⟩
      · intro a' w4 hsz hdf hk hall hg
        obtain ⟨p2, q20, T4⟩ := KS_of (hall 5 _ 20 (by decide) rfl rfl) rfl
        have O4 := KS_of (hall 11 _ 26 (by decide) rfl rfl) rfl
        obtain ⟨pa2, lc2, q26⟩ := OwnG.form O4
        rw [q26] at O4
        obtain ⟨ln2, hln2⟩ : ∃ z, (putP o x.1 x.2).length = z := ⟨_, rfl⟩
        rw [hln2] at O4 q26
        clear hln2
        have T4h := hide T4
        have O4h := hide O4
        clear T4 O4
        have e15 : a'.eval (.tmp 15) = PT p := KS_val (hall 0 _ 15 (by decide) rfl rfl) rfl
        have e16 : a'.eval (.tmp 16) = .pointer (some ⟨E, 0, none⟩) := KS_val (hall 1 _ 16 (by decide) rfl rfl) rfl
        have e17 : a'.eval (.tmp 17) = HV x.1 := KS_val (hall 2 _ 17 (by decide) rfl rfl) rfl
        have e18 : a'.eval (.tmp 18) = .pointer (some ⟨E, 32, none⟩) := KS_val (hall 3 _ 18 (by decide) rfl rfl) rfl
        have e19 : a'.eval (.tmp 19) = HV x.2 := KS_val (hall 4 _ 19 (by decide) rfl rfl) rfl
        have e20 : a'.eval (.tmp 20) = PT p2 := q20
        have e21 : a'.eval (.tmp 21) = .slice pa ln lc := KS_val (hall 6 _ 21 (by decide) rfl rfl) rfl
        have e22 : a'.eval (.tmp 22) = .pointer (some ⟨E, 0, none⟩) := KS_val (hall 7 _ 22 (by decide) rfl rfl) rfl
        have e23 : a'.eval (.tmp 23) = HV x.1 := KS_val (hall 8 _ 23 (by decide) rfl rfl) rfl
        have e24 : a'.eval (.tmp 24) = .pointer (some ⟨E, 32, none⟩) := KS_val (hall 9 _ 24 (by decide) rfl rfl) rfl
        have e25 : a'.eval (.tmp 25) = HV x.2 := KS_val (hall 10 _ 25 (by decide) rfl rfl) rfl
        have e26 : a'.eval (.tmp 26) = .slice pa2 ln2 lc2 := q26
        obtain ⟨z4, e4⟩ : ∃ v, a'.eval (.tmp 4) = v := ⟨_, rfl⟩
        obtain ⟨z5, e5⟩ : ∃ v, a'.eval (.tmp 5) = v := ⟨_, rfl⟩
        refine ⟨rfl, ?_⟩
        refine Oper.wp_mono ?_ (wp_same (C := fun x => x = w4) (PT p2) (by simp only [execOp, e20]; rfl) rfl)
        rintro a2 w2 ⟨rfl, hw2⟩
        rw [hw2]
        clear hw2
        clear w2
        refine ⟨_, rfl, ?_⟩
        refine ⟨rfl, ?_⟩
        refine Oper.wp_mono ?_ (wp_same (C := fun x => x = w4) (.slice pa2 ln2 lc2) (by simp only [execOp]; rw [show ((a').put (some 4) (PT p2)).eval (Operand.tmp 26) = .slice pa2 ln2 lc2 from by rw [eval_put_other (by decide)]; exact e26]; rfl) rfl)
        rintro a2 w2 ⟨rfl, hw2⟩
        rw [hw2]
        clear hw2
        clear w2
        refine ⟨_, rfl, ?_⟩
        have ha := act_puts 30 rfl hsz hdf hk.all [15, 16, 17, 18, 19, 20, 21, 22, 23, 24, 25, 26, 4, 5] (by decide +kernel)
        simp only [puts, List.foldl_cons, List.foldl_nil, e15, e16, e17, e18, e19, e20, e21, e22, e23, e24, e25, e26, e4, e5] at ha
        simp only [Act.put, List.setIfInBounds_toArray, List.set_cons_succ, List.set_cons_zero] at ha
        have hput : ((a').put (some 4) (PT p2)).put (some 5) (.slice pa2 ln2 lc2) = { tmps := ((a'.tmps).setIfInBounds 4 (PT p2)).setIfInBounds 5 (.slice pa2 ln2 lc2), defers := a'.defers } := rfl
        simp only [hput, wpSeq]
        subst ha
        clear hput hall hk hsz hdf e15 e16 e17 e18 e19 e20 e21 e22 e23 e24 e25 e26 e4 e5
        have L4 : Hid (Below N w w4) := (show _ from L3.out.trans (hg.mono G3.out))
        clear hg
        go_wp2_with fail
        go_roundg (n + 1 - (i + 1))
        case measure => omega
        case rel => exact ⟨i + 1, p2, pa2, ln2, lc2, _, by omega, by omega, by go_num, rfl, rfl, HF2, T4h, O4h, L4⟩
    · obtain rfl : i = n := by omega
      have q2 : ¬ (i : Int) < (i : Int) := by omega
      have FE : Hid (putsP L = o) := (show _ = _ by have := FR.out; rwa [List.take_of_length_le (by rw [HNL.out]; exact Nat.le_refl _)] at this)
      have hlo : o.length = ln := by
        obtain ⟨_, _, e⟩ := OR.out.form
        simp only [Value.slice.injEq] at e
        exact e.2.1.symm
      go_wp2_with fail
      refine bodyPost_ret (results_tmp2 rfl _ _ _) rfl ?_
      rw [FE.out, hlo]
      exact ⟨p, pa, lc, rfl, TR.out, OR.out, LR.out⟩
theorem imade_m {B0 : Nat} {w : World} {v : Value} {L m : List It} {ln : Nat} (hm : putsP L = m) (hl : m.length = ln) (hr : RdG IE w v L) (hn : L.length ≤ 1000) (hB0 : B0 ≤ w.heap.size) :
    Calls Tryd.prog 10 #[v] w fun e w' => ∃ p pa lc, e = .returned (.tuple #[PT p, .slice pa ln lc]) ∧ TrieAt B0 w' p m ∧ OwnG IE w' B0 77 (.slice pa ln lc) m ∧ Below w.heap.size w w' := by
  subst hm
  subst hl
  refine (imade_any hr hn hB0).mono ?_
  rintro e w' ⟨p, pa, lc, rfl, t, o, hb⟩
  exact ⟨p, pa, lc, rfl, t, o.mono hB0, hb⟩
#print axioms imade_m
end Go.Proofs.YtooffljimdklfaaDoor

/-
  member.Prove: what the call does.
-/
namespace Go.Proofs.YtooffljimdklfaaDoor
open Go.RowKit
/-- A trie that has the map L, as far as Len and All tell. -/
def MapOk (B0 : Nat) (w : World) (pv : Value) (L : List It) : Prop := AllOk B0 w pv L ∧ ∀ W, Below w.heap.size w W → Calls Tryd.prog 48 #[pv] W fun e w' => e = .returned (.int .i64 (L.length : Int)) ∧ w' = W
theorem MapOk.kept {B0 : Nat} {w w' : World} {pv : Value} {L : List It} (h : MapOk B0 w pv L) (hb : Below w.heap.size w w') : MapOk B0 w' pv L := by
  obtain ⟨⟨q, h1, h2⟩, h3⟩ := h
  exact ⟨⟨q, h1.kept hb, fun W hW => h2 W (hb.trans (hW.mono hb.size))⟩, fun W hW => h3 W (hb.trans (hW.mono hb.size))⟩
theorem TrieAt.map {B0 : Nat} {w : World} {p : Nat} {L : List It} (h : TrieAt B0 w p L) : MapOk B0 w (PT p) L := ⟨h.all, fun _ hW => tLen_any (h.kept hW)⟩
set_option maxHeartbeats 4000000 in
set_option maxRecDepth 100000 in
theorem bProve_any {B0 : Nat} {w : World} {pv : Value} {L : List It} {pr : Pr} {ln : Nat} (k : Hs) (hpr : prP L k = pr) (hln : pr.1.length = ln) (hA : MapOk B0 w pv L) (hL : L.length ≤ 1000000) (hs : Srt L) (hT : Tabs w) : Calls Tryd.prog 13 #[pv, HV k] w fun e w' => ∃ a c, e = .returned (.agg (PrC (.slice a ln c) pr).toArray) ∧ OwnG SE w' w.heap.size 70 (.slice a ln c) pr.1 ∧ Below w.heap.size w w' := by
  have HPR := hide hpr
  have HLN := hide hln
  have HA := hide hA
  have HL := hide hL
  have HS := hide hs
  have HT := hide hT
  obtain ⟨N, HN⟩ : ∃ N, Hid (w.heap.size = N) := ⟨_, rfl⟩
  have h2 : 2 ≤ N := by rw [← HN.out]; exact hT.size
  clear hpr hln hA hL hs hT
  rw [HN.out]
  unfold HV
  go_enter Tryd.func13, Tryd.ntmps13
  go_upto_region 1 with fail
  obtain ⟨w1, hw1⟩ : ∃ z, z = (w.alloc (.cells (By k.1).toArray 24 (0, 0))).alloc (.cells (PrC (.slice none 0 0) zp).toArray 39 (0, 0)) := ⟨_, rfl⟩
  change Code.wp _ _ _ _ ((w.alloc (.cells (By k.1).toArray 24 (0, 0))).alloc (.cells (PrC (.slice none 0 0) zp).toArray 39 (0, 0)))
  rw [← hw1, HN.out]
  obtain ⟨b0, b1, lnn, sz1⟩ := box2 HN hw1
  clear hw1
  have K1 := hide b0
  have Z1 := hide b1
  have L1 := hide lnn
  have L1w : Hid (Below w.heap.size w w1) := (show Below _ _ _ by rw [HN.out]; exact L1.out)
  have G1 : Hid (N ≤ w1.heap.size) := (show _ ≤ _ from Nat.le_of_lt K1.out.lt)
  have T1 := hide (HT.out.kept (L1.out.mono h2))
  clear b0 b1 sz1 lnn
  refine wp_region_tail Tryd.mixed (KS (fun i_ => match i_ with | 0 => .val (pv) | 1 => .of (fun w v_ => Top w v_ L) (fun _ _ _ hg h => h.kept hg) | 2 => .val (HV k) | 3 => .of (fun w v_ => ∃ a_ c_, v_ = .agg (PrC (.slice a_ ln c_) pr).toArray ∧ OwnG SE w N 70 (.slice a_ ln c_) pr.1) (fun _ _ _ hg ⟨a_, c_, e, h⟩ => ⟨a_, c_, e, h.kept hg⟩) | _ => .free)) 9 rfl (by decide +kernel) 4 _ rfl (by decide +kernel) (KS_mono _) ?_ ?_
  · refine AllFrom.cons (fun a' w' hg hk hd => ?_) (AllFrom.cons (fun a' w' hg hk hd => ?_) (AllFrom.cons (fun a' w' hg hk hd => ?_) (AllFrom.cons (fun a' w' hg hk hd => ?_) AllFrom.nil)))
    · skip
      intro Q
      have e0 : a'.eval (.tmp 0) = pv := hk.at 0 (by decide +kernel)
      exact wp_value _ (by simp only [execOp, e0]; rfl) (KS_mkv rfl rfl)
    · skip
      intro Q
      have e5 : a'.eval (.tmp 5) = pv := KS_val (hd.val 0 5 (by decide +kernel)) rfl
      refine wp_call 28 _ (run_enter 28 _ _ rfl (by kernel_rfl)) ?_
      simp only [List.map_toArray, List.map_nil, List.map_cons, e5]
      have hA := HA.out.kept (L1w.out.trans (hg.mono L1w.out.size))
      refine (partsOf_any hA.1 (hA.2 _ (Below.refl _ _)) HL.out HS.out (T1.out.gr hg)).mono ?_
      rintro e w5 ⟨v5, rfl, t5, hb5⟩
      exact ⟨_, rfl, KS_mko rfl t5, hb5⟩
    · skip
      intro Q
      have e3 : a'.eval (.tmp 3) = .pointer (some ⟨N, 0, none⟩) := hk.at 3 (by decide +kernel)
      exact wp_load_row 24 _ rfl _ _ e3 (By (k).1) _ ((K1.out.kept hg).range0) Tryd.underlying24 rfl (Tryd.sizeH _) (KS_mkv rfl rfl)
    · skip
      intro Q
      have r6 := KS_of (hd.val 1 6 (by decide +kernel)) rfl
      have e7 : a'.eval (.tmp 7) = HV k := KS_val (hd.val 2 7 (by decide +kernel)) rfl
      refine wp_call 29 _ (run_enter 29 _ _ rfl (by kernel_rfl)) ?_
      simp only [List.map_toArray, List.map_nil, List.map_cons, e7]
      refine (prove_any k r6 HS.out HL.out).mono ?_
      rintro e w5 ⟨a5, c5, rfl, o5, hb5⟩
      rw [HPR.out, HLN.out] at o5 ⊢
      exact ⟨_, rfl, KS_mko rfl ⟨a5, c5, rfl, o5.mono (Nat.le_trans G1.out hg.size)⟩, hb5⟩
  · intro a' w6 hsz hdf hk hall hg
    obtain ⟨a9, c9, e8, o9⟩ := KS_of (hall 3 _ 8 (by decide) rfl rfl) rfl
    have e4 : a'.eval (.tmp 4) = .pointer (some ⟨N + 1, 0, none⟩) := hk.at 4 (by decide +kernel)
    have Z6 := Z1.out.kept hg
    have L6 : Below N w w6 := L1.out.trans (hg.mono G1.out)
    refine wp_store_blk 39 (.tmp 4) (.tmp 8) rfl (N + 1) (PrC (.slice none 0 0) zp) (PrC (.slice a9 ln c9) pr) 39 e4 e8 Z6 (by rw [PrC_len, PrC_len]) (Tryd.sizePr _ _) (PrC_one _) ?_
    intro w7 hb7 hu7
    go_wp2
    refine bodyPost_ret (results_cell_row rfl _ _ (N + 1) 39 _ (0, 0) _ e4 hb7 Tryd.underlying39 rfl (by simpa using Tryd.sizePr _ _)) hdf ⟨a9, c9, rfl, ?_, L6.trans (hu7.below (by omega) (by have := Z6.lt; omega))⟩
    exact o9.chg (F := fun j => j = N + 1) (Chg.of_but hu7 rfl) (fun j hj e => by subst e; obtain ⟨_, _, cur, hcur⟩ := o9.block hj; have h9 := (Z6.inj (show Blk _ _ _ cur.toList from by simpa [Blk] using hcur)).1; exact absurd h9 (by decide))
#print axioms bProve_any
end Go.Proofs.YtooffljimdklfaaDoor

/-
  The law's lives: what the call does.
-/
namespace Go.Proofs.YtooffljimdklfaaDoor
open Go.RowKit
theorem climb_zp (k : Hs) : climbP k zp = (ntH, true) := rfl
set_option maxHeartbeats 4000000 in
set_option maxRecDepth 100000 in
theorem ilives_any (w : World) (hT : Tabs w) : Calls Tryd.prog 9 #[] w fun e w' => e = .returned (.bool true) ∧ Below w.heap.size w w' := by
  obtain ⟨N, HN⟩ : ∃ N, Hid (w.heap.size = N) := ⟨_, rfl⟩
  have h2 : 2 ≤ N := by rw [← HN.out]; exact hT.size
  have HT := hide hT
  clear hT
  rw [HN.out]
  obtain ⟨z0, HZ0⟩ : ∃ z, Hid (zh = z) := ⟨_, rfl⟩
  have HPZ : Hid (prP [] z0 = zp) := (show _ = _ from rfl)
  go_enter Tryd.func9, Tryd.ntmps9
  go_upto_region 2 with fail
  obtain ⟨w1, hw1⟩ : ∃ z, z = w.alloc (.cells (By zh.1).toArray 24 (0, 0)) := ⟨_, rfl⟩
  change Code.wp _ _ _ _ (w.alloc (.cells (By zh.1).toArray 24 (0, 0)))
  rw [← hw1, HN.out]
  obtain ⟨b0, lb, sz1⟩ := box1 HN hw1
  rw [HZ0.out] at b0
  have K1 := hide b0
  have L1 := hide lb
  have G1 : Hid (N + 1 ≤ w1.heap.size) := (show _ ≤ _ from K1.out.lt)
  have T1 := hide (HT.out.kept (L1.out.mono h2))
  clear hw1 b0 lb sz1
  refine wp_region_tails Tryd.mixed (KS (fun i_ => match i_ with | 0 => .of (fun w v_ => ∃ p_, v_ = PT p_ ∧ TrieAt N w p_ []) (fun _ _ _ hg ⟨p_, e, h2⟩ => ⟨p_, e, h2.kept hg⟩) | 1 => .val (HV z0) | 2 => .of (fun w v_ => ∃ a_ c_, v_ = .agg (PrC (.slice a_ 0 c_) zp).toArray ∧ OwnG SE w N 70 (.slice a_ 0 c_) []) (fun _ _ _ hg ⟨a_, c_, e, h⟩ => ⟨a_, c_, e, h.kept hg⟩) | 3 => .of (fun w v_ => ∃ b_, v_ = PT b_ ∧ N + 1 ≤ b_ ∧ Blk w b_ 39 (PrC (.slice none 0 0) zp)) (fun _ _ _ hg ⟨b_, e, h1, h2⟩ => ⟨b_, e, h1, h2.kept hg⟩) | _ => .free)) 31 rfl (by decide +kernel) 4 (by decide) (by decide +kernel) (KS_mono _) ?_ ?_
  · refine AllFrom.cons ⟨rfl, fun a' w' hg hk hd => ?_⟩ (AllFrom.cons ⟨rfl, fun a' w' hg hk hd => ?_⟩ (AllFrom.cons ⟨rfl, fun a' w' hg hk hd => ?_⟩ (AllFrom.cons ⟨rfl, fun a' w' hg hk hd => ?_⟩ AllFrom.nil)))
    · skip
      intro Q
      refine wp_call 25 _ (run_enter 25 _ _ rfl (by kernel_rfl)) ?_
      simp only [List.map_toArray, List.map_nil]
      refine (kNew_any N _).mono ?_
      rintro e w5 ⟨p5, rfl, -, t5, hb5⟩
      exact ⟨_, rfl, KS_mko rfl ⟨p5, rfl, t5⟩, hb5⟩
    · skip
      intro Q
      have e1 : a'.eval (.tmp 1) = .pointer (some ⟨N, 0, none⟩) := hk.at 1 (by decide +kernel)
      exact wp_load_row 24 _ rfl _ _ e1 (By (z0).1) _ ((K1.out.kept hg).range0) Tryd.underlying24 rfl (Tryd.sizeH _) (KS_mkv rfl rfl)
    · skip
      intro Q
      have r5 := KS_of (hd.val 0 5 (by decide +kernel)) rfl
      have e6 : a'.eval (.tmp 6) = HV z0 := KS_val (hd.val 1 6 (by decide +kernel)) rfl
      refine wp_call 13 _ (run_enter 13 _ _ rfl (by kernel_rfl)) ?_
      simp only [List.map_toArray, List.map_nil, List.map_cons, e6]
      obtain ⟨p9, e9, t9⟩ := r5
      rw [e9]
      refine (bProve_any z0 HPZ.out rfl t9.map (by simp) Srt_nil (T1.out.gr hg)).mono ?_
      rintro e w5 ⟨a5, c5, rfl, o5, hb5⟩
      exact ⟨_, rfl, KS_mko rfl ⟨a5, c5, rfl, o5.mono (Nat.le_trans (by omega) (Nat.le_trans G1.out hg.size))⟩, hb5⟩
    · skip
      intro Q
      exact wp_grow _ _ (by simp only [execOp]; go_simp; rfl) ((Below.refl _ _).alloc (Nat.le_refl _) _) (KS_mko rfl ⟨_, rfl, Nat.le_trans G1.out hg.size, Blk.new w' 39 (PrC (.slice none 0 0) zp)⟩)
  · intro a' w2 hsz hdf hk hall hg
    obtain ⟨p5, e5, -⟩ := KS_of (hall 0 _ 5 (by decide) rfl rfl) rfl
    have e6 : a'.eval (.tmp 6) = HV z0 := KS_val (hall 1 _ 6 (by decide) rfl rfl) rfl
    obtain ⟨a7, c7, e7, o7⟩ := KS_of (hall 2 _ 7 (by decide) rfl rfl) rfl
    obtain ⟨D, e2, hND, BD⟩ := KS_of (hall 3 _ 2 (by decide) rfl rfl) rfl
    refine ⟨rfl, ?_⟩
    refine wp_store_blk 39 (.tmp 2) (.tmp 7) rfl D (PrC (.slice none 0 0) zp) (PrC (.slice a7 0 c7) zp) 39 e2 e7 BD (by rw [PrC_len, PrC_len]) (Tryd.sizePr _ _) (PrC_one _) ?_
    intro w3 hb3 hu3
    refine ⟨_, rfl, ?_⟩
    have K3 := hide ((K1.out.kept hg).but hu3 (by omega))
    have P3 := hide hb3
    have L3 : Hid (Below N w w3) := (show _ from (L1.out.trans (hg.mono (Nat.le_trans (by omega) G1.out))).trans (hu3.below (by omega) (by have := BD.lt; omega)))
    have T3 := hide (HT.out.kept (L3.out.mono h2))
    have R3 := hide (o7.chg (F := fun j => j = D) (Chg.of_but hu3 rfl) (fun j hj e => by subst e; obtain ⟨_, _, cur, hcur⟩ := o7.block hj; have h9 := (BD.inj (show Blk _ _ _ cur.toList from by simpa [Blk] using hcur)).1; exact absurd h9 (by decide))).rd
    have ha := act_puts 31 rfl hsz hdf hk [5, 6, 7, 2] (by decide +kernel)
    simp only [puts, List.foldl_cons, List.foldl_nil, e5, e6, e7, e2] at ha
    simp only [Act.put, List.setIfInBounds_toArray, List.set_cons_succ, List.set_cons_zero] at ha
    show Exit.then _ _ Exit.normal { tmps := a'.tmps, defers := a'.defers } w3
    subst ha
    clear hall hk hsz hdf hg hb3 hu3 BD o7 e5 e6 e7 e2 K1 L1 G1 T1
    have CC := hide (bClimb_any z0 (p := zp) R3.out (by simp [zp]) T3.out)
    rw [climb_zp] at CC
    obtain ⟨nt, HNT⟩ : ∃ z, Hid (ntH = z) := ⟨_, rfl⟩
    rw [HNT.out] at CC
    have rk := K3.out.range0
    have rp := P3.out.range0
    go_upto_region 4 with (first
      | (refine wpList_load_mid rfl 24 _ rfl N 0 rfl (By z0.1) _ rk Tryd.underlying24 rfl (Tryd.sizeH _) ?_)
      | (refine wpList_load_mid rfl 39 _ rfl D 0 rfl (PrC (.slice a7 0 c7) zp) _ rp Tryd.underlying39 rfl (Tryd.sizePr _ _) ?_)
      | (go_at_call 16; refine CC.out.mono ?_; rintro e w4 ⟨rfl, hb4⟩; have P4 := hide (P3.out.kept hb4); have L4 : Hid (Below N w w4) := (show _ from L3.out.trans (hb4.mono (by have := P3.out.lt; omega))); obtain ⟨E, HE⟩ : ∃ E, Hid (w4.heap.size = E) := ⟨_, rfl⟩; clear hb4)
      | (rw [HE.out]; refine wpList_store_blk rfl 24 _ _ rfl E (By zh.1) (By nt.1) 24 rfl rfl (by rw [← HE.out]; exact Blk.new w4 24 (By zh.1)) (by rw [By_len, By_len]) (Tryd.sizeH _) (By_one _) ?_; intro w5 hb5 hu5)
      | fail)
    have D5 : Below w4.heap.size w4 w5 := (((Below.refl _ _).alloc (Nat.le_refl _) _).trans (hu5.below (Nat.le_of_eq HE.out) (by simp)))
    have P5 := hide (P4.out.kept D5)
    have X5 := hide hb5
    have hNE : N + 1 ≤ E := by rw [← HE.out]; have := P4.out.lt; omega
    have L5 : Hid (Below N w w5) := (show _ from L4.out.trans (D5.mono (by rw [HE.out]; omega)))
    clear hb5 hu5 D5 P4 L4 P3 K3 L3 T3 R3 CC rk rp
    refine wp_region_inv Tryd.mixed (KS (fun i_ => match i_ with | 0 => .val (.pointer (some ⟨D, 0, none⟩)) | 1 => .val (.slice a7 0 c7) | 2 => .val (.int .i64 0) | 3 | 4 | 7 | 8 | 9 | 10 | 11 | 12 | 15 | 16 | 17 => .val (.bool true) | 5 => .val (.pointer (some ⟨D, 1, none⟩)) | 6 => .val (.bool false) | 13 | 14 => .val (HV nt) | _ => .free)) 31 rfl (by decide +kernel) (KS_mono _) ?_ ?_
    · refine AllFrom.cons (fun a' w' hg hk hd => ?_) (AllFrom.cons (fun a' w' hg hk hd => ?_) (AllFrom.cons (fun a' w' hg hk hd => ?_) (AllFrom.cons (fun a' w' hg hk hd => ?_) (AllFrom.cons (fun a' w' hg hk hd => ?_) (AllFrom.cons (fun a' w' hg hk hd => ?_) (AllFrom.cons (fun a' w' hg hk hd => ?_) (AllFrom.cons (fun a' w' hg hk hd => ?_) (AllFrom.cons (fun a' w' hg hk hd => ?_) (AllFrom.cons (fun a' w' hg hk hd => ?_) (AllFrom.cons (fun a' w' hg hk hd => ?_) (AllFrom.cons (fun a' w' hg hk hd => ?_) (AllFrom.cons (fun a' w' hg hk hd => ?_) (AllFrom.cons (fun a' w' hg hk hd => ?_) (AllFrom.cons (fun a' w' hg hk hd => ?_) (AllFrom.cons (fun a' w' hg hk hd => ?_) (AllFrom.cons (fun a' w' hg hk hd => ?_) (AllFrom.cons (fun a' w' hg hk hd => ?_) AllFrom.nil)))))))))))))))))
      · skip
        intro Q
        have e2 : a'.eval (.tmp 2) = .pointer (some ⟨D, 0, none⟩) := hk.at 2 (by decide +kernel)
        clear hd hk
        exact wp_value (.pointer (some ⟨D, 0, none⟩)) (by simp only [execOp, e2]; go_simp) (KS_mkv rfl rfl)
      · skip
        intro Q
        have e14 : a'.eval (.tmp 14) = .pointer (some ⟨D, 0, none⟩) := KS_val (hd.val 0 14 (by decide +kernel)) rfl
        have hc := PrC.steps (P5.out.kept hg)
        clear hd hk
        exact wp_value (.slice a7 0 c7) (by simp only [execOp, e14]; go_simp) (KS_mkv rfl rfl)
      · skip
        intro Q
        have e15 : a'.eval (.tmp 15) = .slice a7 0 c7 := KS_val (hd.val 1 15 (by decide +kernel)) rfl
        clear hd hk
        exact wp_value (.int .i64 0) (by simp only [execOp, resolve, invoke, builtin, Sem.run_bind, Sem.run_pure, Result.andThen_ok, List.map_toArray, List.map_cons, List.map_nil, e15]; go_simp) (KS_mkv rfl rfl)
      · skip
        intro Q
        have e16 : a'.eval (.tmp 16) = .int .i64 0 := KS_val (hd.val 2 16 (by decide +kernel)) rfl
        clear hd hk
        exact wp_value (.bool true) (by simp only [execOp, e16]; go_simp) (KS_mkv rfl rfl)
      · skip
        intro Q
        have e17 : a'.eval (.tmp 17) = .bool true := KS_val (hd.val 3 17 (by decide +kernel)) rfl
        exact wp_value _ (by simp only [execOp, e17]; rfl) (KS_mkv rfl rfl)
      · skip
        have eg : a'.eval (.tmp 18) = .bool true := KS_val (hd.val 4 18 (by decide +kernel)) rfl
        refine ⟨18, true, rfl, eg, fun _ Q => ?_, fun h => absurd rfl h⟩
        have e2 : a'.eval (.tmp 2) = .pointer (some ⟨D, 0, none⟩) := hk.at 2 (by decide +kernel)
        clear hd hk
        exact wp_value (.pointer (some ⟨D, 1, none⟩)) (by simp only [execOp, e2]; go_simp) (KS_mkv rfl rfl)
      · skip
        have eg : a'.eval (.tmp 18) = .bool true := KS_val (hd.val 4 18 (by decide +kernel)) rfl
        refine ⟨18, true, rfl, eg, fun _ Q => ?_, fun h => absurd rfl h⟩
        have e19 : a'.eval (.tmp 19) = .pointer (some ⟨D, 1, none⟩) := KS_val (hd.val 5 19 (by decide +kernel)) rfl
        have hc := (show w'.cell? ⟨D, 1, none⟩ = some (.bool false) from PrC.leaf (P5.out.kept hg))
        clear hd hk
        exact wp_value (.bool false) (by simp only [execOp, e19]; go_simp) (KS_mkv rfl rfl)
      · skip
        have eg : a'.eval (.tmp 18) = .bool true := KS_val (hd.val 4 18 (by decide +kernel)) rfl
        refine ⟨18, true, rfl, eg, fun _ Q => ?_, fun h => absurd rfl h⟩
        have e20 : a'.eval (.tmp 20) = .bool false := KS_val (hd.val 6 20 (by decide +kernel)) rfl
        clear hd hk
        exact wp_value (.bool true) (by simp only [execOp, e20]; go_simp) (KS_mkv rfl rfl)
      · skip
        intro Q
        have e18 : a'.eval (.tmp 18) = .bool true := KS_val (hd.val 4 18 (by decide +kernel)) rfl
        have e21 : a'.eval (.tmp 21) = .bool true := KS_val (hd.val 7 21 (by decide +kernel)) rfl
        clear hd hk
        exact wp_value (.bool true) (by simp only [execOp, e18, e21]; go_simp) (KS_mkv rfl rfl)
      · skip
        intro Q
        have e22 : a'.eval (.tmp 22) = .bool true := KS_val (hd.val 8 22 (by decide +kernel)) rfl
        exact wp_value _ (by simp only [execOp, e22]; rfl) (KS_mkv rfl rfl)
      · skip
        have eg : a'.eval (.tmp 23) = .bool true := KS_val (hd.val 9 23 (by decide +kernel)) rfl
        refine ⟨23, true, rfl, eg, fun _ Q => ?_, fun h => absurd rfl h⟩
        have e4 : a'.eval (.tmp 4) = .bool true := hk.at 4 (by decide +kernel)
        exact wp_value _ (by simp only [execOp, e4]; rfl) (KS_mkv rfl rfl)
      · skip
        intro Q
        have e23 : a'.eval (.tmp 23) = .bool true := KS_val (hd.val 9 23 (by decide +kernel)) rfl
        have e24 : a'.eval (.tmp 24) = .bool true := KS_val (hd.val 10 24 (by decide +kernel)) rfl
        clear hd hk
        exact wp_value (.bool true) (by simp only [execOp, e23, e24]; go_simp) (KS_mkv rfl rfl)
      · skip
        intro Q
        have e25 : a'.eval (.tmp 25) = .bool true := KS_val (hd.val 11 25 (by decide +kernel)) rfl
        exact wp_value _ (by simp only [execOp, e25]; rfl) (KS_mkv rfl rfl)
      · skip
        have eg : a'.eval (.tmp 26) = .bool true := KS_val (hd.val 12 26 (by decide +kernel)) rfl
        refine ⟨26, true, rfl, eg, fun _ Q => ?_, fun h => absurd rfl h⟩
        have e3 : a'.eval (.tmp 3) = .pointer (some ⟨E, 0, none⟩) := hk.at 3 (by decide +kernel)
        exact wp_load_row 24 _ rfl _ _ e3 (By (nt).1) _ ((X5.out.kept hg).range0) Tryd.underlying24 rfl (Tryd.sizeH _) (KS_mkv rfl rfl)
      · skip
        have eg : a'.eval (.tmp 26) = .bool true := KS_val (hd.val 12 26 (by decide +kernel)) rfl
        refine ⟨26, true, rfl, eg, fun _ Q => ?_, fun h => absurd rfl h⟩
        refine wp_call 26 _ (run_enter 26 _ _ rfl (by kernel_rfl)) ?_
        simp only [List.map_toArray, List.map_nil]
        refine (rnothing_any _).mono ?_
        rintro e w5 ⟨rfl, hb5⟩
        exact ⟨_, rfl, KS_mkv rfl (by rw [HNT.out]), hb5⟩
      · skip
        have eg : a'.eval (.tmp 26) = .bool true := KS_val (hd.val 12 26 (by decide +kernel)) rfl
        refine ⟨26, true, rfl, eg, fun _ Q => ?_, fun h => absurd rfl h⟩
        have e27 : a'.eval (.tmp 27) = HV nt := KS_val (hd.val 13 27 (by decide +kernel)) rfl
        have e28 : a'.eval (.tmp 28) = HV nt := KS_val (hd.val 14 28 (by decide +kernel)) rfl
        have hq := eqAA nt
        clear hd hk
        exact wp_value (.bool true) (by simp only [execOp, e27, e28, HV]; go_simp) (KS_mkv rfl rfl)
      · skip
        intro Q
        have e26 : a'.eval (.tmp 26) = .bool true := KS_val (hd.val 12 26 (by decide +kernel)) rfl
        have e29 : a'.eval (.tmp 29) = .bool true := KS_val (hd.val 15 29 (by decide +kernel)) rfl
        clear hd hk
        exact wp_value (.bool true) (by simp only [execOp, e26, e29]; go_simp) (KS_mkv rfl rfl)
      · skip
        intro Q
        have e30 : a'.eval (.tmp 30) = .bool true := KS_val (hd.val 16 30 (by decide +kernel)) rfl
        exact wp_value _ (by simp only [execOp, e30]; rfl) (KS_mkv rfl rfl)
    · intro a' w6 hsz hdf hk hall hg
      have e14 : a'.eval (.tmp 14) = .pointer (some ⟨D, 0, none⟩) := KS_val (hall 0 _ 14 rfl rfl) rfl
      have e15 : a'.eval (.tmp 15) = .slice a7 0 c7 := KS_val (hall 1 _ 15 rfl rfl) rfl
      have e16 : a'.eval (.tmp 16) = .int .i64 0 := KS_val (hall 2 _ 16 rfl rfl) rfl
      have e17 : a'.eval (.tmp 17) = .bool true := KS_val (hall 3 _ 17 rfl rfl) rfl
      have e18 : a'.eval (.tmp 18) = .bool true := KS_val (hall 4 _ 18 rfl rfl) rfl
      have e19 : a'.eval (.tmp 19) = .pointer (some ⟨D, 1, none⟩) := KS_val (hall 5 _ 19 rfl rfl) rfl
      have e20 : a'.eval (.tmp 20) = .bool false := KS_val (hall 6 _ 20 rfl rfl) rfl
      have e21 : a'.eval (.tmp 21) = .bool true := KS_val (hall 7 _ 21 rfl rfl) rfl
      have e22 : a'.eval (.tmp 22) = .bool true := KS_val (hall 8 _ 22 rfl rfl) rfl
      have e23 : a'.eval (.tmp 23) = .bool true := KS_val (hall 9 _ 23 rfl rfl) rfl
      have e24 : a'.eval (.tmp 24) = .bool true := KS_val (hall 10 _ 24 rfl rfl) rfl
      have e25 : a'.eval (.tmp 25) = .bool true := KS_val (hall 11 _ 25 rfl rfl) rfl
      have e26 : a'.eval (.tmp 26) = .bool true := KS_val (hall 12 _ 26 rfl rfl) rfl
      have e27 : a'.eval (.tmp 27) = HV nt := KS_val (hall 13 _ 27 rfl rfl) rfl
      have e28 : a'.eval (.tmp 28) = HV nt := KS_val (hall 14 _ 28 rfl rfl) rfl
      have e29 : a'.eval (.tmp 29) = .bool true := KS_val (hall 15 _ 29 rfl rfl) rfl
      have e30 : a'.eval (.tmp 30) = .bool true := KS_val (hall 16 _ 30 rfl rfl) rfl
      have e0 : a'.eval (.tmp 0) = .bool true := KS_val (hall 17 _ 0 rfl rfl) rfl
      have ha := act_puts 31 rfl hsz hdf hk [14, 15, 16, 17, 18, 19, 20, 21, 22, 23, 24, 25, 26, 27, 28, 29, 30, 0] (by decide +kernel)
      simp only [puts, List.foldl_cons, List.foldl_nil, e14, e15, e16, e17, e18, e19, e20, e21, e22, e23, e24, e25, e26, e27, e28, e29, e30, e0] at ha
      simp only [Act.put, List.setIfInBounds_toArray, List.set_cons_succ, List.set_cons_zero] at ha
      clear hall hk hsz hdf e14 e15 e16 e17 e18 e19 e20 e21 e22 e23 e24 e25 e26 e27 e28 e29 e30 e0
      subst ha
      have L6 : Hid (Below N w w6) := (show _ from L5.out.trans (hg.mono (by have := X5.out.lt; omega)))
      clear hg
      go_wp2_with fail
      go_ret
      exact ⟨rfl, L6.out⟩
#print axioms ilives_any
end Go.Proofs.YtooffljimdklfaaDoor

/-
  A region that draws its order, makes one variable and stores to it, and whose other operations leave the world as a relation tells: every order at once.
-/
namespace Go.Proofs.YtooffljimdklfaaDoor
open Go.RowKit
/-- What is kept. -/
structure CJR (R : World → World → Prop) (ops : Array Oper) (V : Nat → Value) (ci cd cs : Nat) (T : TypeId) (Z X : List Value) (w : World) (l : Nat → Bool) (a : Act) (w1 : World) : Prop where
  low : R w w1
  size : w.heap.size ≤ w1.heap.size
  vals : ∀ (i : Nat) (o : Oper) (d : Nat), ops[i]? = some o → l i = true → i ≠ ci → o.dst = some d → a.eval (.tmp d) = V i
  made : l cs = true → l ci = true
  cel : l ci = true → ∃ B, a.eval (.tmp cd) = .pointer (some ⟨B, 0, none⟩) ∧ w.heap.size ≤ B ∧ Blk w1 B T (if l cs = true then X else Z)
def OwesR (R : World → World → Prop) (P : Program) (ops : Array Oper) (V : Nat → Value) (ci cd cs : Nat) (T : TypeId) (Z X : List Value) (a0 : Act) (w : World) (i : Nat) (o : Oper) : Prop :=
  (i ≠ ci ∧ i ≠ cs ∧ o.guard = none ∧ ∀ (a : Act) (w' : World), R w w' → w.heap.size ≤ w'.heap.size → Kept ops a0 a → (∀ (j d : Nat), depB ops o.after j d = true → j ≠ ci → a.eval (.tmp d) = V j) → ∀ Q, o.wp P a w' (fun a' w'' => ∃ v, a' = a.put o.dst v ∧ v = V i ∧ R w' w'') Q) ∨
  (i = ci ∧ o.guard = none ∧ o.dst = some cd ∧ ∀ (a : Act) (w' : World), (execOp a.eval o).run P w' = .ok (.value (.pointer (some ⟨w'.heap.size, 0, none⟩))) (w'.alloc (.cells Z.toArray T (0, 0)))) ∨
  (i = cs ∧ o.guard = none ∧ o.dst = none ∧ (o.after.any fun e => Region.binds .any e && e.on == ci) = true ∧ ∃ y, o.op = .store T (.tmp cd) y ∧
    ∀ (a : Act) (w' : World), R w w' → Kept ops a0 a → (∀ (j d : Nat), depB ops o.after j d = true → j ≠ ci → a.eval (.tmp d) = V j) → a.eval y = .agg X.toArray)
theorem wp_region_cellR {P : Program} {id : Nat} {ops : Array Oper} {Q : Exit → Act → World → Prop} {a0 : Act} {w : World} (hm : P.follows .mixedOrders = true) (R : World → World → Prop) (hR : RelOk R) (hRs : ∀ w w', R w w' → w.heap.size ≤ w'.heap.size)
    (V : Nat → Value) (ci cd cs : Nat) (T : TypeId) (Z X : List Value) (hRb : ∀ w1 w2 b, R w w1 → w.heap.size ≤ b → But b w1 w2 → R w w2) (hRk : ∀ w1 w2 b zs, R w1 w2 → Blk w1 b T zs → Blk w2 b T zs)
    (n : Nat) (hn : a0.tmps.size = n) (hf : formB ops n = true) (hcs : ci ≠ cs) (hdd : ((ops[ci]?).bind (·.dst)) = some cd) (hci : ci < ops.size) (hcz : cs < ops.size)
    (hlen : X.length = Z.length) (hsz : (P.info? T).map (·.size) = some X.length) (h1X : ∀ u ∈ X, u.oneCell' = true)
    (hstep : AllFrom (fun i o => OwesR R P ops V ci cd cs T Z X a0 w i o) 0 ops.toList)
    (hQ : ∀ (a : Act) (w' : World) (B : Nat), a.tmps.size = a0.tmps.size → a.defers = a0.defers → Kept ops a0 a → (∀ (i : Nat) (o : Oper) (d : Nat), ops[i]? = some o → i ≠ ci → o.dst = some d → a.eval (.tmp d) = V i) → R w w' →
      a.eval (.tmp cd) = .pointer (some ⟨B, 0, none⟩) → w.heap.size ≤ B → Blk w' B T X → Q .normal a w') : (Code.region id ops true).wp P Q a0 w := by
  obtain ⟨oc, hoc, hdc⟩ : ∃ o, ops[ci]? = some o ∧ o.dst = some cd := by
    cases ho : ops[ci]? with
    | none => rw [ho] at hdd; cases hdd
    | some o => rw [ho] at hdd; exact ⟨o, rfl, hdd⟩
  refine wp_region_J hm (CJR R ops V ci cd cs T Z X w) n hn hf ?_ ?_ ?_
  · intro w' hh hg
    exact ⟨hR.grown hg, hg.size, fun i o d _ h => by simp at h, fun h => by simp at h, fun h => by simp at h⟩
  · intro i o ho l a w1 hJ ht hd hk hli hw
    have hs := AllFrom.at hstep (i := i) (o := o) (by simpa using ho)
    rw [Nat.zero_add] at hs
    have hdeps : ∀ (j d : Nat), depB ops o.after j d = true → j ≠ ci → a.eval (.tmp d) = V j := by
      intro j d hb hc
      unfold depB at hb
      rw [Bool.and_eq_true] at hb
      have hlj := waitsB_at hw j hb.1
      cases hoj : ops[j]? with
      | none => rw [hoj] at hb; simp at hb
      | some oj =>
        rw [hoj] at hb
        exact hJ.vals j oj d hoj hlj hc (by simpa using hb.2)
    rcases hs with ⟨h1, h2, hg, h⟩ | ⟨h1, hg, hdst, h⟩ | ⟨h1, hg, hdst, hdep, y, hop, hy⟩
    · refine ⟨hg, Oper.wp_mono ?_ (h a w1 hJ.low hJ.size hk hdeps Q)⟩
      rintro a' w2 ⟨v, rfl, hv, hgr⟩
      refine ⟨v, rfl, hR.trans hJ.low hgr, Nat.le_trans hJ.size (hRs _ _ hgr), fun j oj d hoj hl hc hdj => ?_, fun hl => ?_, fun hl => ?_⟩
      · by_cases hji : j = i
        · subst hji
          rw [ho] at hoj
          simp only [Option.some.injEq] at hoj
          subst hoj
          rw [hdj, eval_put_same (by rw [ht]; exact ((formB_spec (hn ▸ hf) ho).2 d hdj).1 |> fun h => by rwa [hn] at h)]
          exact hv
        · rw [eval_put_other (fun e => hji (formB_ne hf hoj ho hdj e))]
          exact hJ.vals j oj d hoj (by simpa [hji] using hl) hc hdj
      · have hl' : l cs = true := by simpa [Ne.symm h2] using hl
        simp [hJ.made hl']
      · have hl' : l ci = true := by simpa [Ne.symm h1] using hl
        obtain ⟨B, e1, e2, e3⟩ := hJ.cel hl'
        refine ⟨B, ?_, e2, ?_⟩
        · rw [eval_put_other (fun e => h1 (formB_ne hf ho hoc e hdc))]; exact e1
        · have : (l cs || cs == i) = l cs := by simp [Ne.symm h2]
          rw [this]
          exact hRk _ _ _ _ hgr e3
    · subst h1
      refine ⟨hg, ?_⟩
      unfold Oper.wp
      rw [h a w1]
      have hgr : Gr w1 (w1.alloc (.cells Z.toArray T (0, 0))) := (Below.refl _ _).alloc (Nat.le_refl _) _
      have hdlt : cd < a.tmps.size := by rw [ht]; exact ((formB_spec hf ho).2 cd hdst).1
      have hns : l cs = false := by
        cases hh : l cs with
        | false => rfl
        | true => have := hJ.made hh; rw [hli] at this; cases this
      refine ⟨_, rfl, hR.trans hJ.low (hR.grown hgr), Nat.le_trans hJ.size hgr.size, fun j oj d hoj hl hcj hdj => ?_, fun hl => by simp, fun hl => ?_⟩
      · rw [eval_put_other (fun e => hcj (formB_ne hf hoj ho hdj e))]
        exact hJ.vals j oj d hoj (by simpa [hcj] using hl) hcj hdj
      · refine ⟨w1.heap.size, ?_, hJ.size, ?_⟩
        · rw [hdst]; exact eval_put_same hdlt
        · have : (l cs || cs == i) = false := by simp [hns, Ne.symm hcs]
          rw [this]
          simpa using Blk.new w1 T Z
    · subst h1
      refine ⟨hg, ?_⟩
      have hli' : l ci = true := waitsB_at hw ci hdep
      obtain ⟨B, e1, e2, e3⟩ := hJ.cel hli'
      rw [hli] at e3
      have e3' : Blk w1 B T Z := by simpa using e3
      refine wp_store_mid T (.tmp cd) y hop B 0 X.toArray e1 (hy a w1 hJ.low hk hdeps) ?_ (by simpa using hsz) (all_one h1X) ?_
      · have := e3'.there 0 X.length (by rw [Nat.zero_add]; exact Nat.le_of_eq hlen)
        simpa using this
      have hbut := But.setCells B X 0 w1
      have hnew : Blk (w1.setCells B 0 X) B T X := by
        have := e3'.over X 0 (by omega)
        rwa [over_all _ _ (by omega)] at this
      have hput : a.put o.dst undef = a := by rw [hdst]; rfl
      refine ⟨undef, rfl, ?_⟩
      rw [hput]
      refine ⟨hRb _ _ _ hJ.low e2 hbut, Nat.le_trans hJ.size hbut.size, fun j oj d hoj hl hcj hdj => ?_, fun _ => by simp [hli'], fun _ => ⟨B, e1, e2, by simpa using hnew⟩⟩
      have hji : j ≠ i := fun e => by
        subst e
        rw [ho] at hoj
        simp only [Option.some.injEq] at hoj
        subst hoj
        rw [hdst] at hdj
        cases hdj
      exact hJ.vals j oj d hoj (by simpa [hji] using hl) hcj hdj
  · intro l a w1 hall hJ ht hd hk
    obtain ⟨B, e1, e2, e3⟩ := hJ.cel (hall _ hci)
    rw [hall _ hcz] at e3
    exact hQ a w1 B (ht.trans hn.symm) hd hk (fun i o d ho hc hdst => hJ.vals i o d ho (hall i (Array.getElem?_eq_some_iff.1 ho).1) hc hdst) hJ.low e1 e2 (by simpa using e3)
theorem OwesR.val {R : World → World → Prop} {P : Program} {ops : Array Oper} {V : Nat → Value} {ci cd cs : Nat} {T : TypeId} {Z X : List Value} {a0 : Act} {w : World} {i : Nat} {o : Oper} (h1 : (i != ci && i != cs) = true) (hg : o.guard = none)
    (h : ∀ (a : Act) (w' : World), R w w' → w.heap.size ≤ w'.heap.size → Kept ops a0 a → (∀ (j d : Nat), depB ops o.after j d = true → j ≠ ci → a.eval (.tmp d) = V j) → ∀ Q, o.wp P a w' (fun a' w'' => ∃ v, a' = a.put o.dst v ∧ v = V i ∧ R w' w'') Q) : OwesR R P ops V ci cd cs T Z X a0 w i o := by
  simp only [Bool.and_eq_true, bne_iff_ne, ne_eq] at h1
  exact .inl ⟨h1.1, h1.2, hg, h⟩
theorem OwesR.new {R : World → World → Prop} {P : Program} {ops : Array Oper} {V : Nat → Value} {ci cd cs : Nat} {T : TypeId} {Z X : List Value} {a0 : Act} {w : World} {i : Nat} {o : Oper} (h1 : i = ci) (hg : o.guard = none) (hd : o.dst = some cd)
    (h : ∀ (a : Act) (w' : World), (execOp a.eval o).run P w' = .ok (.value (.pointer (some ⟨w'.heap.size, 0, none⟩))) (w'.alloc (.cells Z.toArray T (0, 0)))) : OwesR R P ops V ci cd cs T Z X a0 w i o := .inr (.inl ⟨h1, hg, hd, h⟩)
theorem OwesR.put {R : World → World → Prop} {P : Program} {ops : Array Oper} {V : Nat → Value} {ci cd cs : Nat} {T : TypeId} {Z X : List Value} {a0 : Act} {w : World} {i : Nat} {o : Oper} (h1 : i = cs) (hg : o.guard = none) (hd : o.dst = none) (hdep : (o.after.any fun e => Region.binds .any e && e.on == ci) = true) (y : Operand) (ho : o.op = .store T (.tmp cd) y)
    (h : ∀ (a : Act) (w' : World), R w w' → Kept ops a0 a → (∀ (j d : Nat), depB ops o.after j d = true → j ≠ ci → a.eval (.tmp d) = V j) → a.eval y = .agg X.toArray) : OwesR R P ops V ci cd cs T Z X a0 w i o := .inr (.inr ⟨h1, hg, hd, hdep, y, ho, h⟩)
#print axioms wp_region_cellR
end Go.Proofs.YtooffljimdklfaaDoor
