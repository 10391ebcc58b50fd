/-
  Texts that ride together: TrV TrV2 TrC TrZ.
-/
import Derived.Test.YtooffljimdklfaaDoorG11s
/-
  The reference's maps: what the calls do.
-/
namespace Go.Proofs.YtooffljimdklfaaDoor
open Go.RowKit
theorem IEkey {w : World} {M : Nat} {T : TypeId} {x : It} (h : Blk w M T (IE.c x)) : w.rangeAt M 0 (By x.1.1) := h.range 0 _ fun j u hj => by
  have hl := (List.getElem?_eq_some_iff.1 hj).1
  show (By x.1.1 ++ By x.2.1)[0 + j]? = some u
  rw [Nat.zero_add, List.getElem?_append_left hl]
  exact hj
theorem IEval {w : World} {M : Nat} {T : TypeId} {x : It} (h : Blk w M T (IE.c x)) : w.rangeAt M 32 (By x.2.1) := h.range 32 _ fun j u hj => by
  show (By x.1.1 ++ By x.2.1)[32 + j]? = some u
  rw [List.getElem?_append_right (by rw [By_len]; omega), By_len, Nat.add_sub_cancel_left]
  exact hj
theorem Blk.notOwn {w : World} {b : Nat} {T : TypeId} {cs : List Value} (h : Blk w b T cs) {B : Nat} {e : TypeId} {v : Value} {L : List It} (ho : OwnG IE w B e v L) (hT : T ≠ e) (hv : v.ownBlock = some b) : False := by
  obtain ⟨_, _, cur, hcur⟩ := ho.block hv
  have := h.symm.trans hcur
  simp only [Option.some.injEq, Obj.cells.injEq] at this
  exact hT this.2.1
/-- What an append leaves. -/
theorem w9below {w3 w9 : World} {B : Nat} {v : Value} {L : List It} {o : Obj} (_ho : OwnG IE w3 B 77 v L) (g : (w3.alloc o).grownBy w9 v.ownBlock) (_hB : B ≤ w3.heap.size) : Chg (fun k => v.ownBlock = some k) w3 w9 :=
  (Chg.alloc _ w3 o).trans (Chg.of_grown g (fun _ e _ => e))
theorem wpList_build_pair {ops : Array Oper} {rest : List Oper} {op : Oper} {a : Act} {w : World} {Q : Exit → Act → World → Prop} (hgd : op.guard = none) (x y : Operand) (ho : op.op = .build 77 #[(0, x), (1, y)]) (k v : Hs) (hx : a.eval x = .agg (By k.1).toArray) (hy : a.eval y = .agg (By v.1).toArray)
    (h : wpList Tryd.prog ops Q rest (a.put op.dst (.agg (IE.c (k, v)).toArray)) w) : wpList Tryd.prog ops Q (op :: rest) a w :=
  wpList_plain hgd fun _ hK => wp_build_pair x y ho k v hx hy (hK _ _ h)
theorem wpList_build_row {ops : Array Oper} {rest : List Oper} {op : Oper} {a : Act} {w : World} {Q : Exit → Act → World → Prop} (hgd : op.guard = none) (x : Operand) (ho : op.op = .buildSlice 29 1 #[(0, x)]) (p : It) (hx : a.eval x = .agg (IE.c p).toArray)
    (h : wpList Tryd.prog ops Q rest (a.put op.dst (.slice (some ⟨w.heap.size, 0, none⟩) 1 1)) (w.alloc (.cells (IE.c p).toArray 77 (0, 0)))) : wpList Tryd.prog ops Q (op :: rest) a w :=
  wpList_plain hgd fun _ hK => wp_build_row x ho p hx (hK _ _ h)
theorem wpList_append_it {ops : Array Oper} {rest : List Oper} {op : Oper} {a : Act} {w : World} {Q : Exit → Act → World → Prop} (hgd : op.guard = none) (s x : Operand) (ho : op.op = .call { callee := .builtin .append, args := #[s, x], argTypes := #[29, 29] }) (base : Nat)
    (v : Value) (L : List It) (hv : a.eval s = v) (hown : OwnG IE w base 77 v L) (xv : Value) (M : List It) (hx : a.eval x = xv) (hr : RdG IE w xv M) (hlen : L.length + M.length ≤ 10000000) (hbase : base ≤ w.heap.size)
    (h : ∀ v' w', OwnG IE w' base 77 v' (L ++ M) → w.grownBy w' v.ownBlock → (∀ b, v'.ownBlock = some b → v.ownBlock = some b ∨ b = w.heap.size) → wpList Tryd.prog ops Q rest (a.put op.dst v') w') : wpList Tryd.prog ops Q (op :: rest) a w :=
  wpList_plain hgd fun _ hK => wp_append_it s x ho base v L hv hown xv M hx hr hlen hbase (fun v' w' h1 h2 h3 => hK _ _ (h v' w' h1 h2 h3))
end Go.Proofs.YtooffljimdklfaaDoor

/-
  The reference's Get and Put: what the calls do.
-/
namespace Go.Proofs.YtooffljimdklfaaDoor
open Go.RowKit
/-- One item is looked at. -/
def stP (k v : Hs) (s : List It × Bool) (x : It) : List It × Bool :=
  if !s.2 && !(lss x.1 k) then (if x.1 = k then s.1 ++ [(k, v)] else s.1 ++ [(k, v)] ++ [x], true) else (if x.1 = k then s.1 else s.1 ++ [x], s.2)
theorem stP_done (k v : Hs) : ∀ (L o : List It), L.foldl (stP k v) (o, true) = (o ++ dropP L k, true)
  | [], o => by simp [dropP]
  | x :: L, o => by
    rw [List.foldl_cons]
    by_cases h : x.1 = k
    · rw [show stP k v (o, true) x = (o, true) by simp [stP, h], stP_done k v L o]
      simp [dropP, h]
    · rw [show stP k v (o, true) x = (o ++ [x], true) by simp [stP, h], stP_done k v L (o ++ [x])]
      simp [dropP, h]
theorem stP_put (k v : Hs) : ∀ (L o : List It), (if (L.foldl (stP k v) (o, false)).2 then (L.foldl (stP k v) (o, false)).1 else (L.foldl (stP k v) (o, false)).1 ++ [(k, v)]) = o ++ putP L k v
  | [], o => by simp [putP]
  | x :: L, o => by
    rw [List.foldl_cons]
    unfold putP
    cases hl : lss x.1 k with
    | true =>
      rw [show stP k v (o, false) x = (o ++ [x], false) by simp [stP, hl, lss_ne hl], stP_put k v L (o ++ [x])]
      simp
    | false =>
      by_cases h : x.1 = k
      · rw [show stP k v (o, false) x = (o ++ [(k, v)], true) by simp [stP, h, lss_irrefl], stP_done]
        simp [dropP, h]
      · rw [show stP k v (o, false) x = (o ++ [(k, v)] ++ [x], true) by simp [stP, hl, h], stP_done]
        simp [dropP, h]
theorem stP_len (k v : Hs) (s : List It × Bool) (x : It) : (stP k v s x).1.length ≤ s.1.length + 2 := by
  unfold stP
  split <;> dsimp only <;> split <;> simp
theorem foldP_len (k v : Hs) : ∀ (L : List It) (s : List It × Bool), (L.foldl (stP k v) s).1.length ≤ s.1.length + 2 * L.length
  | [], s => by simp
  | x :: L, s => by
    rw [List.foldl_cons]
    have h1 := foldP_len k v L (stP k v s x)
    have h2 := stP_len k v s x
    rw [List.length_cons]
    omega
set_option maxHeartbeats 4000000 in
set_option maxRecDepth 100000 in
theorem yPut_any {w : World} {m : Value} {L : List It} (k v : Hs) (hr : RdG IE w m L) (hn : L.length ≤ 1000000) : Calls Tryd.prog 27 #[m, HV k, HV v] w fun e w' => ∃ v', e = .returned v' ∧ OwnG IE w' w.heap.size 77 v' (putP L k v) ∧ Below w.heap.size w w' := by
  have HR := hide hr
  obtain ⟨a, cp, rfl⟩ := hr.slice
  clear hr
  obtain ⟨n, HNL⟩ : ∃ n, Hid (L.length = n) := ⟨_, rfl⟩
  rw [HNL.out] at HR hn ⊢
  obtain ⟨N, HN⟩ : ∃ N, Hid (w.heap.size = N) := ⟨_, rfl⟩
  rw [HN.out]
  have HPUT := hide (stP_put k v L [])
  go_enter Tryd.func27, Tryd.ntmps27
  unfold HV
  go_upto_region 1 with fail
  obtain ⟨w1, hw1⟩ : ∃ z, z = (w.alloc (.cells (By k.1).toArray 24 (0, 0))).alloc (.cells (By v.1).toArray 24 (0, 0)) := ⟨_, rfl⟩
  change Code.wp _ _ _ _ ((w.alloc (.cells (By k.1).toArray 24 (0, 0))).alloc (.cells (By v.1).toArray 24 (0, 0)))
  rw [← hw1, HN.out]
  have Kw1 : Hid (Blk w1 N 24 (By k.1)) := (show Blk _ _ _ _ by rw [hw1, ← HN.out]; exact (Blk.new w 24 (By k.1)).alloc _)
  have Vw1 : Hid (Blk w1 (N + 1) 24 (By v.1)) := (show Blk _ _ _ _ by rw [hw1, ← HN.out]; have := Blk.new (w.alloc (.cells (By k.1).toArray 24 (0, 0))) 24 (By v.1); simpa using this)
  have Lw1 : Hid (Below N w w1) := (show Below _ _ _ by rw [hw1, ← HN.out]; exact ((Below.refl _ _).alloc (Nat.le_refl _) _).alloc (by simp) _)
  clear hw1
  go_wp2_with fail
  go_loopg [7, 8, 13] (n + 1) (fun g y f z wr => ∃ (i : Nat) (pa : Option Addr) (ln lc : Nat) (o : List It) (d : Bool), i ≤ n ∧ g + i = n + 1 ∧ z = .int .i64 (i : Int) ∧ f = .bool d ∧ y = .slice pa ln lc ∧ Hid ((L.take i).foldl (stP k v) ([], false) = (o, d)) ∧ Hid (OwnG IE wr N 77 (.slice pa ln lc) o) ∧ Hid (Below N w wr) ∧ Hid (Blk wr N 24 (By k.1)) ∧ Hid (Blk wr (N + 1) 24 (By v.1)))
  case atStart => exact ⟨0, none, 0, 0, [], false, by omega, by omega, rfl, rfl, rfl, (show _ = _ from rfl), (show OwnG _ _ _ _ _ _ from ownG_nil _ _ _), Lw1, Kw1, Vw1⟩
  case round =>
    obtain ⟨i, pa, ln, lc, o, d, hi, hgi, rfl, rfl, rfl, FR, OR, LR, KR, VR⟩ := hrel
    have HOL : Hid (o.length ≤ 2000000) := (show _ ≤ _ by
      have h1 := foldP_len k v (L.take i) ([], false)
      rw [FR.out] at h1
      simp only [List.length_nil, List.length_take] at h1
      omega)
    by_cases hlt : i < n
    · have hlt2 : i < L.length := by rw [HNL.out]; exact hlt
      obtain ⟨ba, oa, hsl, hba, hxa⟩ := (HR.out.kept (LR.out.mono (Nat.le_of_eq HN.out))).nth (by omega)
      have hx : wr.rangeAt ba (oa + i * 64) (IE.c L[i]) := hxa i hlt2
      obtain ⟨x, HX⟩ : ∃ x, Hid (L[i] = x) := ⟨L[i], (show L[i] = L[i] from rfl)⟩
      rw [HX.out] at hx
      subst hsl
      clear hxa
      have q2 : (i : Int) < (n : Int) := by omega
      have q3 : ¬ n ≤ i := by omega
      obtain ⟨M, HM⟩ : ∃ M, Hid (wr.heap.size = M) := ⟨_, rfl⟩
      have hNM : N < M := by rw [← HM.out]; exact KR.out.lt
      have HTK : Hid (L.take (i + 1) = L.take i ++ [x]) := (show _ = _ by rw [List.take_succ_eq_append_getElem hlt2, HX.out])
      have heq := eqA x.1 k
      have HFO : Hid ((L.take (i + 1)).foldl (stP k v) ([], false) = stP k v (o, d) x) := (show _ = _ by rw [HTK.out, List.foldl_append, FR.out]; rfl)
      have HL9 : Hid (o.length + [x].length ≤ 10000000) := (show _ ≤ _ by have := HOL.out; rw [List.length_singleton]; omega)
      have CL := hide (fun w => yless_any x.1 k w)
      obtain ⟨c, HC⟩ : ∃ c, Hid (lss x.1 k = c) := ⟨_, rfl⟩
      rw [HC.out] at CL
      cases d with
      | true =>
        clear CL
        by_cases hxk : x.1 = k
        · rw [decide_eq_true hxk] at heq
          have HST : Hid (stP k v (o, true) x = (o, true)) := (show _ = _ by simp [stP, hxk])
          clear hxk
          go_wp2_with (first
            | (refine wpList_load_mid rfl 77 _ rfl ba (oa + i * 64) rfl (IE.c x) _ hx Tryd.underlying77 rfl (Tryd.sizeI x) ?_)
            | (rw [HM.out]; refine wpList_store_blk rfl 77 _ _ rfl M (IE.c zi) (IE.c x) 77 rfl rfl (by rw [← HM.out]; exact Blk.new wr 77 (IE.c zi)) (by rw [IE_len, IE_len]) (Tryd.sizeI x) (IE.one x) ?_; intro w3 hb3 hu3; have D3 : Below wr.heap.size wr w3 := (((Below.refl _ _).alloc (Nat.le_refl _) _).trans (hu3.below (Nat.le_of_eq HM.out) (by simp))); have B3 := hide hb3; have K3 := hide (KR.out.kept D3); have V3 := hide (VR.out.kept D3); have L3 : Hid (Below N w w3) := (show _ from LR.out.trans (D3.mono (by rw [HM.out]; omega))); have O3 := hide (OR.out.kept D3); have rv := V3.out.range0; have HMO : Hid (¬ (Value.slice pa ln lc).ownBlock = some M) := (show _ from fun h => by have := (OR.out.block h).2.1; rw [HM.out] at this; omega); have rx := IEkey hb3; have rk := K3.out.range0; clear hb3 hu3 D3)
            | (refine wpList_load_mid rfl 24 _ rfl M 0 rfl (By x.1.1) _ rx Tryd.underlying24 rfl (Tryd.sizeH x.1) ?_)
            | (refine wpList_load_mid rfl 24 _ rfl N 0 rfl (By k.1) _ rk Tryd.underlying24 rfl (Tryd.sizeH k) ?_)
            | fail)
          go_roundg (n + 1 - (i + 1))
          case measure => omega
          case rel => exact ⟨i + 1, pa, ln, lc, o, true, by omega, by omega, by go_num, rfl, rfl, (show _ = _ by rw [HFO.out]; exact HST.out), O3, L3, K3, V3⟩
        · rw [decide_eq_false hxk] at heq
          have HST : Hid (stP k v (o, true) x = (o ++ [x], true)) := (show _ = _ by simp [stP, hxk])
          clear hxk
          go_wp2_with (first
            | (refine wpList_load_mid rfl 77 _ rfl ba (oa + i * 64) rfl (IE.c x) _ hx Tryd.underlying77 rfl (Tryd.sizeI x) ?_)
            | (rw [HM.out]; refine wpList_store_blk rfl 77 _ _ rfl M (IE.c zi) (IE.c x) 77 rfl rfl (by rw [← HM.out]; exact Blk.new wr 77 (IE.c zi)) (by rw [IE_len, IE_len]) (Tryd.sizeI x) (IE.one x) ?_; intro w3 hb3 hu3; have D3 : Below wr.heap.size wr w3 := (((Below.refl _ _).alloc (Nat.le_refl _) _).trans (hu3.below (Nat.le_of_eq HM.out) (by simp))); have B3 := hide hb3; have K3 := hide (KR.out.kept D3); have V3 := hide (VR.out.kept D3); have L3 : Hid (Below N w w3) := (show _ from LR.out.trans (D3.mono (by rw [HM.out]; omega))); have O3 := hide (OR.out.kept D3); have rv := V3.out.range0; have HMO : Hid (¬ (Value.slice pa ln lc).ownBlock = some M) := (show _ from fun h => by have := (OR.out.block h).2.1; rw [HM.out] at this; omega); have rx := IEkey hb3; have rk := K3.out.range0; clear hb3 hu3 D3)
            | (refine wpList_load_mid rfl 24 _ rfl M 0 rfl (By x.1.1) _ rx Tryd.underlying24 rfl (Tryd.sizeH x.1) ?_)
            | (refine wpList_load_mid rfl 24 _ rfl N 0 rfl (By k.1) _ rk Tryd.underlying24 rfl (Tryd.sizeH k) ?_)
            | (refine wpList_load_mid rfl 77 _ rfl M 0 rfl (IE.c x) _ B3.out.range0 Tryd.underlying77 rfl (Tryd.sizeI x) ?_)
            | (refine wpList_build_row rfl _ rfl (x) rfl ?_)
            | (refine wpList_append_it rfl (.tmp 36) (.tmp 38) rfl N (.slice pa ln lc) (o) rfl (O3.out.kept ((Below.refl _ _).alloc (Nat.le_refl _) _)) (.slice (some ⟨_, 0, none⟩) 1 1) [x] rfl (rdG_one _ 77 x) HL9.out (by simp; have := B3.out.lt; omega) ?_; intro v9 w9 o9 g9 q9; have D9 := w9below O3.out g9 (by have := B3.out.lt; omega); have K9 : Hid (Blk w9 N 24 (By k.1)) := (show Blk _ _ _ _ from K3.out.chg D9 (fun h => K3.out.notOwn O3.out (by decide) h)); have V9 : Hid (Blk w9 (N + 1) 24 (By v.1)) := (show Blk _ _ _ _ from V3.out.chg D9 (fun h => V3.out.notOwn O3.out (by decide) h)); have L9 : Hid (Below N w w9) := (show _ from L3.out.trans (D9.below (by have := B3.out.lt; omega) (fun j hj h => by have := (O3.out.block h).1; omega))); have O9 := hide o9; clear o9 q9; obtain ⟨p9, c9, hv9⟩ := O9.out.form; obtain ⟨n9, hn9⟩ : ∃ z, (o ++ [x]).length = z := ⟨_, rfl⟩; rw [hn9] at hv9; subst hv9; clear hn9; clear g9 D9)
            | fail)
          go_roundg (n + 1 - (i + 1))
          case measure => omega
          case rel => exact ⟨i + 1, p9, n9, c9, o ++ [x], true, by omega, by omega, by go_num, rfl, rfl, (show _ = _ by rw [HFO.out]; exact HST.out), O9, L9, K9, V9⟩
      | false =>
        cases c with
        | true =>
          have hxk := lss_ne HC.out
          rw [decide_eq_false hxk] at heq
          have HST : Hid (stP k v (o, false) x = (o ++ [x], false)) := (show _ = _ by simp [stP, hxk, HC.out])
          clear hxk
          go_wp2_with (first
            | (refine wpList_load_mid rfl 77 _ rfl ba (oa + i * 64) rfl (IE.c x) _ hx Tryd.underlying77 rfl (Tryd.sizeI x) ?_)
            | (rw [HM.out]; refine wpList_store_blk rfl 77 _ _ rfl M (IE.c zi) (IE.c x) 77 rfl rfl (by rw [← HM.out]; exact Blk.new wr 77 (IE.c zi)) (by rw [IE_len, IE_len]) (Tryd.sizeI x) (IE.one x) ?_; intro w3 hb3 hu3; have D3 : Below wr.heap.size wr w3 := (((Below.refl _ _).alloc (Nat.le_refl _) _).trans (hu3.below (Nat.le_of_eq HM.out) (by simp))); have B3 := hide hb3; have K3 := hide (KR.out.kept D3); have V3 := hide (VR.out.kept D3); have L3 : Hid (Below N w w3) := (show _ from LR.out.trans (D3.mono (by rw [HM.out]; omega))); have O3 := hide (OR.out.kept D3); have rv := V3.out.range0; have HMO : Hid (¬ (Value.slice pa ln lc).ownBlock = some M) := (show _ from fun h => by have := (OR.out.block h).2.1; rw [HM.out] at this; omega); have rx := IEkey hb3; have rk := K3.out.range0; clear hb3 hu3 D3)
            | (refine wpList_load_w9 rfl 24 _ rfl M 0 rfl (By x.1.1) _ rx Tryd.underlying24 rfl (Tryd.sizeH x.1) ?_)
            | (refine wpList_load_w9 rfl 24 _ rfl N 0 rfl (By k.1) _ rk Tryd.underlying24 rfl (Tryd.sizeH k) ?_)
            | (go_at_call 47; refine (CL.out _).mono ?_; rintro e w4 ⟨rfl, hb4⟩; have B4 := hide (B3.out.kept hb4); have K4 := hide (K3.out.kept hb4); have V4 := hide (V3.out.kept hb4); have O4 := hide (O3.out.kept hb4); have L4 : Hid (Below N w w4) := (show _ from L3.out.trans (hb4.mono (by have := K3.out.lt; omega))); clear rx rk rv hb4 B3 K3 V3 O3 L3; have B3 := B4; have K3 := K4; have V3 := V4; have O3 := O4; have L3 := L4; clear B4 K4 V4 O4 L4; have rx := IEkey B3.out; have rk := K3.out.range0; have rv := V3.out.range0)
            | (refine wpList_load_mid rfl 24 _ rfl M 0 rfl (By x.1.1) _ rx Tryd.underlying24 rfl (Tryd.sizeH x.1) ?_)
            | (refine wpList_load_mid rfl 24 _ rfl N 0 rfl (By k.1) _ rk Tryd.underlying24 rfl (Tryd.sizeH k) ?_)
            | (refine wpList_load_mid rfl 77 _ rfl M 0 rfl (IE.c x) _ B3.out.range0 Tryd.underlying77 rfl (Tryd.sizeI x) ?_)
            | (refine wpList_build_row rfl _ rfl (x) rfl ?_)
            | (refine wpList_append_it rfl (.tmp 36) (.tmp 38) rfl N (.slice pa ln lc) (o) rfl (O3.out.kept ((Below.refl _ _).alloc (Nat.le_refl _) _)) (.slice (some ⟨_, 0, none⟩) 1 1) [x] rfl (rdG_one _ 77 x) HL9.out (by simp; have := B3.out.lt; omega) ?_; intro v9 w9 o9 g9 q9; have D9 := w9below O3.out g9 (by have := B3.out.lt; omega); have K9 : Hid (Blk w9 N 24 (By k.1)) := (show Blk _ _ _ _ from K3.out.chg D9 (fun h => K3.out.notOwn O3.out (by decide) h)); have V9 : Hid (Blk w9 (N + 1) 24 (By v.1)) := (show Blk _ _ _ _ from V3.out.chg D9 (fun h => V3.out.notOwn O3.out (by decide) h)); have L9 : Hid (Below N w w9) := (show _ from L3.out.trans (D9.below (by have := B3.out.lt; omega) (fun j hj h => by have := (O3.out.block h).1; omega))); have O9 := hide o9; clear o9 q9; obtain ⟨p9, c9, hv9⟩ := O9.out.form; obtain ⟨n9, hn9⟩ : ∃ z, (o ++ [x]).length = z := ⟨_, rfl⟩; rw [hn9] at hv9; subst hv9; clear hn9; clear g9 D9)
            | fail)
          go_roundg (n + 1 - (i + 1))
          case measure => omega
          case rel => exact ⟨i + 1, p9, n9, c9, o ++ [x], false, by omega, by omega, by go_num, rfl, rfl, (show _ = _ by rw [HFO.out]; exact HST.out), O9, L9, K9, V9⟩
        | false =>
          by_cases hxk : x.1 = k
          · rw [decide_eq_true hxk] at heq
            have HST : Hid (stP k v (o, false) x = (o ++ [(k, v)], true)) := (show _ = _ by simp [stP, hxk, lss_irrefl])
            clear hxk
            replace HL9 : Hid (o.length + [(k, v)].length ≤ 10000000) := HL9
            go_wp2_with (first
              | (refine wpList_load_mid rfl 77 _ rfl ba (oa + i * 64) rfl (IE.c x) _ hx Tryd.underlying77 rfl (Tryd.sizeI x) ?_)
              | (rw [HM.out]; refine wpList_store_blk rfl 77 _ _ rfl M (IE.c zi) (IE.c x) 77 rfl rfl (by rw [← HM.out]; exact Blk.new wr 77 (IE.c zi)) (by rw [IE_len, IE_len]) (Tryd.sizeI x) (IE.one x) ?_; intro w3 hb3 hu3; have D3 : Below wr.heap.size wr w3 := (((Below.refl _ _).alloc (Nat.le_refl _) _).trans (hu3.below (Nat.le_of_eq HM.out) (by simp))); have B3 := hide hb3; have K3 := hide (KR.out.kept D3); have V3 := hide (VR.out.kept D3); have L3 : Hid (Below N w w3) := (show _ from LR.out.trans (D3.mono (by rw [HM.out]; omega))); have O3 := hide (OR.out.kept D3); have rv := V3.out.range0; have HMO : Hid (¬ (Value.slice pa ln lc).ownBlock = some M) := (show _ from fun h => by have := (OR.out.block h).2.1; rw [HM.out] at this; omega); have rx := IEkey hb3; have rk := K3.out.range0; clear hb3 hu3 D3)
              | (refine wpList_load_w9 rfl 24 _ rfl M 0 rfl (By x.1.1) _ rx Tryd.underlying24 rfl (Tryd.sizeH x.1) ?_)
              | (refine wpList_load_w9 rfl 24 _ rfl N 0 rfl (By k.1) _ rk Tryd.underlying24 rfl (Tryd.sizeH k) ?_)
              | (go_at_call 47; refine (CL.out _).mono ?_; rintro e w4 ⟨rfl, hb4⟩; have B4 := hide (B3.out.kept hb4); have K4 := hide (K3.out.kept hb4); have V4 := hide (V3.out.kept hb4); have O4 := hide (O3.out.kept hb4); have L4 : Hid (Below N w w4) := (show _ from L3.out.trans (hb4.mono (by have := K3.out.lt; omega))); clear rx rk rv hb4 B3 K3 V3 O3 L3; have B3 := B4; have K3 := K4; have V3 := V4; have O3 := O4; have L3 := L4; clear B4 K4 V4 O4 L4; have rx := IEkey B3.out; have rk := K3.out.range0; have rv := V3.out.range0)
              | (refine wpList_load_mid rfl 24 _ rfl M 0 rfl (By x.1.1) _ rx Tryd.underlying24 rfl (Tryd.sizeH x.1) ?_)
              | (refine wpList_load_mid rfl 24 _ rfl N 0 rfl (By k.1) _ rk Tryd.underlying24 rfl (Tryd.sizeH k) ?_)
              | (refine wpList_load_mid rfl 24 _ rfl (N + 1) 0 rfl (By v.1) _ rv Tryd.underlying24 rfl (Tryd.sizeH v) ?_)
              | (refine wpList_build_pair rfl _ _ rfl k v rfl rfl ?_)
              | (refine wpList_build_row rfl _ rfl ((k, v)) rfl ?_)
              | (refine wpList_append_it rfl (.tmp 26) (.tmp 30) rfl N (.slice pa ln lc) (o) rfl (O3.out.kept ((Below.refl _ _).alloc (Nat.le_refl _) _)) (.slice (some ⟨_, 0, none⟩) 1 1) [(k, v)] rfl (rdG_one _ 77 (k, v)) HL9.out (by simp; have := B3.out.lt; omega) ?_; intro v9 w9 o9 g9 q9; have D9 := w9below O3.out g9 (by have := B3.out.lt; omega); have K9 : Hid (Blk w9 N 24 (By k.1)) := (show Blk _ _ _ _ from K3.out.chg D9 (fun h => K3.out.notOwn O3.out (by decide) h)); have V9 : Hid (Blk w9 (N + 1) 24 (By v.1)) := (show Blk _ _ _ _ from V3.out.chg D9 (fun h => V3.out.notOwn O3.out (by decide) h)); have L9 : Hid (Below N w w9) := (show _ from L3.out.trans (D9.below (by have := B3.out.lt; omega) (fun j hj h => by have := (O3.out.block h).1; omega))); have O9 := hide o9; clear o9 q9; obtain ⟨p9, c9, hv9⟩ := O9.out.form; obtain ⟨n9, hn9⟩ : ∃ z, (o ++ [(k, v)]).length = z := ⟨_, rfl⟩; rw [hn9] at hv9; subst hv9; clear hn9; have M9 : Hid (Blk w9 M 77 (IE.c x)) := (show Blk _ _ _ _ from B3.out.chg D9 (fun h => HMO.out h)); clear g9 D9 K3 V3 L3 O3 rx rk rv; have rx := IEkey M9.out; have rk := K9.out.range0)
              | fail)
            go_roundg (n + 1 - (i + 1))
            case measure => omega
            case rel => exact ⟨i + 1, p9, n9, c9, o ++ [(k, v)], true, by omega, by omega, by go_num, rfl, rfl, (show _ = _ by rw [HFO.out]; exact HST.out), O9, L9, K9, V9⟩
          · rw [decide_eq_false hxk] at heq
            have HST : Hid (stP k v (o, false) x = (o ++ [(k, v)] ++ [x], true)) := (show _ = _ by simp [stP, hxk, HC.out])
            clear hxk
            replace HL9 : Hid (o.length + [(k, v)].length ≤ 10000000) := HL9
            have HL8 : Hid ((o ++ [(k, v)]).length + [x].length ≤ 10000000) := (show _ ≤ _ by have := HOL.out; rw [List.length_append, List.length_singleton, List.length_singleton]; omega)
            go_wp2_with (first
              | (refine wpList_load_mid rfl 77 _ rfl ba (oa + i * 64) rfl (IE.c x) _ hx Tryd.underlying77 rfl (Tryd.sizeI x) ?_)
              | (rw [HM.out]; refine wpList_store_blk rfl 77 _ _ rfl M (IE.c zi) (IE.c x) 77 rfl rfl (by rw [← HM.out]; exact Blk.new wr 77 (IE.c zi)) (by rw [IE_len, IE_len]) (Tryd.sizeI x) (IE.one x) ?_; intro w3 hb3 hu3; have D3 : Below wr.heap.size wr w3 := (((Below.refl _ _).alloc (Nat.le_refl _) _).trans (hu3.below (Nat.le_of_eq HM.out) (by simp))); have B3 := hide hb3; have K3 := hide (KR.out.kept D3); have V3 := hide (VR.out.kept D3); have L3 : Hid (Below N w w3) := (show _ from LR.out.trans (D3.mono (by rw [HM.out]; omega))); have O3 := hide (OR.out.kept D3); have rv := V3.out.range0; have HMO : Hid (¬ (Value.slice pa ln lc).ownBlock = some M) := (show _ from fun h => by have := (OR.out.block h).2.1; rw [HM.out] at this; omega); have rx := IEkey hb3; have rk := K3.out.range0; clear hb3 hu3 D3)
              | (refine wpList_load_w9 rfl 24 _ rfl M 0 rfl (By x.1.1) _ rx Tryd.underlying24 rfl (Tryd.sizeH x.1) ?_)
              | (refine wpList_load_w9 rfl 24 _ rfl N 0 rfl (By k.1) _ rk Tryd.underlying24 rfl (Tryd.sizeH k) ?_)
              | (go_at_call 47; refine (CL.out _).mono ?_; rintro e w4 ⟨rfl, hb4⟩; have B4 := hide (B3.out.kept hb4); have K4 := hide (K3.out.kept hb4); have V4 := hide (V3.out.kept hb4); have O4 := hide (O3.out.kept hb4); have L4 : Hid (Below N w w4) := (show _ from L3.out.trans (hb4.mono (by have := K3.out.lt; omega))); clear rx rk rv hb4 B3 K3 V3 O3 L3; have B3 := B4; have K3 := K4; have V3 := V4; have O3 := O4; have L3 := L4; clear B4 K4 V4 O4 L4; have rx := IEkey B3.out; have rk := K3.out.range0; have rv := V3.out.range0)
              | (refine wpList_load_mid rfl 24 _ rfl M 0 rfl (By x.1.1) _ rx Tryd.underlying24 rfl (Tryd.sizeH x.1) ?_)
              | (refine wpList_load_mid rfl 24 _ rfl N 0 rfl (By k.1) _ rk Tryd.underlying24 rfl (Tryd.sizeH k) ?_)
              | (refine wpList_load_mid rfl 24 _ rfl (N + 1) 0 rfl (By v.1) _ rv Tryd.underlying24 rfl (Tryd.sizeH v) ?_)
              | (refine wpList_build_pair rfl _ _ rfl k v rfl rfl ?_)
              | (refine wpList_build_row rfl _ rfl ((k, v)) rfl ?_)
              | (refine wpList_append_it rfl (.tmp 26) (.tmp 30) rfl N (.slice pa ln lc) (o) rfl (O3.out.kept ((Below.refl _ _).alloc (Nat.le_refl _) _)) (.slice (some ⟨_, 0, none⟩) 1 1) [(k, v)] rfl (rdG_one _ 77 (k, v)) HL9.out (by simp; have := B3.out.lt; omega) ?_; intro v9 w9 o9 g9 q9; have D9 := w9below O3.out g9 (by have := B3.out.lt; omega); have K9 : Hid (Blk w9 N 24 (By k.1)) := (show Blk _ _ _ _ from K3.out.chg D9 (fun h => K3.out.notOwn O3.out (by decide) h)); have V9 : Hid (Blk w9 (N + 1) 24 (By v.1)) := (show Blk _ _ _ _ from V3.out.chg D9 (fun h => V3.out.notOwn O3.out (by decide) h)); have L9 : Hid (Below N w w9) := (show _ from L3.out.trans (D9.below (by have := B3.out.lt; omega) (fun j hj h => by have := (O3.out.block h).1; omega))); have O9 := hide o9; clear o9 q9; obtain ⟨p9, c9, hv9⟩ := O9.out.form; obtain ⟨n9, hn9⟩ : ∃ z, (o ++ [(k, v)]).length = z := ⟨_, rfl⟩; rw [hn9] at hv9; subst hv9; clear hn9; have M9 : Hid (Blk w9 M 77 (IE.c x)) := (show Blk _ _ _ _ from B3.out.chg D9 (fun h => HMO.out h)); clear g9 D9 K3 V3 L3 O3 rx rk rv; have rx := IEkey M9.out; have rk := K9.out.range0)
              | (refine wpList_load_mid rfl 77 _ rfl M 0 rfl (IE.c x) _ M9.out.range0 Tryd.underlying77 rfl (Tryd.sizeI x) ?_)
              | (refine wpList_build_row rfl _ rfl (x) rfl ?_)
              | (refine wpList_append_it rfl (.tmp 36) (.tmp 38) rfl N (.slice p9 n9 c9) (o ++ [(k, v)]) rfl (O9.out.kept ((Below.refl _ _).alloc (Nat.le_refl _) _)) (.slice (some ⟨_, 0, none⟩) 1 1) [x] rfl (rdG_one _ 77 x) HL8.out (by simp; have := M9.out.lt; omega) ?_; intro v8 w8 o8 g8 q8; have D8 := w9below O9.out g8 (by have := M9.out.lt; omega); have K8 : Hid (Blk w8 N 24 (By k.1)) := (show Blk _ _ _ _ from K9.out.chg D8 (fun h => K9.out.notOwn O9.out (by decide) h)); have V8 : Hid (Blk w8 (N + 1) 24 (By v.1)) := (show Blk _ _ _ _ from V9.out.chg D8 (fun h => V9.out.notOwn O9.out (by decide) h)); have L8 : Hid (Below N w w8) := (show _ from L9.out.trans (D8.below (by have := M9.out.lt; omega) (fun j hj h => by have := (O9.out.block h).1; omega))); have O8 := hide o8; clear o8 q8; obtain ⟨p8, c8, hv8⟩ := O8.out.form; obtain ⟨n8, hn8⟩ : ∃ z, (o ++ [(k, v)] ++ [x]).length = z := ⟨_, rfl⟩; rw [hn8] at hv8; subst hv8; clear hn8 g8 D8)
              | fail)
            go_roundg (n + 1 - (i + 1))
            case measure => omega
            case rel => exact ⟨i + 1, p8, n8, c8, o ++ [(k, v)] ++ [x], true, by omega, by omega, by go_num, rfl, rfl, (show _ = _ by rw [HFO.out]; exact HST.out), O8, L8, K8, V8⟩
    · obtain rfl : i = n := by omega
      have q2 : ¬ (i : Int) < (i : Int) := by omega
      have FE : Hid (L.foldl (stP k v) ([], false) = (o, d)) := (show _ = _ by have := FR.out; rwa [List.take_of_length_le (by rw [HNL.out]; exact Nat.le_refl _)] at this)
      rw [FE.out] at HPUT
      cases d with
      | true =>
        have HO : Hid (o = putP L k v) := (show _ = _ by have := HPUT.out; simpa using this)
        go_wp2_with fail
        go_ret
        exact ⟨_, rfl, by rw [← HO.out]; exact OR.out, LR.out⟩
      | false =>
        have HO : Hid (o ++ [(k, v)] = putP L k v) := (show _ = _ by have := HPUT.out; simpa using this)
        have HL9 : Hid (o.length + [(k, v)].length ≤ 10000000) := (show _ ≤ _ by have := HOL.out; rw [List.length_singleton]; omega)
        have rk := KR.out.range0
        have rv := VR.out.range0
        go_wp2_with (first
          | (refine wpList_load_mid rfl 24 _ rfl N 0 rfl (By k.1) _ rk Tryd.underlying24 rfl (Tryd.sizeH k) ?_)
          | (refine wpList_load_mid rfl 24 _ rfl (N + 1) 0 rfl (By v.1) _ rv Tryd.underlying24 rfl (Tryd.sizeH v) ?_)
          | (refine wpList_build_pair rfl _ _ rfl k v rfl rfl ?_)
          | (refine wpList_build_row rfl _ rfl ((k, v)) rfl ?_)
          | (refine wpList_append_it rfl (.tmp 43) (.tmp 47) rfl N (.slice pa ln lc) o rfl (OR.out.kept ((Below.refl _ _).alloc (Nat.le_refl _) _)) (.slice (some ⟨_, 0, none⟩) 1 1) [(k, v)] rfl (rdG_one _ 77 (k, v)) HL9.out (by simp; have := KR.out.lt; omega) ?_; intro v9 w9 o9 g9 q9; have D9 := w9below OR.out g9 (by have := KR.out.lt; omega); have L9 : Hid (Below N w w9) := (show _ from LR.out.trans (D9.below (by have := KR.out.lt; omega) (fun j hj h => by have := (OR.out.block h).1; omega))); have O9 := hide o9; clear o9 q9 g9 D9)
          | fail)
        go_ret
        exact ⟨_, rfl, by rw [← HO.out]; exact O9.out, L9.out⟩
#print axioms yPut_any
end Go.Proofs.YtooffljimdklfaaDoor

/-
  The reference's Cut and Root: what the calls do.
-/
namespace Go.Proofs.YtooffljimdklfaaDoor
open Go.RowKit
theorem rangeAt_kept11 {w w' : World} {b o : Nat} {cs : List Value} (h : w.rangeAt b o cs) (hb : b < w.heap.size) (hg : Below w.heap.size w w') : w'.rangeAt b o cs := fun j u hj => (hg.cell (p := ⟨b, o + j, none⟩) hb).trans (h j u hj)
theorem IEk {w : World} {b o : Nat} {x : It} (h : w.rangeAt b o (IE.c x)) : w.rangeAt b o (By x.1.1) := fun j u hj => h j u (by
  have hl := (List.getElem?_eq_some_iff.1 hj).1
  show (By x.1.1 ++ By x.2.1)[j]? = some u
  rw [List.getElem?_append_left hl]
  exact hj)
theorem IEv {w : World} {b o : Nat} {x : It} (h : w.rangeAt b o (IE.c x)) : w.rangeAt b (o + 32) (By x.2.1) := fun j u hj => by
  have := h (32 + j) u (by
    show (By x.1.1 ++ By x.2.1)[32 + j]? = some u
    rw [List.getElem?_append_right (by rw [By_len]; omega), By_len, Nat.add_sub_cancel_left]
    exact hj)
  rwa [← Nat.add_assoc] at this
set_option maxHeartbeats 4000000 in
set_option maxRecDepth 100000 in
theorem yCut_any {w : World} {v : Value} {L : List It} (hr : RdG IE w v L) (hn : L.length ≤ 1000000) (hpos : 0 < L.length) : Calls Tryd.prog 30 #[v] w fun e w' => e = .returned (.tuple #[.int .i64 (cutB L : Int), .int .i64 (cutN L : Int)]) ∧ Below w.heap.size w w' := by
  have HR := hide hr
  obtain ⟨a, cp, rfl⟩ := hr.slice
  obtain ⟨n, HNL⟩ : ∃ n, Hid (L.length = n) := ⟨_, rfl⟩
  obtain ⟨N, HN⟩ : ∃ N, Hid (w.heap.size = N) := ⟨_, rfl⟩
  rw [HNL.out] at HR hn hpos hr ⊢
  rw [HN.out]
  obtain ⟨ba, oa, rfl, hba, hxa⟩ := hr.nth hpos
  obtain ⟨n1, hn1⟩ : ∃ z, z + 1 = n := ⟨n - 1, by omega⟩
  have hl0 : 0 < L.length := by rw [HNL.out]; exact hpos
  have hl1 : n1 < L.length := by rw [HNL.out]; omega
  have hk0 : w.rangeAt ba oa (By L[0].1.1) := by have := IEk (hxa 0 hl0); simpa using this
  have hk1 : w.rangeAt ba (oa + n1 * 64) (By L[n1].1.1) := IEk (hxa n1 hl1)
  have HCB : Hid (cutB L = apart L[0].1 L[n1].1) := (show _ = _ by
    unfold cutB
    rw [List.head?_eq_getElem?, List.getLast?_eq_getElem?, HNL.out, show n - 1 = n1 by omega, List.getElem?_eq_getElem hl0, List.getElem?_eq_getElem hl1])
  obtain ⟨x0, hx0⟩ : ∃ z, L[0] = z := ⟨_, rfl⟩
  obtain ⟨x1, hx1⟩ : ∃ z, L[n1] = z := ⟨_, rfl⟩
  rw [hx0] at hk0 HCB
  rw [hx1] at hk1 HCB
  clear hx0 hx1 hxa hr
  have CA := hide (fun w => yApart_any x0.1 x1.1 w)
  obtain ⟨q, HQ⟩ : ∃ q, Hid (cutB L = q) := ⟨_, rfl⟩
  rw [← HCB.out, HQ.out] at CA
  rw [HQ.out]
  have hnn : (n : Int) = (n1 : Int) + 1 := by omega
  have hn1n : n1 < n := by omega
  have hi1 : (n1 : Int) < (n : Int) := by omega
  have hi0 : (0 : Int) < (n : Int) := by omega
  have HNN := hide hnn
  clear hn1 hnn
  go_enter Tryd.func30, Tryd.ntmps30
  go_upto_region 1 with fail
  refine wp_region_inv Tryd.mixed (KS (fun i_ => match i_ with | 0 | 4 | 5 => .val (.slice (some ⟨ba, oa, none⟩) n cp) | 1 | 2 => .val (.pointer (some ⟨ba, oa, none⟩)) | 3 => .val (HV x0.1) | 6 => .val (.int .i64 (n : Int)) | 7 => .val (.int .i64 (n1 : Int)) | 8 | 9 => .val (.pointer (some ⟨ba, oa + n1 * 64, none⟩)) | 10 => .val (HV x1.1) | 11 | 12 => .val (.int .i64 (q : Int)) | _ => .free)) 36 rfl (by decide +kernel) (KS_mono _) ?_ ?_
  · refine AllFrom.cons (fun a' w' hg hk hd => ?_) (AllFrom.cons (fun a' w' hg hk hd => ?_) (AllFrom.cons (fun a' w' hg hk hd => ?_) (AllFrom.cons (fun a' w' hg hk hd => ?_) (AllFrom.cons (fun a' w' hg hk hd => ?_) (AllFrom.cons (fun a' w' hg hk hd => ?_) (AllFrom.cons (fun a' w' hg hk hd => ?_) (AllFrom.cons (fun a' w' hg hk hd => ?_) (AllFrom.cons (fun a' w' hg hk hd => ?_) (AllFrom.cons (fun a' w' hg hk hd => ?_) (AllFrom.cons (fun a' w' hg hk hd => ?_) (AllFrom.cons (fun a' w' hg hk hd => ?_) (AllFrom.cons (fun a' w' hg hk hd => ?_) AllFrom.nil))))))))))))
    · skip
      intro Q
      have e0 : a'.eval (.tmp 0) = .slice (some ⟨ba, oa, none⟩) n cp := hk.at 0 (by decide +kernel)
      exact wp_value _ (by simp only [execOp, e0]; rfl) (KS_mkv rfl rfl)
    · skip
      intro Q
      have e8 : a'.eval (.tmp 8) = .slice (some ⟨ba, oa, none⟩) n cp := KS_val (hd.val 0 8 (by decide +kernel)) rfl
      clear hd hk
      exact wp_value (.pointer (some ⟨ba, oa, none⟩)) (by simp only [execOp, e8]; go_simp) (KS_mkv rfl rfl)
    · skip
      intro Q
      have e9 : a'.eval (.tmp 9) = .pointer (some ⟨ba, oa, none⟩) := KS_val (hd.val 1 9 (by decide +kernel)) rfl
      clear hd hk
      exact wp_value (.pointer (some ⟨ba, oa, none⟩)) (by simp only [execOp, e9]; go_simp) (KS_mkv rfl rfl)
    · skip
      intro Q
      have e10 : a'.eval (.tmp 10) = .pointer (some ⟨ba, oa, none⟩) := KS_val (hd.val 2 10 (by decide +kernel)) rfl
      exact wp_load_row 24 _ rfl _ _ e10 (By (x0.1).1) _ (rangeAt_kept11 hk0 hba hg) Tryd.underlying24 rfl (Tryd.sizeH _) (KS_mkv rfl rfl)
    · skip
      intro Q
      have e0 : a'.eval (.tmp 0) = .slice (some ⟨ba, oa, none⟩) n cp := hk.at 0 (by decide +kernel)
      exact wp_value _ (by simp only [execOp, e0]; rfl) (KS_mkv rfl rfl)
    · skip
      intro Q
      have e0 : a'.eval (.tmp 0) = .slice (some ⟨ba, oa, none⟩) n cp := hk.at 0 (by decide +kernel)
      exact wp_value _ (by simp only [execOp, e0]; rfl) (KS_mkv rfl rfl)
    · skip
      intro Q
      have e13 : a'.eval (.tmp 13) = .slice (some ⟨ba, oa, none⟩) n cp := KS_val (hd.val 5 13 (by decide +kernel)) rfl
      clear hd hk
      exact wp_value (.int .i64 (n : Int)) (by simp only [execOp, resolve, invoke, builtin, Sem.run_bind, Sem.run_pure, Result.andThen_ok, List.map_toArray, List.map_cons, List.map_nil, e13]; go_simp) (KS_mkv rfl rfl)
    · skip
      intro Q
      have e14 : a'.eval (.tmp 14) = .int .i64 (n : Int) := KS_val (hd.val 6 14 (by decide +kernel)) rfl
      clear hd hk
      exact wp_value (.int .i64 (n1 : Int)) (by simp only [execOp, e14]; rw [HNN.out]; go_simp; first | done | omega | (rw [IntKind.wrap_i64]; omega)) (KS_mkv rfl rfl)
    · skip
      intro Q
      have e12 : a'.eval (.tmp 12) = .slice (some ⟨ba, oa, none⟩) n cp := KS_val (hd.val 4 12 (by decide +kernel)) rfl
      have e15 : a'.eval (.tmp 15) = .int .i64 (n1 : Int) := KS_val (hd.val 7 15 (by decide +kernel)) rfl
      clear hd hk
      exact wp_value (.pointer (some ⟨ba, oa + n1 * 64, none⟩)) (by simp only [execOp, e12, e15]; go_simp) (KS_mkv rfl rfl)
    · skip
      intro Q
      have e16 : a'.eval (.tmp 16) = .pointer (some ⟨ba, oa + n1 * 64, none⟩) := KS_val (hd.val 8 16 (by decide +kernel)) rfl
      clear hd hk
      exact wp_value (.pointer (some ⟨ba, oa + n1 * 64, none⟩)) (by simp only [execOp, e16]; go_simp) (KS_mkv rfl rfl)
    · skip
      intro Q
      have e17 : a'.eval (.tmp 17) = .pointer (some ⟨ba, oa + n1 * 64, none⟩) := KS_val (hd.val 9 17 (by decide +kernel)) rfl
      exact wp_load_row 24 _ rfl _ _ e17 (By (x1.1).1) _ (rangeAt_kept11 hk1 hba hg) Tryd.underlying24 rfl (Tryd.sizeH _) (KS_mkv rfl rfl)
    · skip
      intro Q
      have e11 : a'.eval (.tmp 11) = HV x0.1 := KS_val (hd.val 3 11 (by decide +kernel)) rfl
      have e18 : a'.eval (.tmp 18) = HV x1.1 := KS_val (hd.val 10 18 (by decide +kernel)) rfl
      refine wp_call 51 _ (run_enter 51 _ _ rfl (by kernel_rfl)) ?_
      simp only [List.map_toArray, List.map_nil, List.map_cons, e11, e18]
      refine (CA.out _).mono ?_
      rintro e w5 ⟨rfl, hb5⟩
      exact ⟨_, rfl, KS_mkv rfl rfl, hb5⟩
    · skip
      intro Q
      have e19 : a'.eval (.tmp 19) = .int .i64 (q : Int) := KS_val (hd.val 11 19 (by decide +kernel)) rfl
      exact wp_value _ (by simp only [execOp, e19]; rfl) (KS_mkv rfl rfl)
  · intro a' w3 hsz hdf hk hall hg
    have e8 : a'.eval (.tmp 8) = .slice (some ⟨ba, oa, none⟩) n cp := KS_val (hall 0 _ 8 rfl rfl) rfl
    have e9 : a'.eval (.tmp 9) = .pointer (some ⟨ba, oa, none⟩) := KS_val (hall 1 _ 9 rfl rfl) rfl
    have e10 : a'.eval (.tmp 10) = .pointer (some ⟨ba, oa, none⟩) := KS_val (hall 2 _ 10 rfl rfl) rfl
    have e11 : a'.eval (.tmp 11) = HV x0.1 := KS_val (hall 3 _ 11 rfl rfl) rfl
    have e12 : a'.eval (.tmp 12) = .slice (some ⟨ba, oa, none⟩) n cp := KS_val (hall 4 _ 12 rfl rfl) rfl
    have e13 : a'.eval (.tmp 13) = .slice (some ⟨ba, oa, none⟩) n cp := KS_val (hall 5 _ 13 rfl rfl) rfl
    have e14 : a'.eval (.tmp 14) = .int .i64 (n : Int) := KS_val (hall 6 _ 14 rfl rfl) rfl
    have e15 : a'.eval (.tmp 15) = .int .i64 (n1 : Int) := KS_val (hall 7 _ 15 rfl rfl) rfl
    have e16 : a'.eval (.tmp 16) = .pointer (some ⟨ba, oa + n1 * 64, none⟩) := KS_val (hall 8 _ 16 rfl rfl) rfl
    have e17 : a'.eval (.tmp 17) = .pointer (some ⟨ba, oa + n1 * 64, none⟩) := KS_val (hall 9 _ 17 rfl rfl) rfl
    have e18 : a'.eval (.tmp 18) = HV x1.1 := KS_val (hall 10 _ 18 rfl rfl) rfl
    have e19 : a'.eval (.tmp 19) = .int .i64 (q : Int) := KS_val (hall 11 _ 19 rfl rfl) rfl
    have e4 : a'.eval (.tmp 4) = .int .i64 (q : Int) := KS_val (hall 12 _ 4 rfl rfl) rfl
    have ha := act_puts 36 rfl hsz hdf hk [8, 9, 10, 11, 12, 13, 14, 15, 16, 17, 18, 19, 4] (by decide +kernel)
    simp only [puts, List.foldl_cons, List.foldl_nil, e8, e9, e10, e11, e12, e13, e14, e15, e16, e17, e18, e19, e4] at ha
    simp only [Act.put, List.setIfInBounds_toArray, List.set_cons_succ, List.set_cons_zero] at ha
    clear hall hk hsz hdf e8 e9 e10 e11 e12 e13 e14 e15 e16 e17 e18 e19 e4
    subst ha
    have L3 : Hid (Below N w w3) := (show Below _ _ _ by rw [← HN.out]; exact hg)
    clear hg
    go_wp2_with fail
    go_loopg [5, 22] (n + 1) (fun g y z wr => ∃ (i c : Nat), i ≤ n ∧ g + i = n + 1 ∧ z = .int .i64 (i : Int) ∧ y = .int .i64 (c : Int) ∧ c ≤ i ∧ Hid (c = (L.take i).countP (fun x => !(bit x.1 q))) ∧ Hid (Below N w wr))
    case atStart => exact ⟨0, 0, by omega, by omega, rfl, rfl, by omega, (show _ = _ by simp), L3⟩
    case round =>
      clear L3 hk0 hk1
      obtain ⟨i, c, hi, hgi, rfl, rfl, hci, CR, LR⟩ := hrel
      by_cases hlt : i < n
      · have hlt2 : i < L.length := by rw [HNL.out]; exact hlt
        obtain ⟨ba', oa', hsl, hba2, hxa⟩ := (HR.out.kept (LR.out.mono (Nat.le_of_eq HN.out))).nth (by omega)
        cases hsl
        have hx : wr.rangeAt ba (oa + i * 64) (IE.c L[i]) := hxa i hlt2
        obtain ⟨x, HX⟩ : ∃ x, Hid (L[i] = x) := ⟨L[i], (show L[i] = L[i] from rfl)⟩
        rw [HX.out] at hx
        clear hxa
        have q2 : (i : Int) < (n : Int) := by omega
        have q3 : ¬ n ≤ i := by omega
        obtain ⟨M, HM⟩ : ∃ M, Hid (wr.heap.size = M) := ⟨_, rfl⟩
        have hNM : N ≤ M := by rw [← HM.out, ← HN.out]; exact LR.out.size
        have HTK : Hid (L.take (i + 1) = L.take i ++ [x]) := (show _ = _ by rw [List.take_succ_eq_append_getElem hlt2, HX.out])
        have CB := hide (fun w => yBit_any x.1 (q : Int) w)
        rw [bitZ_nat] at CB
        unfold bitN at CB
        obtain ⟨s, HS⟩ : ∃ s, Hid (bit x.1 q = s) := ⟨_, rfl⟩
        rw [HS.out] at CB
        cases s with
        | true =>
          have HC2 : Hid (c = (L.take (i + 1)).countP (fun x => !(bit x.1 q))) := (show _ = _ by rw [HTK.out, List.countP_append, ← CR.out]; simp [HS.out])
          go_wp2_with (first
            | (refine wpList_load_mid rfl 77 _ rfl ba (oa + i * 64) rfl (IE.c x) _ hx Tryd.underlying77 rfl (Tryd.sizeI x) ?_)
            | (rw [HM.out]; refine wpList_store_blk rfl 77 _ _ rfl M (IE.c zi) (IE.c x) 77 rfl rfl (by rw [← HM.out]; exact Blk.new wr 77 (IE.c zi)) (by rw [IE_len, IE_len]) (Tryd.sizeI x) (IE.one x) ?_; intro w4 hb4 hu4; have L4 : Hid (Below N w w4) := (show _ from (LR.out.alloc (by rw [HM.out]; exact hNM) _).trans (hu4.below hNM (by simp [HM.out]; omega))); have rx := IEkey hb4; have HWM : Hid (M < w4.heap.size) := hb4.lt; clear hb4 hu4)
            | (refine wpList_load_mid rfl 24 _ rfl M 0 rfl (By x.1.1) _ rx Tryd.underlying24 rfl (Tryd.sizeH x.1) ?_)
            | (go_at_call 31; refine (CB.out _).mono ?_; rintro e w5 ⟨rfl, hb5⟩; have L5 : Hid (Below N w w5) := (show _ from L4.out.trans (hb5.mono (by have := HWM.out; omega))); clear hb5)
            | fail)
          go_roundg (n + 1 - (i + 1))
          case measure => omega
          case rel => exact ⟨i + 1, c, by omega, by omega, by go_num, rfl, by omega, HC2, L5⟩
        | false =>
          have HC2 : Hid (c + 1 = (L.take (i + 1)).countP (fun x => !(bit x.1 q))) := (show _ = _ by rw [HTK.out, List.countP_append, ← CR.out]; simp [HS.out])
          go_wp2_with (first
            | (refine wpList_load_mid rfl 77 _ rfl ba (oa + i * 64) rfl (IE.c x) _ hx Tryd.underlying77 rfl (Tryd.sizeI x) ?_)
            | (rw [HM.out]; refine wpList_store_blk rfl 77 _ _ rfl M (IE.c zi) (IE.c x) 77 rfl rfl (by rw [← HM.out]; exact Blk.new wr 77 (IE.c zi)) (by rw [IE_len, IE_len]) (Tryd.sizeI x) (IE.one x) ?_; intro w4 hb4 hu4; have L4 : Hid (Below N w w4) := (show _ from (LR.out.alloc (by rw [HM.out]; exact hNM) _).trans (hu4.below hNM (by simp [HM.out]; omega))); have rx := IEkey hb4; have HWM : Hid (M < w4.heap.size) := hb4.lt; clear hb4 hu4)
            | (refine wpList_load_mid rfl 24 _ rfl M 0 rfl (By x.1.1) _ rx Tryd.underlying24 rfl (Tryd.sizeH x.1) ?_)
            | (go_at_call 31; refine (CB.out _).mono ?_; rintro e w5 ⟨rfl, hb5⟩; have L5 : Hid (Below N w w5) := (show _ from L4.out.trans (hb5.mono (by have := HWM.out; omega))); clear hb5)
            | fail)
          go_roundg (n + 1 - (i + 1))
          case measure => omega
          case rel => exact ⟨i + 1, c + 1, by omega, by omega, by go_num, by go_num, by omega, HC2, L5⟩
      · obtain rfl : i = n := by omega
        have q2 : ¬ (i : Int) < (i : Int) := by omega
        have HC2 : Hid (c = cutN L) := (show _ = _ by
          unfold cutN
          rw [HQ.out, CR.out, List.take_of_length_le (by rw [HNL.out]; exact Nat.le_refl _)])
        go_wp2_with fail
        refine bodyPost_ret (results_tmp2 rfl _ _ _) rfl ?_
        rw [← HC2.out]
        exact ⟨rfl, LR.out⟩
set_option maxHeartbeats 4000000 in
set_option maxRecDepth 100000 in
theorem yRoot_n (n : Nat) : ∀ (L : List It) (v : Value) (w : World), RdG IE w v L → Srt L → L.length = n → n ≤ 1000000 → Calls Tryd.prog 32 #[v] w fun e w' => e = .returned (HV (rootP L)) ∧ Below w.heap.size w w' := by
  induction n using Nat.strongRecOn with
  | _ n ih =>
  intro L v w hr hs hL hn
  have IH := hide ih
  have HR := hide hr
  obtain ⟨a, cp, rfl⟩ := hr.slice
  have hcp := hr.cap
  have HNL := hide hL
  rw [hL] at HR hr hcp ⊢
  have HSR := hide hs
  obtain ⟨rt, HRT⟩ : ∃ z, Hid (rootP L = z) := ⟨_, rfl⟩
  rw [HRT.out]
  obtain ⟨N, HN⟩ : ∃ N, Hid (w.heap.size = N) := ⟨_, rfl⟩
  rw [HN.out]
  clear ih hL hs
  go_enter Tryd.func32, Tryd.ntmps32
  go_upto_region 1 with fail
  obtain ⟨w1, hw1⟩ : ∃ z, z = w.alloc (.cells (By zh.1).toArray 24 (0, 0)) := ⟨_, rfl⟩
  change Code.wp _ _ _ _ (w.alloc (.cells (By zh.1).toArray 24 (0, 0)))
  rw [← hw1, HN.out]
  have V1 : Hid (Blk w1 N 24 (By zh.1)) := (show Blk _ _ _ _ by rw [hw1, ← HN.out]; exact Blk.new w 24 (By zh.1))
  have L1 : Hid (Below N w w1) := (show Below _ _ _ by rw [hw1, ← HN.out]; exact (Below.refl _ _).alloc (Nat.le_refl _) _)
  clear hw1
  have R1 := hide (HR.out.kept (L1.out.mono (Nat.le_of_eq HN.out)))
  by_cases h0 : n = 0
  · subst h0
    have e1 : Hid (rt = ntH) := (show _ = _ by rw [← HRT.out, List.eq_nil_of_length_eq_zero HNL.out]; rfl)
    go_wp2_with fail
    refine (rnothing_any _).mono ?_
    rintro e w2 ⟨rfl, hb2⟩
    have V2 := hide (V1.out.kept hb2)
    have L2 : Hid (Below N w w2) := (show _ from L1.out.trans (hb2.mono (Nat.le_of_lt V1.out.lt)))
    clear hb2
    go_wp2_with (first
      | (refine wpList_store_blk rfl 24 _ _ rfl N (By zh.1) (By ntH.1) 24 rfl rfl V2.out (by rw [By_len, By_len]) (Tryd.sizeH ntH) (By_one _) ?_; intro w7 hb7 hu7)
      | fail)
    refine bodyPost_ret (ret_hash rfl _ _ N ntH rfl hb7) rfl ⟨by rw [e1.out], ?_⟩
    exact L2.out.trans (hu7.below (Nat.le_refl _) (Nat.le_of_lt V2.out.lt))
  · by_cases h1 : n = 1
    · subst h1
      obtain ⟨ba, oa, rfl, hba, hxa⟩ := R1.out.nth (by omega)
      have hl0 : 0 < L.length := by rw [HNL.out]; decide
      have hk0 : w1.rangeAt ba oa (By L[0].1.1) := by have := IEk (hxa 0 hl0); simpa using this
      have hv0 : w1.rangeAt ba (oa + 32) (By L[0].2.1) := by have := IEv (hxa 0 hl0); simpa using this
      have e1 : Hid (rt = itH L[0].1 L[0].2) := (show _ = _ by
        rw [← HRT.out]
        match L, HNL.out with
        | [x], _ => rfl)
      obtain ⟨x0, hx0⟩ : ∃ z, L[0] = z := ⟨_, rfl⟩
      rw [hx0] at hk0 hv0 e1
      clear hx0 hxa
      obtain ⟨n, hn1⟩ : ∃ z : Nat, Hid (z = 1) := ⟨1, rfl⟩
      go_upto_region 5 with fail
      refine wp_region_tail Tryd.mixed (KS (fun i_ => match i_ with | 0 | 4 => .val (.slice (some ⟨ba, oa, none⟩) 1 cp) | 1 | 2 | 5 => .val (.pointer (some ⟨ba, oa, none⟩)) | 3 => .val (HV x0.1) | 6 => .val (.pointer (some ⟨ba, oa + 32, none⟩)) | 7 => .val (HV x0.2) | 8 => .val (HV (itH x0.1 x0.2)) | _ => .free)) 36 rfl (by decide +kernel) 9 _ rfl (by decide +kernel) (KS_mono _) ?_ ?_
      · refine AllFrom.cons (fun a' w' hg hk hd => ?_) (AllFrom.cons (fun a' w' hg hk hd => ?_) (AllFrom.cons (fun a' w' hg hk hd => ?_) (AllFrom.cons (fun a' w' hg hk hd => ?_) (AllFrom.cons (fun a' w' hg hk hd => ?_) (AllFrom.cons (fun a' w' hg hk hd => ?_) (AllFrom.cons (fun a' w' hg hk hd => ?_) (AllFrom.cons (fun a' w' hg hk hd => ?_) (AllFrom.cons (fun a' w' hg hk hd => ?_) AllFrom.nil))))))))
        · skip
          intro Q
          have e0 : a'.eval (.tmp 0) = .slice (some ⟨ba, oa, none⟩) 1 cp := hk.at 0 (by decide +kernel)
          exact wp_value _ (by simp only [execOp, e0]; rfl) (KS_mkv rfl rfl)
        · skip
          intro Q
          have e12 : a'.eval (.tmp 12) = .slice (some ⟨ba, oa, none⟩) 1 cp := KS_val (hd.val 0 12 (by decide +kernel)) rfl
          clear hd hk
          exact wp_value (.pointer (some ⟨ba, oa, none⟩)) (by simp only [execOp, e12]; go_simp) (KS_mkv rfl rfl)
        · skip
          intro Q
          have e13 : a'.eval (.tmp 13) = .pointer (some ⟨ba, oa, none⟩) := KS_val (hd.val 1 13 (by decide +kernel)) rfl
          clear hd hk
          exact wp_value (.pointer (some ⟨ba, oa, none⟩)) (by simp only [execOp, e13]; go_simp) (KS_mkv rfl rfl)
        · skip
          intro Q
          have e14 : a'.eval (.tmp 14) = .pointer (some ⟨ba, oa, none⟩) := KS_val (hd.val 2 14 (by decide +kernel)) rfl
          exact wp_load_row 24 _ rfl _ _ e14 (By (x0.1).1) _ (rangeAt_kept11 hk0 hba hg) Tryd.underlying24 rfl (Tryd.sizeH _) (KS_mkv rfl rfl)
        · skip
          intro Q
          have e0 : a'.eval (.tmp 0) = .slice (some ⟨ba, oa, none⟩) 1 cp := hk.at 0 (by decide +kernel)
          exact wp_value _ (by simp only [execOp, e0]; rfl) (KS_mkv rfl rfl)
        · skip
          intro Q
          have e16 : a'.eval (.tmp 16) = .slice (some ⟨ba, oa, none⟩) 1 cp := KS_val (hd.val 4 16 (by decide +kernel)) rfl
          clear hd hk
          exact wp_value (.pointer (some ⟨ba, oa, none⟩)) (by simp only [execOp, e16]; go_simp) (KS_mkv rfl rfl)
        · skip
          intro Q
          have e17 : a'.eval (.tmp 17) = .pointer (some ⟨ba, oa, none⟩) := KS_val (hd.val 5 17 (by decide +kernel)) rfl
          clear hd hk
          exact wp_value (.pointer (some ⟨ba, oa + 32, none⟩)) (by simp only [execOp, e17]; go_simp) (KS_mkv rfl rfl)
        · skip
          intro Q
          have e18 : a'.eval (.tmp 18) = .pointer (some ⟨ba, oa + 32, none⟩) := KS_val (hd.val 6 18 (by decide +kernel)) rfl
          exact wp_load_row 24 _ rfl _ _ e18 (By (x0.2).1) _ (rangeAt_kept11 hv0 hba hg) Tryd.underlying24 rfl (Tryd.sizeH _) (KS_mkv rfl rfl)
        · skip
          intro Q
          have e15 : a'.eval (.tmp 15) = HV x0.1 := KS_val (hd.val 3 15 (by decide +kernel)) rfl
          have e19 : a'.eval (.tmp 19) = HV x0.2 := KS_val (hd.val 7 19 (by decide +kernel)) rfl
          refine wp_call 39 _ (run_enter 39 _ _ rfl (by kernel_rfl)) ?_
          simp only [List.map_toArray, List.map_nil, List.map_cons, e15, e19]
          refine (ritem_any _ _ _).mono ?_
          rintro e w5 ⟨rfl, hb5⟩
          exact ⟨_, rfl, KS_mkv rfl rfl, hb5⟩
      · intro a' w3 hsz hdf hk hall hg
        have e20 : a'.eval (.tmp 20) = HV (itH x0.1 x0.2) := KS_val (hall 8 _ 20 (by decide) rfl rfl) rfl
        have e2 : a'.eval (.tmp 2) = .pointer (some ⟨N, 0, none⟩) := hk.at 2 (by decide +kernel)
        have V3 := V1.out.kept hg
        have L3 : Below N w w3 := L1.out.trans (hg.mono (Nat.le_of_lt V1.out.lt))
        refine wp_store_blk 24 (.tmp 2) (.tmp 20) rfl N (By zh.1) (By (itH x0.1 x0.2).1) 24 e2 e20 V3 (by rw [By_len, By_len]) (Tryd.sizeH (itH x0.1 x0.2)) (By_one _) ?_
        intro w7 hb7 hu7
        go_wp2
        refine bodyPost_ret (ret_hash rfl _ _ N (itH x0.1 x0.2) ?_ hb7) ?_ ⟨by rw [e1.out], ?_⟩
        · exact e2
        · exact hdf
        exact L3.trans (hu7.below (Nat.le_refl _) (by have := V3.lt; omega))
    · have h2 : 2 ≤ n := by omega
      have hcut := HSR.out.cut (by rw [HNL.out]; exact h2)
      rw [HNL.out] at hcut
      have HROOT := hide (rootP_two HSR.out (by rw [HNL.out]; exact h2))
      have CC := hide (yCut_any R1.out (by rw [HNL.out]; exact hn) (by rw [HNL.out]; omega))
      generalize cutB L = q at *
      obtain ⟨c, HC⟩ : ∃ c, Hid (cutN L = c) := ⟨_, rfl⟩
      rw [HC.out] at hcut HROOT CC
      have q0 : ¬ (n : Int) = 0 := by omega
      have q1 : ¬ (n : Int) = 1 := by omega
      go_upto_region 7 with (first
        | (go_at_call 30; refine CC.out.mono ?_; rintro e w2 ⟨rfl, hb2⟩; have V2 := hide (V1.out.kept hb2); have R2 := hide (R1.out.kept hb2); have L2 : Hid (Below N w w2) := (show _ from L1.out.trans (hb2.mono (Nat.le_of_lt V1.out.lt))); clear hb2)
        | fail)
      obtain ⟨hs1, hs1r⟩ := slice_G_to (E := IE) (P := Tryd.prog) Tryd.underlying29 Tryd.sizeI' a n cp c (by omega) (by omega)
      obtain ⟨a2, hs2, -, hs2r⟩ := slice_G (E := IE) (P := Tryd.prog) Tryd.underlying29 Tryd.sizeI' a n cp c (by omega) (by omega)
      have RT := hide (hs1r _ _ R2.out)
      have RD := hide (hs2r _ _ R2.out)
      have HTL : Hid ((L.take c).length = c) := (show _ = _ by rw [List.length_take, HNL.out]; omega)
      have HDL : Hid ((L.drop c).length = n - c) := (show _ = _ by rw [List.length_drop, HNL.out])
      have HST : Hid (Srt (L.take c)) := HSR.out.sub (List.take_sublist _ _)
      have HSD : Hid (Srt (L.drop c)) := HSR.out.sub (List.drop_sublist _ _)
      have e1 : Hid (rt = fkH q (rootP (L.take c)) (rootP (L.drop c))) := (show _ = _ by rw [← HRT.out]; exact HROOT.out)
      clear hs1r hs2r
      refine wp_region_tail Tryd.mixed (KS (fun i_ => match i_ with | 0 => .val (.int .i64 (q : Int)) | 1 | 5 => .val (.slice a n cp) | 2 | 6 => .val (.int .i64 (c : Int)) | 3 => .val (.slice a c cp) | 4 => .val (HV (rootP (L.take c))) | 7 => .val (.slice a2 (n - c) (cp - c)) | 8 => .val (HV (rootP (L.drop c))) | 9 => .val (HV (fkH q (rootP (L.take c)) (rootP (L.drop c)))) | _ => .free)) 36 rfl (by decide +kernel) 10 _ rfl (by decide +kernel) (KS_mono _) ?_ ?_
      · refine AllFrom.cons (fun a' w' hg hk hd => ?_) (AllFrom.cons (fun a' w' hg hk hd => ?_) (AllFrom.cons (fun a' w' hg hk hd => ?_) (AllFrom.cons (fun a' w' hg hk hd => ?_) (AllFrom.cons (fun a' w' hg hk hd => ?_) (AllFrom.cons (fun a' w' hg hk hd => ?_) (AllFrom.cons (fun a' w' hg hk hd => ?_) (AllFrom.cons (fun a' w' hg hk hd => ?_) (AllFrom.cons (fun a' w' hg hk hd => ?_) (AllFrom.cons (fun a' w' hg hk hd => ?_) AllFrom.nil)))))))))
        · skip
          intro Q
          have e3 : a'.eval (.tmp 3) = .int .i64 (q : Int) := hk.at 3 (by decide +kernel)
          exact wp_value _ (by simp only [execOp, e3]; rfl) (KS_mkv rfl rfl)
        · skip
          intro Q
          have e0 : a'.eval (.tmp 0) = .slice a n cp := hk.at 0 (by decide +kernel)
          exact wp_value _ (by simp only [execOp, e0]; rfl) (KS_mkv rfl rfl)
        · skip
          intro Q
          have e4 : a'.eval (.tmp 4) = .int .i64 (c : Int) := hk.at 4 (by decide +kernel)
          exact wp_value _ (by simp only [execOp, e4]; rfl) (KS_mkv rfl rfl)
        · skip
          intro Q
          have e27 : a'.eval (.tmp 27) = .slice a n cp := KS_val (hd.val 1 27 (by decide +kernel)) rfl
          have e28 : a'.eval (.tmp 28) = .int .i64 (c : Int) := KS_val (hd.val 2 28 (by decide +kernel)) rfl
          exact wp_value _ (by simp only [execOp, e27, e28, hs1, Sem.run_bind, Result.andThen_ok, Option.map_none, Option.map_some]; rfl) (KS_mkv rfl rfl)
        · skip
          intro Q
          have e29 : a'.eval (.tmp 29) = .slice a c cp := KS_val (hd.val 3 29 (by decide +kernel)) rfl
          refine wp_call 32 _ (run_enter 32 _ _ rfl (by kernel_rfl)) ?_
          simp only [List.map_toArray, List.map_nil, List.map_cons, e29]
          refine (IH.out c (by omega) (L.take c) _ _ (RT.out.kept hg) HST.out HTL.out (by omega)).mono ?_
          rintro e w5 ⟨rfl, hb5⟩
          exact ⟨_, rfl, KS_mkv rfl rfl, hb5⟩
        · skip
          intro Q
          have e0 : a'.eval (.tmp 0) = .slice a n cp := hk.at 0 (by decide +kernel)
          exact wp_value _ (by simp only [execOp, e0]; rfl) (KS_mkv rfl rfl)
        · skip
          intro Q
          have e4 : a'.eval (.tmp 4) = .int .i64 (c : Int) := hk.at 4 (by decide +kernel)
          exact wp_value _ (by simp only [execOp, e4]; rfl) (KS_mkv rfl rfl)
        · skip
          intro Q
          have e31 : a'.eval (.tmp 31) = .slice a n cp := KS_val (hd.val 5 31 (by decide +kernel)) rfl
          have e32 : a'.eval (.tmp 32) = .int .i64 (c : Int) := KS_val (hd.val 6 32 (by decide +kernel)) rfl
          exact wp_value _ (by simp only [execOp, e31, e32, hs2, Sem.run_bind, Result.andThen_ok, Option.map_none, Option.map_some]; rfl) (KS_mkv rfl rfl)
        · skip
          intro Q
          have e33 : a'.eval (.tmp 33) = .slice a2 (n - c) (cp - c) := KS_val (hd.val 7 33 (by decide +kernel)) rfl
          refine wp_call 32 _ (run_enter 32 _ _ rfl (by kernel_rfl)) ?_
          simp only [List.map_toArray, List.map_nil, List.map_cons, e33]
          refine (IH.out (n - c) (by omega) (L.drop c) _ _ (RD.out.kept hg) HSD.out HDL.out (by omega)).mono ?_
          rintro e w5 ⟨rfl, hb5⟩
          exact ⟨_, rfl, KS_mkv rfl rfl, hb5⟩
        · skip
          intro Q
          have e26 : a'.eval (.tmp 26) = .int .i64 (q : Int) := KS_val (hd.val 0 26 (by decide +kernel)) rfl
          have e30 : a'.eval (.tmp 30) = HV (rootP (L.take c)) := KS_val (hd.val 4 30 (by decide +kernel)) rfl
          have e34 : a'.eval (.tmp 34) = HV (rootP (L.drop c)) := KS_val (hd.val 8 34 (by decide +kernel)) rfl
          refine wp_call 40 _ (run_enter 40 _ _ rfl (by kernel_rfl)) ?_
          simp only [List.map_toArray, List.map_nil, List.map_cons, e26, e30, e34]
          refine (rfork_any q _ _ _).mono ?_
          rintro e w5 ⟨rfl, hb5⟩
          exact ⟨_, rfl, KS_mkv rfl rfl, hb5⟩
      · intro a' w3 hsz hdf hk hall hg
        have e35 : a'.eval (.tmp 35) = HV (fkH q (rootP (L.take c)) (rootP (L.drop c))) := KS_val (hall 9 _ 35 (by decide) rfl rfl) rfl
        have e2 : a'.eval (.tmp 2) = .pointer (some ⟨N, 0, none⟩) := hk.at 2 (by decide +kernel)
        have V3 := V2.out.kept hg
        have L3 : Below N w w3 := L2.out.trans (hg.mono (Nat.le_of_lt V2.out.lt))
        refine wp_store_blk 24 (.tmp 2) (.tmp 35) rfl N (By zh.1) (By (fkH q (rootP (L.take c)) (rootP (L.drop c))).1) 24 e2 e35 V3 (by rw [By_len, By_len]) (Tryd.sizeH (fkH q (rootP (L.take c)) (rootP (L.drop c)))) (By_one _) ?_
        intro w7 hb7 hu7
        go_wp2
        refine bodyPost_ret (ret_hash rfl _ _ N (fkH q (rootP (L.take c)) (rootP (L.drop c))) ?_ hb7) ?_ ⟨by rw [e1.out], ?_⟩
        · exact e2
        · exact hdf
        exact L3.trans (hu7.below (Nat.le_refl _) (by have := V3.lt; omega))
theorem yRoot_any {w : World} {v : Value} {L : List It} (hr : RdG IE w v L) (hs : Srt L) (hn : L.length ≤ 1000000) : Calls Tryd.prog 32 #[v] w fun e w' => e = .returned (HV (rootP L)) ∧ Below w.heap.size w w' := yRoot_n L.length L v w hr hs rfl hn
#print axioms yCut_any
#print axioms yRoot_any
end Go.Proofs.YtooffljimdklfaaDoor

/-
  The laws' same and made: what the calls do.
-/
namespace Go.Proofs.YtooffljimdklfaaDoor
open Go.RowKit
theorem eqI (x y : It) (W : World) : (Op.equalIn 10000 77 (.agg (IE.c x).toArray) (.agg (IE.c y).toArray)).run Tryd.prog W = .ok (decide (x = y)) W := by
  have c0 : ∀ s : It, ((IE.c s).drop 0).take 32 = By s.1.1 := fun s => by
    rw [List.drop_zero]; exact List.take_left' (By_len s.1)
  have c1 : ∀ s : It, ((IE.c s).drop 32).take 32 = By s.2.1 := fun s => by
    show ((By s.1.1 ++ By s.2.1).drop 32).take 32 = By s.2.1
    rw [List.drop_left' (By_len s.1), List.take_of_length_le (by rw [By_len]; exact Nat.le_refl _)]
  have e1 := eq24' x.1.1 y.1.1 x.1.2 y.1.2
  have e2 := eq24' x.2.1 y.2.1 x.2.2 y.2.2
  rw [run_equalIn_agg W 9999 77 _ _ (by kernel_rfl) (by kernel_rfl)]
  simp only [Program.fieldsOf, Tryd.underlying77]
  simp only [Op.eqFields, ne_eq, String.reduceEq, not_false_eq_true, if_true, Sem.run_bind, part24, c0, Result.andThen_ok, e1]
  obtain ⟨⟨xk, hxk⟩, ⟨xv, hxv⟩⟩ := x
  obtain ⟨⟨yk, hyk⟩, ⟨yv, hyv⟩⟩ := y
  simp only at e2 ⊢
  cases h1 : (xk == yk) with
  | false =>
    have : ¬ xk = yk := by simpa using h1
    simp [this]
  | true =>
    have h1' : xk = yk := by simpa using h1
    simp only [Bool.not_true, Bool.false_eq_true, if_false, Sem.run_bind, part24, c1, Result.andThen_ok, e2]
    cases h2 : (xv == yv) with
    | false =>
      have : ¬ xv = yv := by simpa using h2
      simp [this]
    | true =>
      have h2' : xv = yv := by simpa using h2
      simp [h1', h2']
theorem neqI (x y : It) (W : World) : (binOp .neq 77 (.agg (IE.c x).toArray) (.agg (IE.c y).toArray)).run Tryd.prog W = .ok (.bool (!decide (x = y))) W := by
  rw [run_neq_struct, eqI]
  rfl
/-- Acts as cells. -/
def AE : Enc (Hs × Hs × Bool) := ⟨fun x => By x.1.1 ++ (By x.2.1.1 ++ [.bool x.2.2]), 65, fun x => by rw [List.length_append, List.length_append, By_len, By_len]; rfl, fun x u hu => by
  rcases List.mem_append.1 hu with h | h
  · exact By_one _ u h
  · rcases List.mem_append.1 h with h | h
    · exact By_one _ u h
    · simp at h; rw [h]; rfl⟩
def za : Hs × Hs × Bool := (zh, zh, false)
theorem AE_len (x : Hs × Hs × Bool) : (AE.c x).length = 65 := AE.len x
theorem AEkey {w : World} {M : Nat} {T : TypeId} {x : Hs × Hs × Bool} (h : Blk w M T (AE.c x)) : w.rangeAt M 0 (By x.1.1) := h.range 0 _ fun j u hj => by
  have hl := (List.getElem?_eq_some_iff.1 hj).1
  show (By x.1.1 ++ (By x.2.1.1 ++ [.bool x.2.2]))[0 + j]? = some u
  rw [Nat.zero_add, List.getElem?_append_left hl]
  exact hj
theorem AEval {w : World} {M : Nat} {T : TypeId} {x : Hs × Hs × Bool} (h : Blk w M T (AE.c x)) : w.rangeAt M 32 (By x.2.1.1) := h.range 32 _ fun j u hj => by
  have hl := (List.getElem?_eq_some_iff.1 hj).1
  show (By x.1.1 ++ (By x.2.1.1 ++ [.bool x.2.2]))[32 + j]? = some u
  rw [List.getElem?_append_right (by rw [By_len]; omega), By_len, Nat.add_sub_cancel_left, List.getElem?_append_left hl]
  exact hj
theorem AEdrop {w : World} {M : Nat} {T : TypeId} {x : Hs × Hs × Bool} (h : Blk w M T (AE.c x)) : w.cell? ⟨M, 64, none⟩ = some (.bool x.2.2) := h.cell (by
  show (By x.1.1 ++ (By x.2.1.1 ++ [.bool x.2.2]))[64]? = _
  rw [List.getElem?_append_right (by rw [By_len]; decide), By_len, List.getElem?_append_right (by rw [By_len]; decide), By_len]
  rfl)
end Go.Proofs.YtooffljimdklfaaDoor
