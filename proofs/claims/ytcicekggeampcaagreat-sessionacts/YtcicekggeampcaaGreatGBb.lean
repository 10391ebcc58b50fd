/-
  Texts that ride together: BfV BfQ BfR.
-/
import Derived.Test.YtcicekggeampcaaGreatGQ
import Derived.Test.YtcicekggeampcaaGreatGBa
import Derived.Sort.MapsRangeIn
/-
  maps.Values over pairs: what is handed to whatever loop goes over it.
-/
namespace Go.Proofs.YtcicekggeampcaaGreat
open Go.RowKit Go.Shelf
attribute [local go_sem] Oper.semAt_some
theorem semAt_load9 {r : Option Nat} {ρ : Operand → Value} {op : Oper} {ty : TypeId} {x : Operand} (ho : op.op = .load ty x) : op.semAt r ρ = execOp ρ op := by
  cases r with
  | none => rfl
  | some l => exact Oper.semAt_some l ρ op (by rw [ho]; intro c h; cases h)
theorem semAt_store9 {r : Option Nat} {ρ : Operand → Value} {op : Oper} {ty : TypeId} {x y : Operand} (ho : op.op = .store ty x y) : op.semAt r ρ = execOp ρ op := by
  cases r with
  | none => rfl
  | some l => exact Oper.semAt_some l ρ op (by rw [ho]; intro c h; cases h)
/-- A whole array or struct is loaded, in a walk inside a fence. -/
theorem wpListIn_load_row9 {F : Fence} {n : Nat} {P : Program} {w : World} {ops : Array Oper} {rest : List Oper} {op : Oper} {a : Act} {Q : Exit → Act → World → Prop} (hgd : op.guard = none) (ty : TypeId) (x : Operand) (ho : op.op = .load ty x)
    (b o : Nat) (hx : a.eval x = .pointer (some ⟨b, o, none⟩)) (cs : List Value) (d : TypeDesc) (hc : w.rangeAt b o cs)
    (hu : P.underlying ty = some d) (hd : d.isRow = true) (hi : (P.info? ty).map (·.size) = some cs.length)
    (h : wpListIn F n P ops Q rest (a.put op.dst (.agg cs.toArray)) w) : wpListIn F n P ops Q (op :: rest) a w := by
  refine wpListIn_plain hgd fun K hK => ⟨fun f hf => ?_, ?_⟩
  · simp [Oper.about, ho] at hf
  · rw [semAt_load9 ho]
    simp only [execOp, ho, hx, Sem.run_bind, Sem.run_pure, Result.andThen_ok, run_loadAt_mid w b o ty cs d hc hu hd hi]
    exact hK _ _ h
theorem size_setCells (b : Nat) : ∀ (ds : List Value) (o : Nat) (w : World), (w.setCells b o ds).heap.size = w.heap.size
  | [], _, _ => rfl
  | d :: ds, o, w => by rw [World.setCells, size_setCells b ds (o + 1)]; simp
/-- A whole array or struct is stored over a block, in a walk inside a fence. -/
theorem wpListIn_store_blk {F : Fence} {n : Nat} {P : Program} {w : World} {ops : Array Oper} {rest : List Oper} {op : Oper} {a : Act} {Q : Exit → Act → World → Prop} (hgd : op.guard = none) (ty : TypeId) (x y : Operand) (ho : op.op = .store ty x y)
    (b : Nat) (cs ds : List Value) (T : TypeId) (hx : a.eval x = .pointer (some ⟨b, 0, none⟩)) (hy : a.eval y = .agg ds.toArray) (hB : Blk w b T cs) (hl : ds.length = cs.length)
    (hi : (P.info? ty).map (·.size) = some ds.length) (h1 : ∀ u ∈ ds, u.oneCell' = true)
    (h : ∀ w', Blk w' b T ds → But b w w' → w'.heap.size = w.heap.size → wpListIn F n P ops Q rest (a.put op.dst undef) w') : wpListIn F n P ops Q (op :: rest) a w := by
  refine wpListIn_plain hgd fun K hK => ⟨fun f hf => ?_, ?_⟩
  · simp [Oper.about, ho] at hf
  · have t0 := hB.there 0 ds.length (by omega)
    rw [semAt_store9 ho]
    simp only [execOp, ho, hx, hy, Sem.run_bind, Sem.run_pure, Result.andThen_ok, run_storeAt_mid w b 0 ty ds.toArray (by simpa using t0) (by simpa using hi) (all_one h1)]
    refine hK _ _ (h _ ?_ (But.setCells b _ 0 w) (size_setCells _ _ _ _))
    have := Blk.over ds hB 0 (by omega)
    rwa [over_all _ _ hl.symm] at this
/-- A call in a walk at the wide fence. -/
theorem wide_call {P : Program} {n m f : Nat} {args : Array Value} {w : World} {R R' : Ending → World → Prop} (h : Calls P f args w R) (hm : ∀ e w', R e w' → R' e w') :
    Fence.wide.fn f ∧ (Fence.wide.depth.isSome = true → 1 ≤ n) ∧ CallsIn Fence.wide m P f args w R' :=
  ⟨trivial, fun h => by simp [Fence.wide] at h, (callsIn_wide.2 h).mono hm⟩
/-- What is still to come. -/
def leftP (L : List Pr) (left : Lit → Bool) : List Pr := L.filter fun p => left (kS p.1)
theorem left_cons (q : Pr) (L : List Pr) (t : Lit → Bool) : leftP (q :: L) t = if t (kS q.1) = true then q :: leftP L t else leftP L t := by unfold leftP; rw [List.filter_cons]
theorem left_step : ∀ {L : List Pr} {left : Lit → Bool} {c : Pr}, Bs L → c ∈ L → left (kS c.1) = true → (leftP L left).Perm (c :: leftP L (fun z => left z && !z.sameKey (kS c.1)))
  | [], _, _, _, h, _ => by cases h
  | q :: L, left, c, hs, hm, hl => by
    obtain ⟨h1, h2⟩ := List.pairwise_cons.1 hs
    have hk : ∀ p : Pr, (fun z => left z && !z.sameKey (kS c.1)) (kS p.1) = (left (kS p.1) && !decide (p.1 = c.1)) := fun p => by
      show (left (kS p.1) && !(kS p.1).sameKey (kS c.1)) = _
      rw [kS_same]
    rcases List.mem_cons.1 hm with rfl | hm
    · have e : leftP L (fun z => left z && !z.sameKey (kS c.1)) = leftP L left := by
        unfold leftP
        refine List.filter_congr fun p hp => ?_
        rw [hk, decide_eq_false (lt_ne (h1 p hp)).symm]
        simp
      rw [left_cons, left_cons, if_pos hl, if_neg (by rw [kS_same]; simp), e]
    · have ih := left_step (left := left) h2 hm hl
      have hne : q.1 ≠ c.1 := lt_ne (h1 c hm)
      rw [left_cons, left_cons]
      cases hq : left (kS q.1) with
      | true =>
        rw [if_pos rfl, if_pos (by rw [kS_same, decide_eq_false hne]; rfl)]
        exact (ih.cons q).trans (List.Perm.swap _ _ _)
      | false =>
        rw [if_neg (by simp), if_neg (by simp)]
        exact ih
theorem grown_put {X Y : World} {r : Nat} (h : X.grownBy Y (some r)) (hr : r < X.heap.size) : ∃ o, Below (X.putObj r o).heap.size (X.putObj r o) Y := by
  have hry : r < Y.heap.size := Nat.lt_of_lt_of_le hr h.size
  refine ⟨Y.heap[r], ⟨h.os, h.tape, h.output, by simpa using h.size, fun k hk => ?_⟩⟩
  have hk' : k < X.heap.size := by simpa using hk
  by_cases e : k = r
  · subst e
    rw [World.putObj_heap_same hr, Array.getElem?_eq_getElem hry]
  · rw [World.putObj_heap_other e]
    exact h.block k hk' (fun h => e (by cases h; rfl))
theorem ranges_chg {X Y : World} {P : Program} {k : TypeId} {R : Value → Option (DataW Unit × List MemPlace)} {b r n : Nat} {D : DataW Unit} {left : Lit → Bool} {cnt : Nat} (h : X.ranges P k R b r n D left cnt) {F : Nat → Prop} (hc : Chg F X Y) (hb : ¬ F b) (hr : ¬ F r) : Y.ranges P k R b r n D left cnt := by
  obtain ⟨es, clock, since, seen, c0, h1, h2, h3, h4, h5, h6⟩ := h
  exact ⟨es, clock, since, seen, c0, (hc.block b (Array.getElem?_eq_some_iff.1 h1).1 hb).trans h1, h2, h3, h4, (hc.block r (Array.getElem?_eq_some_iff.1 h5).1 hr).trans h5, h6⟩
theorem ranges_iter {X : World} {P : Program} {k : TypeId} {R : Value → Option (DataW Unit × List MemPlace)} {b r n : Nat} {D : DataW Unit} {left : Lit → Bool} {cnt : Nat} (h : X.ranges P k R b r n D left cnt) : ∃ o, X.heap[r]? = some o ∧ o.isCells = false := by
  obtain ⟨es, clock, since, seen, c0, h1, h2, h3, h4, h5, h6⟩ := h
  exact ⟨_, h5, rfl⟩
/-- A pair that the walk does not take apart. -/
structure Bx where
  p : Pr
def vlV (p : Pr) : Array Value := #[.agg (PC p).toArray]
set_option maxRecDepth 100000 in
set_option maxHeartbeats 4000000 in
theorem values1_hands {E M : Nat} {L : List Pr} (w : World) (hbox : Blk w E 128 [.map (some M)]) (hmp : MapP w M L) (hs : Bs L) {G : Nat → Prop} (hG : ∀ k, G k → k < w.heap.size ∧ k ≠ E ∧ k ≠ M) :
    Hands3 Tryz.prog 100 #[PT E] vlV (fun pre _ => pre.length < L.length) (fun xs => xs.Perm L) G w := by
  intro l J Jx W hW hl1 hl2 h0 hJ hJx hJp hJxp hY
  have BX := hbox.kept hW
  have hMlt : M < W.heap.size := Nat.lt_of_lt_of_le hmp.lt hW.size
  have hMw : M < w.heap.size := hmp.lt
  obtain ⟨DD, hown, hsz, hhas, hat⟩ := hmp.chg (F := fun _ => False) (Chg.of_below hW) id
  have c0 := BX.cell (j := 0) rfl
  have hWs := hW.size
  obtain ⟨r, HRr⟩ : ∃ r, Hid (W.heap.size = r) := ⟨_, rfl⟩
  have H0 := hide h0
  have HJ := hide hJ
  have HJX := hide hJx
  have HJP := hide hJp
  have HY := hide hY
  have HOWN := hide hown
  have HSZ := hide hsz
  have HHAS := hide hhas
  have HAT := hide hat
  have HG := hide hG
  have HS := hide hs
  clear hbox hmp h0 hJ hJx hJp hJxp hY hW BX hown hsz hhas hat hG hs
  obtain ⟨N0, -⟩ : ∃ n : Nat, True := ⟨9, trivial⟩
  refine (callsIn_wide (n := N0)).1 ?_
  refine callsIn_of_wp Tryz.func100 rfl trivial ?_ rfl
  simp only [Tryz.ntmps100, List.size_toArray, List.length_cons, List.length_nil, Nat.reduceAdd, Nat.reduceSub, Array.replicate_succ, Array.replicate_zero, List.push_toArray, List.append_toArray, List.nil_append, List.cons_append]
  gi_wp2_with (first
    | (gi_at_range; refine wpListIn_range_own _ rfl _ 128 rfl 9 51 keyed9 Tryz.underlying128 _ M _ _ rfl HOWN.out ?_; intro w0 hrg0 hg0 hs0)
    | fail)
  rw [HRr.out] at hrg0 hs0 ⊢
  have hB0 : Below W.heap.size W w0 := (Below.refl _ W).grown hg0 (Nat.le_refl _) (fun k hk => by cases hk)
  obtain ⟨B, HB⟩ : ∃ B, Hid (w0.heap.size = B) := ⟨_, rfl⟩
  have hBr : B = r + 1 := by rw [← HB.out]; exact hs0
  have J0 := H0.out w0 hB0
  rw [HB.out] at J0
  have HJ0 := hide J0
  have RG0 := hide hrg0
  clear hg0 hs0 hB0 J0 hrg0
  gi_loopw [4] (fun _ wr => ∃ (left : Lit → Bool) (cnt : Nat) (pre : List Pr), Hid (wr.ranges Tryz.prog 9 prE M r L.length DD left cnt) ∧ Hid ((pre ++ leftP L left).Perm L) ∧ Hid (J B pre wr) ∧ Hid (B ≤ wr.heap.size))
    (fun _ wr => wr.rangeLeft M r)
  case atStart =>
    refine ⟨Maps.has DD, Maps.size DD, [], RG0, ?_, HJ0, (show _ ≤ _ from Nat.le_of_eq HB.out.symm)⟩
    show List.Perm _ _
    rw [List.nil_append]
    unfold leftP
    rw [List.filter_eq_self.2 (fun p hp => by rw [HHAS.out, getB_mem HS.out hp]; rfl)]
  case round =>
    obtain ⟨left, cnt, pre, RG, HP, HJr, HBs⟩ := hrel
    have hz := Zpair
    gi_wp2_with (first
      | (gi_at_next; refine wpListIn_next_ranges _ rfl _ rfl 9 keyed9 prE Value.string (fun b : Bx => .agg (PC b.p).toArray) (fun key kl hk => by obtain ⟨k, h1, -⟩ := key9_inv hk; exact ⟨k, h1⟩) (fun v y hv => by obtain ⟨p, h1, -⟩ := prE_inv hv; exact ⟨⟨p⟩, h1⟩) M r L.length DD left cnt rfl RG.out ?_ ?_)
      | fail)
    · intro _ hl0
      have HQ : Hid (pre.Perm L) := (show List.Perm _ _ by
        have := HP.out
        rwa [show leftP L left = [] from List.filter_eq_nil_iff.2 (fun p _ => by rw [hl0]; simp), List.append_nil] at this)
      clear hl0
      gi_wp2_with fail
      refine bodyPost_end (results_none rfl _ _ _) rfl ?_
      exact ⟨⟨_, rfl⟩, .inl ⟨B, pre, HQ.out, HJr.out⟩⟩
    · intro k ⟨c⟩ kl y1 y2 w2 cnt2 hkey hlk hv hat2 hrg2 hlt hg2 hs2 hen
      have HC : Hid (c ∈ L ∧ kl = kS c.1) := (show _ ∧ _ by
        obtain ⟨k', e1, rfl⟩ := key9_inv hkey
        cases e1
        obtain ⟨c', e2, hy⟩ := prE_inv hv
        have e3 : c = c' := by
          have h9 := hv
          rw [prE_mk c] at h9
          simp only [Option.some.injEq] at h9
          rw [← h9] at hy
          simp only [Prod.mk.injEq] at hy
          exact encP_inj hy.1
        subst e3
        simp only [Prod.mk.injEq] at hy
        have hh := Maps.has_true_of_atKey hat2
        rw [HHAS.out k] at hh
        cases hf : getB L k with
        | none => rw [hf] at hh; cases hh
        | some p =>
          have h1 := HAT.out k p hf .nil
          rw [hat2 .nil, hy.1] at h1
          obtain ⟨g1, g2⟩ := getB_key hf
          rw [encP_inj h1]
          exact ⟨g2, by rw [g1]⟩)
      obtain ⟨hcL, hkl⟩ := HC.out
      subst hkl
      obtain ⟨o9, hi9, hn9⟩ := ranges_iter RG.out
      have hrlt : r < wr.heap.size := (Array.getElem?_eq_some_iff.1 hi9).1
      obtain ⟨o8, hb8⟩ := grown_put hg2 hrlt
      have J2 := HJ.out _ _ _ _ (HJP.out _ _ _ _ _ o8 (Nat.le_of_eq HRr.out) hi9 hn9 HJr.out) hb8
      have HP2 : Hid (((pre ++ [c]) ++ leftP L (fun z => left z && !z.sameKey (kS c.1))).Perm L) := (show List.Perm _ _ by
        rw [List.append_assoc]
        exact ((left_step HS.out hcL hlk).symm.append_left pre).trans HP.out)
      have HLN : Hid (pre.length < L.length) := (show _ < _ by
        have := HP2.out.length_eq
        simp only [List.length_append, List.length_singleton] at this
        omega)
      have RG2 := hide hrg2
      have J2 := hide J2
      have HLT := hide hlt
      have HS2 := hide hs2
      clear hkey hlk hv hat2 hrg2 hlt hg2 hs2 hb8 HC hcL
      obtain ⟨h, Hh⟩ : ∃ h, Hid (w2.heap.size = h) := ⟨_, rfl⟩
      have B3 := Blk.new w2 51 (PC zp)
      rw [Hh.out] at B3
      have B3 := hide B3
      gi_wp2_with (first
        | (rw [Hh.out]; refine wpListIn_store_blk rfl 51 _ _ rfl h (PC zp) (PC c) 51 rfl rfl B3.out rfl Tryz.size51 (PC_one c) ?_; intro w5 hb5 hu5 hz5; have B5 := hide hb5; have D5 : Hid (Below w2.heap.size w2 w5) := (show _ from ((Below.refl _ _).alloc (Nat.le_refl _) _).trans (hu5.below (Nat.le_of_eq Hh.out) (by simp [Hh.out]))); clear hb5 hu5 hz5)
        | (refine wpListIn_load_row9 rfl 51 _ rfl h 0 rfl (PC c) _ B5.out.range0 Tryz.underlying51 rfl Tryz.size51 ?_)
        | fail)
      obtain ⟨fn, tmps, assign, body, hy, hR⟩ := HY.out B pre c w5 (by rw [HRr.out]; omega) (HJ.out _ _ _ _ J2.out D5.out) HLN.out
      simp only [vlV] at hy
      have HRR := hide hR
      clear hR
      rw [hy]
      refine ⟨fun h => by simp [Fence.wide] at h, (round_any HRR.out).mono ?_⟩
      clear hy HRR
      have hrB : r < B := by omega
      rintro e w6 ⟨hc6, hk6, ⟨rfl, hj⟩ | ⟨rfl, hj⟩⟩
      · have RG6 : Hid (w6.ranges Tryz.prog 9 prE M r L.length DD (fun z => left z && !z.sameKey (kS c.1)) cnt2) := (show World.ranges _ _ _ _ _ _ _ _ _ _ from
          ranges_chg (ranges_chg RG2.out (Chg.of_below D5.out (F := fun _ => False)) id id) hc6
            (by rintro (h | h | h)
                · exact (HG.out M h).2.2 rfl
                · omega
                · have := HRr.out; omega)
            (by rintro (h | h | h)
                · have := (HG.out r h).1; have := HRr.out; omega
                · have := HRr.out; omega
                · omega))
        have H6 := hide hj
        have HB6 : Hid (B ≤ w6.heap.size) := (show _ ≤ _ by have h1 := HBs.out; have h2 := HS2.out; have h3 := D5.out.size; have h4 := hc6.size; omega)
        clear hc6 hk6 hj
        gi_wp2_with fail
        go_roundw
        case rel => exact ⟨_, cnt2, pre ++ [c], RG6, HP2, H6, HB6⟩
        case measure => rw [RG6.out.left_eq, RG.out.left_eq]; exact HLT.out
      · have H6 := hide hj
        clear hc6 hk6 hj
        gi_wp2_with fail
        refine bodyPost_ret (results_none rfl _ _ _) rfl ?_
        exact ⟨⟨_, rfl⟩, .inr ⟨B, _, H6.out⟩⟩
end Go.Proofs.YtcicekggeampcaaGreat

/-
  slices.AppendSeq, Collect, SortedFunc over the values of a map of pairs; Writes: what the calls do.
-/
namespace Go.Proofs.YtcicekggeampcaaGreat
open Go.RowKit Go.Shelf
attribute [local go_sem] Oper.semAt_some
theorem wpListIn_build_row {l n : Nat} {ops : Array Oper} {rest : List Oper} {op : Oper} {a : Act} {w : World} {Q : Exit → Act → World → Prop} (hgd : op.guard = none) (x : Operand) (ho : op.op = .buildSlice 35 1 #[(0, x)]) (p : Pr) (hx : a.eval x = .agg (PC p).toArray)
    (h : wpListIn (Fence.wide.inRound l) n Tryz.prog ops Q rest (a.put op.dst (.slice (some ⟨w.heap.size, 0, none⟩) 1 1)) (w.alloc (.cells (PC p).toArray 51 (0, 0)))) : wpListIn (Fence.wide.inRound l) n Tryz.prog ops Q (op :: rest) a w :=
  wpListIn_plain hgd fun _ hK => op_in (by rw [ho]; intro c h; cases h) (wp_build_row x ho p hx (hK _ _ h))
theorem wpListIn_store_ps {l n0 : Nat} {ops : Array Oper} {rest : List Oper} {op : Oper} {a : Act} {w : World} {Q : Exit → Act → World → Prop} (hgd : op.guard = none) (x y : Operand) (ho : op.op = .store 35 x y) (b : Nat) (T : TypeId) (u : Value) (p : Option Addr) (n c : Nat)
    (hx : a.eval x = .pointer (some ⟨b, 0, none⟩)) (hy : a.eval y = .slice p n c) (hB : Blk w b T [u]) (h : ∀ w', Blk w' b T [.slice p n c] → But b w w' → wpListIn (Fence.wide.inRound l) n0 Tryz.prog ops Q rest (a.put op.dst undef) w') : wpListIn (Fence.wide.inRound l) n0 Tryz.prog ops Q (op :: rest) a w :=
  wpListIn_plain hgd fun _ hK => op_in (by rw [ho]; intro c h; cases h) (wp_store_ps x y ho b T u p n c hx hy hB (fun w' h1 h2 => hK _ _ (h w' h1 h2)))
theorem wpListIn_append_E {α : Type} {E : Enc α} {P : Program} {t e : TypeId} {bytes : Nat} (ht : P.underlying t = some (.slice e)) (hi : ∃ i z, P.info? e = some i ∧ i.zero = some z ∧ i.size = E.n ∧ i.bytes = bytes ∧ z.cells.size = E.n) (hby : bytes ≤ 1000)
    {l n : Nat} {ops : Array Oper} {rest : List Oper} {o : Oper} {a : Act} {w : World} {Q : Exit → Act → World → Prop} (hgd : o.guard = none) (s x : Operand) (ho : o.op = .call { callee := .builtin .append, args := #[s, x], argTypes := #[t, t] }) (base : Nat)
    (v : Value) (L : List α) (hv : a.eval s = v) (hown : OwnG E w base e v L) (xv : Value) (M : List α) (hx : a.eval x = xv) (hr : RdG E w xv M) (hlen : L.length + M.length ≤ 10000000) (hbase : base ≤ w.heap.size)
    (h : ∀ v' w', OwnG E w' base e v' (L ++ M) → w.grownBy w' v.ownBlock → (∀ b, v'.ownBlock = some b → v.ownBlock = some b ∨ b = w.heap.size) → wpListIn (Fence.wide.inRound l) n P ops Q rest (a.put o.dst v') w') : wpListIn (Fence.wide.inRound l) n P ops Q (o :: rest) a w :=
  wpListIn_plain hgd fun _ hK => op_in (by rw [ho]; intro c h; cases h) (wp_append_E ht hi hby s x ho base v L hv hown xv M hx hr hlen hbase fun v' w' g1 g2 g3 => hK _ _ (h v' w' g1 g2 g3))
/-- What is kept while pairs are collected. -/
structure IS (w3 : World) (N E B : Nat) (pre : List Pr) (X : World) : Prop where
  own : ∃ v, Blk X E 35 [v] ∧ OwnG PE X N 51 v pre ∧ ∀ b, v.ownBlock = some b → B ≤ b
  c : Chg (fun k => k = E ∨ B ≤ k) w3 X
  s : w3.heap.size < B
  t : B ≤ X.heap.size
theorem IS.chg {w3 : World} {N E B : Nat} {pre : List Pr} {X Y : World} (h : IS w3 N E B pre X) {G : Nat → Prop} (hc : Chg G X Y) (hE : ¬ G E) (hG : ∀ k, G k → k < w3.heap.size → False) (hO : ∀ k cur, G k → X.heap[k]? ≠ some (.cells cur 51 (0, 0))) : IS w3 N E B pre Y := by
  obtain ⟨v, h1, h2, h3⟩ := h.own
  refine ⟨⟨v, h1.chg hc hE, h2.chg hc (fun b hb hg => ?_), h3⟩, h.c.then hc (fun i hi hg => (hG i hg hi).elim), h.s, Nat.le_trans h.t hc.size⟩
  obtain ⟨_, _, cur, hcur⟩ := h2.block hb
  exact hO b cur hg hcur
set_option maxHeartbeats 4000000 in
set_option maxRecDepth 100000 in
theorem appendSeq_any {w : World} {E1 M : Nat} {L : List Pr} (hbox : Blk w E1 128 [.map (some M)]) (hmp : MapP w M L) (hs : Bs L) (hL : L.length ≤ 1000000) : Calls Tryz.prog 113 #[.slice none 0 0, .func (.func 100) #[] #[PT E1]] w fun e w' => ∃ v' xs, e = .returned v' ∧ xs.Perm L ∧ OwnG PE w' w.heap.size 51 v' xs ∧ Below w.heap.size w w' := by
  have HBX := hide hbox
  have HMP := hide hmp
  obtain ⟨E, HN⟩ : ∃ N, Hid (w.heap.size = N) := ⟨_, rfl⟩
  have hE1 : E1 < E := by rw [← HN.out]; exact hbox.lt
  have hME : M < E := by rw [← HN.out]; exact hmp.lt
  rw [HN.out]
  clear hbox hmp
  obtain ⟨N0, -⟩ : ∃ n : Nat, True := ⟨9, trivial⟩
  refine (callsIn_wide (n := N0)).1 ?_
  refine callsIn_of_wp_marks Tryz.func113 rfl trivial ?_ rfl
  simp only [Tryz.ntmps113, List.size_toArray, List.length_cons, List.length_nil, Nat.reduceAdd, Nat.reduceSub, Array.replicate_succ, Array.replicate_zero, List.push_toArray, List.append_toArray, List.nil_append, List.cons_append]
  gi_wp2_with fail
  obtain ⟨w3, hw3⟩ : ∃ z, z = w.alloc (.cells #[.slice none 0 0] 35 (0, 0)) := ⟨_, rfl⟩
  change Code.wpIn _ _ _ _ _ _ (w.alloc (.cells #[.slice none 0 0] 35 (0, 0)))
  rw [← hw3, HN.out]
  have BL3 : Hid (Blk w3 E 35 [.slice none 0 0]) := (show Blk _ _ _ _ by rw [hw3, ← HN.out]; exact Blk.new w 35 [.slice none 0 0])
  have S3 : Hid (w3.heap.size = E + 1) := (show _ = _ by rw [hw3]; simp [HN.out])
  have hb3 : Below w.heap.size w w3 := by rw [hw3]; exact (Below.refl _ _).alloc (Nat.le_refl _) _
  have BX3 := hide (HBX.out.kept hb3)
  have MP3 := hide (HMP.out.chg (F := fun _ => False) (Chg.of_below hb3) id)
  have L3 := hide hb3
  clear hw3 hb3
  refine wp_ranged4 (n := N0) (gf := 100) (lb := #[PT E1]) rfl (enters_of Tryz.func100 (by kernel_rfl) rfl) (encs := vlV) (fun _ => rfl) (R := fun pre _ => pre.length < L.length) (S := fun xs => xs.Perm L) (IS w3 E E) (fun _ _ _ _ => False) ?ip ?xp ?ib ?xb ?h0
    (values1_hands w3 BX3.out MP3.out hs (G := fun k => k = E) (fun k hk => by have := S3.out; omega))
    (fun x h => { tmps := #[.slice none 0 0, .func (.func 100) #[] #[PT E1], PT E, undef, .slice none 0 0, PT h, .func (.func 100) #[] #[PT E1], .agg (PC x).toArray, undef, undef, undef, undef, undef], defers := [] })
    (fun x h W => Blk W h 51 (PC x)) ?ap ?assign ?body ?done ?left
  case ip =>
    intro B pre X k o0 o hk hX hn hI
    obtain ⟨v, g1, g2, g3⟩ := hI.own
    refine hI.chg (chg_put (G := fun j => j = k) rfl o) (fun e => ?_) (fun j hj hl => by omega) (fun j cur hj hcur => ?_)
    · subst e
      rw [show X.heap[E]? = _ from g1] at hX
      cases hX
      cases hn
    · subst hj
      rw [hX] at hcur
      cases hcur
      cases hn
  case xp => exact fun _ _ _ _ _ _ _ _ _ _ h => h
  case ib =>
    intro B pre X Y hI hb
    exact hI.chg (G := fun _ => False) (Chg.of_below hb) id (fun _ h => h.elim) (fun _ _ h => h.elim)
  case xb => exact fun _ _ _ _ _ h _ => h
  case h0 =>
    intro X hX hlt
    exact ⟨⟨.slice none 0 0, BL3.out.kept hX, ownG_nil _ _ _, fun b hb => by cases hb⟩, Chg.of_below hX, hlt, Nat.le_refl _⟩
  case ap =>
    rintro x h X k o0 o hk hX hn g1
    exact g1.put10 hX hn
  case assign =>
    intro m' l' x X K' hle hK
    have hz := Zpair
    have BW := Blk.new X 51 (PC zp)
    obtain ⟨h, Hh⟩ : ∃ h, Hid (X.heap.size = h) := ⟨_, rfl⟩
    have HK := hide hK
    rw [Hh.out] at BW HK
    have BW := hide BW
    clear hK
    simp only [vlV]
    gi_wp2_with (first
      | (rw [Hh.out]; refine wpListIn_store_blk rfl 51 _ _ rfl h (PC zp) (PC x) 51 rfl rfl BW.out rfl Tryz.size51 (PC_one x) ?_; intro w5 hb5 hu5 hz5; clear hz5)
      | fail)
    refine HK.out w5 ?_ hb5
    exact ((Below.refl _ _).alloc (Nat.le_of_eq Hh.out.symm) _).trans (hu5.below (Nat.le_refl _) (by simp [Hh.out]))
  case body =>
    rintro m' l' B pre x h X hwB hBh hle hI hR hA1
    obtain ⟨v1, IB0, IO0, IH0⟩ := hI.own
    obtain ⟨a1, c1, hv1⟩ := IO0.form
    obtain ⟨n1, hn1⟩ : ∃ k, pre.length = k := ⟨_, rfl⟩
    rw [hn1] at hv1
    subst hv1
    have hsz := S3.out
    have IB := hide IB0
    have IO1 := hide IO0
    have IH := hide IH0
    have HI := hide hI
    have A1 := hide hA1
    have HN1 := hide hn1
    have cE : X.cell? ⟨E, 0, none⟩ = some (.slice a1 n1 c1) := IB0.cell (j := 0) rfl
    have HBX := hide hI.t
    have HL9 : Hid (pre.length + [x].length ≤ 10000000) := (show _ ≤ _ by rw [List.length_singleton]; omega)
    have HL8 : Hid (E ≤ (X.alloc (.cells (PC x).toArray 51 (0, 0))).heap.size) := (show _ ≤ _ by simp; omega)
    clear IB0 IO0 IH0 hI hR hA1 hn1
    gi_wp2_with (first
      | (refine wpListIn_load_row9 rfl 51 _ rfl h 0 rfl (PC x) _ A1.out.range0 Tryz.underlying51 rfl Tryz.size51 ?_)
      | (refine wpListIn_build_row rfl _ rfl x rfl ?_)
      | (refine wpListIn_append_E Tryz.underlying35 infoP9 (by decide) rfl (.tmp 8) (.tmp 10) rfl E (.slice a1 n1 c1) pre rfl (IO1.out.kept ((Below.refl _ _).alloc (Nat.le_refl _) _)) (.slice (some ⟨X.heap.size, 0, none⟩) 1 1) [x] rfl (rdG_one (E := PE) X 51 x) HL9.out HL8.out ?_; intro v9 w9 o9 g9 q9; have O9 := hide o9; have G9 := hide g9; have Q9 := hide q9; clear o9 g9 q9; obtain ⟨p9, c9, hv9⟩ := O9.out.form; obtain ⟨n2, hn2⟩ : ∃ k, (pre ++ [x]).length = k := ⟨_, rfl⟩; rw [hn2] at hv9; subst hv9; clear hn2; have B9 : Hid (Blk w9 E 35 [.slice a1 n1 c1]) := (show Blk _ _ _ _ from (G9.out.block E (by simp; have := IB.out.lt; omega) (fun e => by have := IH.out E e.symm; omega)).trans (IB.out.alloc _)))
      | (refine wpListIn_store_ps rfl (.tmp 2) (.tmp 11) rfl E 35 (.slice a1 n1 c1) p9 n2 c9 rfl rfl B9.out ?_; intro w10 b10 u10)
      | fail)
    have hOne : (Value.slice p9 n2 c9).ownBlock = some E → False := fun e => by
      obtain ⟨_, _, cur, hcur⟩ := O9.out.block e
      have := B9.out.symm.trans hcur
      simp at this
    have hX9 : Chg (fun k => (Value.slice a1 n1 c1).ownBlock = some k) X w9 :=
      (Chg.alloc _ X (.cells (PC x).toArray 51 (0, 0))).trans (Chg.of_grown G9.out (fun k e _ => e))
    have hX10 : Chg (fun k => k = E ∨ (Value.slice a1 n1 c1).ownBlock = some k) X w10 :=
      (hX9.mono (fun k _ h => .inr h)).trans (Chg.of_but u10 (.inl rfl))
    refine ⟨keeps_chg hX10 (fun k o hk hko => ?_), hX10.mono (fun k _ h => ?_), ⟨⟨_, b10, O9.out.chg (F := fun k => k = E) (Chg.of_but u10 rfl) (fun b hb e => hOne (by rw [← e]; exact hb)), fun b hb => ?_⟩, HI.out.c.trans (hX10.mono (fun k _ h => ?_)), HI.out.s, Nat.le_trans HI.out.t hX10.size⟩⟩
    · rcases hk with rfl | hk
      · rw [show X.heap[k]? = _ from IB.out] at hko
        cases hko
        rfl
      · obtain ⟨_, _, cur, hcur⟩ := IO1.out.block hk
        rw [hcur] at hko
        cases hko
        rfl
    · rcases h with h | h
      · exact .inl h
      · exact .inr (IH.out k h)
    · rcases Q9.out b hb with h | h
      · exact IH.out b h
      · have := HBX.out
        rw [h]
        simp
        omega
    · rcases h with h | h
      · exact .inl h
      · exact .inr (IH.out k h)
  case done =>
    rintro Dd B xs X hDd hDB hPm hI hd
    obtain ⟨v1, IB0, IO0, IH0⟩ := hI.own
    obtain ⟨a1, c1, hv1⟩ := IO0.form
    subst hv1
    have IO1 := hide IO0
    have HPm := hide hPm
    have cX : X.cell? ⟨E, 0, none⟩ = some (.slice a1 xs.length c1) := IB0.cell (j := 0) rfl
    have IC := hide hI.c
    have hBs := hI.s
    clear hI IB0 IO0 IH0 hPm
    gi_wp2_with fail
    refine ⟨by simp, .inl ⟨_, _, rfl, run_takeDeferred hd, ?_⟩⟩
    have hp := chg_put (G := fun k => k = Dd) (W := X) (l := Dd) rfl (.deferred none)
    have hsz := S3.out
    refine ⟨_, results_tmp rfl _ _ _, _, xs, rfl, HPm.out, ?_, ?_⟩
    · exact IO1.out.chg hp (fun b hb e => by
        subst e
        obtain ⟨_, _, cur, hcur⟩ := IO1.out.block hb
        rw [hd] at hcur
        cases hcur)
    · have hch := (IC.out.mono (G := fun k => k = E ∨ B ≤ k ∨ w3.heap.size ≤ k) (fun k _ h => by rcases h with h | h; exact .inl h; exact .inr (.inl h))).then hp (G := fun k => k = Dd) (F := fun k => k = E ∨ B ≤ k ∨ w3.heap.size ≤ k) (fun k hk e => .inr (.inr (by rw [e]; exact hDd)))
      exact (L3.out.mono (Nat.le_of_eq HN.out.symm)).trans (hch.below (by omega) (fun k hk h => by rcases h with h | h | h <;> omega))
  case left => exact fun _ _ _ _ _ _ _ h _ => h.elim
end Go.Proofs.YtcicekggeampcaaGreat

/-
  slices.Collect, SortedFunc over the values of a map of pairs; Writes: what the calls do.
-/
namespace Go.Proofs.YtcicekggeampcaaGreat
open Go.RowKit
set_option maxRecDepth 100000 in
theorem values_any (M : Nat) (w : World) : Calls Tryz.prog 71 #[.map (some M)] w fun e w' => e = .returned (.func (.func 100) #[] #[PT w.heap.size]) ∧ w' = w.alloc (.cells #[.map (some M)] 128 (0, 0)) := by
  go_enter Tryz.func71, Tryz.ntmps71
  go_wp2
  go_ret
  exact ⟨rfl, rfl⟩
set_option maxRecDepth 100000 in
theorem collect_any {w : World} {E1 M : Nat} {L : List Pr} (hbox : Blk w E1 128 [.map (some M)]) (hmp : MapP w M L) (hs : Bs L) (hL : L.length ≤ 1000000) : Calls Tryz.prog 98 #[.func (.func 100) #[] #[PT E1]] w fun e w' => ∃ v' xs, e = .returned v' ∧ xs.Perm L ∧ OwnG PE w' w.heap.size 51 v' xs ∧ Below w.heap.size w w' := by
  have C := hide (appendSeq_any hbox hmp hs hL)
  clear hbox hmp hs hL
  go_enter Tryz.func98, Tryz.ntmps98
  go_wp2_with fail
  refine C.out.mono ?_
  rintro e w2 ⟨v, xs, rfl, h1, h2, h3⟩
  obtain ⟨a, c, rfl⟩ := h2.form
  obtain ⟨n, HN⟩ : ∃ n, Hid (xs.length = n) := ⟨_, rfl⟩
  rw [HN.out] at h2 ⊢
  have H1 := hide h1
  have H2 := hide h2
  have H3 := hide h3
  clear h1 h2 h3
  go_wp2_with fail
  go_ret
  exact ⟨_, xs, rfl, H1.out, H2.out, H3.out⟩
theorem sorted_eq {L L' : List Pr} (hs : Bs L) (hp : L'.Perm L) (hq : L'.Pairwise fun a b => lt b.1 a.1 = false) : L' = L := by
  have h1 : L.Pairwise fun a b : Pr => a.1 ≠ b.1 := List.Pairwise.imp (fun h => lt_ne h) hs
  have h2 : L'.Pairwise fun a b : Pr => a.1 ≠ b.1 := (hp.pairwise_iff (fun h => Ne.symm h)).2 h1
  have h3 : Bs L' := (hq.and h2).imp fun {a b} h => by
    cases hl : lt a.1 b.1 with
    | true => rfl
    | false => exact absurd (lt_total hl h.1) h.2
  exact bs_unique h3 hs fun k => hp.mem_iff
set_option maxHeartbeats 1000000 in
set_option maxRecDepth 100000 in
theorem sortedFunc_any {w : World} {E1 M : Nat} {L : List Pr} (hbox : Blk w E1 128 [.map (some M)]) (hmp : MapP w M L) (hs : Bs L) (hL : L.length ≤ 1000000) : Calls Tryz.prog 70 #[.func (.func 100) #[] #[PT E1], .func (.func 72) #[] #[]] w fun e w' => ∃ v', e = .returned v' ∧ OwnG PE w' w.heap.size 51 v' L ∧ Below w.heap.size w w' := by
  have C := hide (collect_any hbox hmp hs hL)
  have HS := hide hs
  clear hbox hmp hs
  go_enter Tryz.func70, Tryz.ntmps70
  go_wp2_with fail
  refine C.out.mono ?_
  rintro e w2 ⟨v, xs, rfl, h1, h2, h3⟩
  have C2 := hide (sorts_any h2 (by rw [h1.length_eq]; exact hL))
  obtain ⟨a, c, rfl⟩ := h2.form
  have HL : Hid (∀ b, (Value.slice a xs.length c).ownBlock = some b → w.heap.size ≤ b) := (show _ from fun b hb => (h2.block hb).1)
  obtain ⟨n, HN⟩ : ∃ n, Hid (xs.length = n) := ⟨_, rfl⟩
  rw [HN.out] at C2 HL ⊢
  have H1 := hide h1
  have H3 := hide h3
  clear h1 h2 h3
  go_wp2_with fail
  refine C2.out.mono ?_
  rintro e w4 ⟨rfl, xs', h4, h5, h6, h7⟩
  have e9 := sorted_eq HS.out (h4.trans H1.out) h5
  subst e9
  have H6 := hide h6
  have H7 : Hid (Below w.heap.size w w4) := (show _ from H3.out.trans (h7.below H3.out.size (fun k hk hb => by have := HL.out k hb; omega)))
  clear h4 h5 h6 h7
  go_wp2_with fail
  go_ret
  exact ⟨_, rfl, H6.out, H7.out⟩
set_option maxHeartbeats 1000000 in
set_option maxRecDepth 100000 in
theorem writes_any {w : World} {D M : Nat} {L : List Pr} (h : BAt w D M L) : Calls Tryz.prog 35 #[PT D] w fun e w' => ∃ v', e = .returned v' ∧ OwnG PE w' w.heap.size 51 v' L ∧ Below w.heap.size w w' := by
  have H := hide h
  have c0 := h.d.cell (j := 0) rfl
  have CM := hide (bMade_any h.d)
  have CV := hide (values_any M w)
  clear h
  go_enter Tryz.func35, Tryz.ntmps35
  go_wp2_with fail
  refine CM.out.mono ?_
  rintro e w_ ⟨rfl, hw⟩
  subst w_
  go_wp2_with fail
  refine CV.out.mono ?_
  rintro e w1 ⟨rfl, hw1⟩
  obtain ⟨E, HE⟩ : ∃ E, Hid (w.heap.size = E) := ⟨_, rfl⟩
  have hb1 : Below w.heap.size w w1 := by rw [hw1]; exact (Below.refl _ _).alloc (Nat.le_refl _) _
  have B1 : Blk w1 E 128 [.map (some M)] := by rw [hw1, ← HE.out]; exact Blk.new w 128 [.map (some M)]
  have H1 := H.out.kept hb1
  have C2 := hide (sortedFunc_any B1 H1.mp H1.srt (by have := H1.len; omega))
  have L1 := hide hb1
  rw [HE.out]
  clear hw1 hb1 B1 H1
  go_wp2_with fail
  refine C2.out.mono ?_
  rintro e w2 ⟨v, rfl, h2, h3⟩
  have O2 := hide (h2.mono L1.out.size)
  rw [HE.out] at O2
  have L2 : Hid (Below w.heap.size w w2) := (show _ from L1.out.trans (h3.mono L1.out.size))
  rw [HE.out] at L2
  obtain ⟨a, c, rfl⟩ := h2.form
  obtain ⟨n, HN⟩ : ∃ n, Hid (L.length = n) := ⟨_, rfl⟩
  rw [HN.out] at O2 ⊢
  clear h2 h3
  go_wp2_with fail
  go_ret
  exact ⟨_, rfl, by rw [HE.out]; exact O2.out, by rw [HE.out]; exact L2.out⟩
end Go.Proofs.YtcicekggeampcaaGreat
