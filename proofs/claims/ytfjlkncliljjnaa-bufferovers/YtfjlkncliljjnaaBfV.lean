/-
  maps.Values over pairs: what is handed to whatever loop goes over it.
-/
import Derived.Test.YtfjlkncliljjnaaPfQ
import Derived.Test.YtfjlkncliljjnaaBfC
import Derived.Sort.MapsRangeIn
namespace Go.Proofs.Ytfjlkncliljjnaa
open Go.RowKit Go.Shelf
attribute [local go_sem] Oper.semAt_some
theorem semAt_load9 {r : Option Nat} {ρ : Operand → Value} {op : Oper} {ty : TypeId} {x : Operand} (ho : op.op = .load ty x) : op.semAt r ρ = execOp ρ op := by
  cases r with
  | none => rfl
  | some l => exact Oper.semAt_some l ρ op (by rw [ho]; intro c h; cases h)
theorem semAt_store9 {r : Option Nat} {ρ : Operand → Value} {op : Oper} {ty : TypeId} {x y : Operand} (ho : op.op = .store ty x y) : op.semAt r ρ = execOp ρ op := by
  cases r with
  | none => rfl
  | some l => exact Oper.semAt_some l ρ op (by rw [ho]; intro c h; cases h)
/-- A whole array or struct is loaded, in a walk inside a fence. -/
theorem wpListIn_load_row9 {F : Fence} {n : Nat} {P : Program} {w : World} {ops : Array Oper} {rest : List Oper} {op : Oper} {a : Act} {Q : Exit → Act → World → Prop} (hgd : op.guard = none) (ty : TypeId) (x : Operand) (ho : op.op = .load ty x)
    (b o : Nat) (hx : a.eval x = .pointer (some ⟨b, o, none⟩)) (cs : List Value) (d : TypeDesc) (hc : w.rangeAt b o cs)
    (hu : P.underlying ty = some d) (hd : d.isRow = true) (hi : (P.info? ty).map (·.size) = some cs.length)
    (h : wpListIn F n P ops Q rest (a.put op.dst (.agg cs.toArray)) w) : wpListIn F n P ops Q (op :: rest) a w := by
  refine wpListIn_plain hgd fun K hK => ⟨fun f hf => ?_, ?_⟩
  · simp [Oper.about, ho] at hf
  · rw [semAt_load9 ho]
    simp only [execOp, ho, hx, Sem.run_bind, Sem.run_pure, Result.andThen_ok, run_loadAt_mid w b o ty cs d hc hu hd hi]
    exact hK _ _ h
theorem size_setCells (b : Nat) : ∀ (ds : List Value) (o : Nat) (w : World), (w.setCells b o ds).heap.size = w.heap.size
  | [], _, _ => rfl
  | d :: ds, o, w => by rw [World.setCells, size_setCells b ds (o + 1)]; simp
/-- A whole array or struct is stored over a block, in a walk inside a fence. -/
theorem wpListIn_store_blk {F : Fence} {n : Nat} {P : Program} {w : World} {ops : Array Oper} {rest : List Oper} {op : Oper} {a : Act} {Q : Exit → Act → World → Prop} (hgd : op.guard = none) (ty : TypeId) (x y : Operand) (ho : op.op = .store ty x y)
    (b : Nat) (cs ds : List Value) (T : TypeId) (hx : a.eval x = .pointer (some ⟨b, 0, none⟩)) (hy : a.eval y = .agg ds.toArray) (hB : Blk w b T cs) (hl : ds.length = cs.length)
    (hi : (P.info? ty).map (·.size) = some ds.length) (h1 : ∀ u ∈ ds, u.oneCell' = true)
    (h : ∀ w', Blk w' b T ds → But b w w' → w'.heap.size = w.heap.size → wpListIn F n P ops Q rest (a.put op.dst undef) w') : wpListIn F n P ops Q (op :: rest) a w := by
  refine wpListIn_plain hgd fun K hK => ⟨fun f hf => ?_, ?_⟩
  · simp [Oper.about, ho] at hf
  · have t0 := hB.there 0 ds.length (by omega)
    rw [semAt_store9 ho]
    simp only [execOp, ho, hx, hy, Sem.run_bind, Sem.run_pure, Result.andThen_ok, run_storeAt_mid w b 0 ty ds.toArray (by simpa using t0) (by simpa using hi) (all_one h1)]
    refine hK _ _ (h _ ?_ (But.setCells b _ 0 w) (size_setCells _ _ _ _))
    have := Blk.over ds hB 0 (by omega)
    rwa [over_all _ _ hl.symm] at this
/-- A call in a walk at the wide fence. -/
theorem wide_call {P : Program} {n m f : Nat} {args : Array Value} {w : World} {R R' : Ending → World → Prop} (h : Calls P f args w R) (hm : ∀ e w', R e w' → R' e w') :
    Fence.wide.fn f ∧ (Fence.wide.depth.isSome = true → 1 ≤ n) ∧ CallsIn Fence.wide m P f args w R' :=
  ⟨trivial, fun h => by simp [Fence.wide] at h, (callsIn_wide.2 h).mono hm⟩
/-- What is still to come. -/
def leftP (L : List Pr) (left : Lit → Bool) : List Pr := L.filter fun p => left (kS p.1)
theorem left_cons (q : Pr) (L : List Pr) (t : Lit → Bool) : leftP (q :: L) t = if t (kS q.1) = true then q :: leftP L t else leftP L t := by unfold leftP; rw [List.filter_cons]
theorem left_step : ∀ {L : List Pr} {left : Lit → Bool} {c : Pr}, Bs L → c ∈ L → left (kS c.1) = true → (leftP L left).Perm (c :: leftP L (fun z => left z && !z.sameKey (kS c.1)))
  | [], _, _, _, h, _ => by cases h
  | q :: L, left, c, hs, hm, hl => by
    obtain ⟨h1, h2⟩ := List.pairwise_cons.1 hs
    have hk : ∀ p : Pr, (fun z => left z && !z.sameKey (kS c.1)) (kS p.1) = (left (kS p.1) && !decide (p.1 = c.1)) := fun p => by
      show (left (kS p.1) && !(kS p.1).sameKey (kS c.1)) = _
      rw [kS_same]
    rcases List.mem_cons.1 hm with rfl | hm
    · have e : leftP L (fun z => left z && !z.sameKey (kS c.1)) = leftP L left := by
        unfold leftP
        refine List.filter_congr fun p hp => ?_
        rw [hk, decide_eq_false (lt_ne (h1 p hp)).symm]
        simp
      rw [left_cons, left_cons, if_pos hl, if_neg (by rw [kS_same]; simp), e]
    · have ih := left_step (left := left) h2 hm hl
      have hne : q.1 ≠ c.1 := lt_ne (h1 c hm)
      rw [left_cons, left_cons]
      cases hq : left (kS q.1) with
      | true =>
        rw [if_pos rfl, if_pos (by rw [kS_same, decide_eq_false hne]; rfl)]
        exact (ih.cons q).trans (List.Perm.swap _ _ _)
      | false =>
        rw [if_neg (by simp), if_neg (by simp)]
        exact ih
theorem grown_put {X Y : World} {r : Nat} (h : X.grownBy Y (some r)) (hr : r < X.heap.size) : ∃ o, Below (X.putObj r o).heap.size (X.putObj r o) Y := by
  have hry : r < Y.heap.size := Nat.lt_of_lt_of_le hr h.size
  refine ⟨Y.heap[r], ⟨h.os, h.tape, h.output, by simpa using h.size, fun k hk => ?_⟩⟩
  have hk' : k < X.heap.size := by simpa using hk
  by_cases e : k = r
  · subst e
    rw [World.putObj_heap_same hr, Array.getElem?_eq_getElem hry]
  · rw [World.putObj_heap_other e]
    exact h.block k hk' (fun h => e (by cases h; rfl))
theorem ranges_chg {X Y : World} {P : Program} {k : TypeId} {R : Value → Option (DataW Unit × List MemPlace)} {b r n : Nat} {D : DataW Unit} {left : Lit → Bool} {cnt : Nat} (h : X.ranges P k R b r n D left cnt) {F : Nat → Prop} (hc : Chg F X Y) (hb : ¬ F b) (hr : ¬ F r) : Y.ranges P k R b r n D left cnt := by
  obtain ⟨es, clock, since, seen, c0, h1, h2, h3, h4, h5, h6⟩ := h
  exact ⟨es, clock, since, seen, c0, (hc.block b (Array.getElem?_eq_some_iff.1 h1).1 hb).trans h1, h2, h3, h4, (hc.block r (Array.getElem?_eq_some_iff.1 h5).1 hr).trans h5, h6⟩
theorem ranges_iter {X : World} {P : Program} {k : TypeId} {R : Value → Option (DataW Unit × List MemPlace)} {b r n : Nat} {D : DataW Unit} {left : Lit → Bool} {cnt : Nat} (h : X.ranges P k R b r n D left cnt) : ∃ o, X.heap[r]? = some o ∧ o.isCells = false := by
  obtain ⟨es, clock, since, seen, c0, h1, h2, h3, h4, h5, h6⟩ := h
  exact ⟨_, h5, rfl⟩
/-- A pair that the walk does not take apart. -/
structure Bx where
  p : Pr
def vlV (p : Pr) : Array Value := #[.agg (PC p).toArray]
set_option maxRecDepth 100000 in
set_option maxHeartbeats 4000000 in
theorem values1_hands {E M : Nat} {L : List Pr} (w : World) (hbox : Blk w E 53 [.map (some M)]) (hmp : MapP w M L) (hs : Bs L) {G : Nat → Prop} (hG : ∀ k, G k → k < w.heap.size ∧ k ≠ E ∧ k ≠ M) :
    Hands3 Try.prog 40 #[PT E] vlV (fun pre _ => pre.length < L.length) (fun xs => xs.Perm L) G w := by
  intro l J Jx W hW hl1 hl2 h0 hJ hJx hJp hJxp hY
  have BX := hbox.kept hW
  have hMlt : M < W.heap.size := Nat.lt_of_lt_of_le hmp.lt hW.size
  have hMw : M < w.heap.size := hmp.lt
  obtain ⟨DD, hown, hsz, hhas, hat⟩ := hmp.chg (F := fun _ => False) (Chg.of_below hW) id
  have c0 := BX.cell (j := 0) rfl
  have hWs := hW.size
  obtain ⟨r, HRr⟩ : ∃ r, Hid (W.heap.size = r) := ⟨_, rfl⟩
  have H0 := hide h0
  have HJ := hide hJ
  have HJX := hide hJx
  have HJP := hide hJp
  have HY := hide hY
  have HOWN := hide hown
  have HSZ := hide hsz
  have HHAS := hide hhas
  have HAT := hide hat
  have HG := hide hG
  have HS := hide hs
  clear hbox hmp h0 hJ hJx hJp hJxp hY hW BX hown hsz hhas hat hG hs
  obtain ⟨N0, -⟩ : ∃ n : Nat, True := ⟨9, trivial⟩
  refine (callsIn_wide (n := N0)).1 ?_
  refine callsIn_of_wp Try.func40 rfl trivial ?_ rfl
  simp only [Try.ntmps40, List.size_toArray, List.length_cons, List.length_nil, Nat.reduceAdd, Nat.reduceSub, Array.replicate_succ, Array.replicate_zero, List.push_toArray, List.append_toArray, List.nil_append, List.cons_append]
  gi_wp2_with (first
    | (gi_at_range; refine wpListIn_range_own _ rfl _ 53 rfl 9 38 keyed9 Try.underlying53 _ M _ _ rfl HOWN.out ?_; intro w0 hrg0 hg0 hs0)
    | fail)
  rw [HRr.out] at hrg0 hs0 ⊢
  have hB0 : Below W.heap.size W w0 := (Below.refl _ W).grown hg0 (Nat.le_refl _) (fun k hk => by cases hk)
  obtain ⟨B, HB⟩ : ∃ B, Hid (w0.heap.size = B) := ⟨_, rfl⟩
  have hBr : B = r + 1 := by rw [← HB.out]; exact hs0
  have J0 := H0.out w0 hB0
  rw [HB.out] at J0
  have HJ0 := hide J0
  have RG0 := hide hrg0
  clear hg0 hs0 hB0 J0 hrg0
  gi_loopw [4] (fun _ wr => ∃ (left : Lit → Bool) (cnt : Nat) (pre : List Pr), Hid (wr.ranges Try.prog 9 prE M r L.length DD left cnt) ∧ Hid ((pre ++ leftP L left).Perm L) ∧ Hid (J B pre wr) ∧ Hid (B ≤ wr.heap.size))
    (fun _ wr => wr.rangeLeft M r)
  case atStart =>
    refine ⟨Maps.has DD, Maps.size DD, [], RG0, ?_, HJ0, (show _ ≤ _ from Nat.le_of_eq HB.out.symm)⟩
    show List.Perm _ _
    rw [List.nil_append]
    unfold leftP
    rw [List.filter_eq_self.2 (fun p hp => by rw [HHAS.out, getB_mem HS.out hp]; rfl)]
  case round =>
    obtain ⟨left, cnt, pre, RG, HP, HJr, HBs⟩ := hrel
    have hz := Zpair
    gi_wp2_with (first
      | (gi_at_next; refine wpListIn_next_ranges _ rfl _ rfl 9 keyed9 prE Value.string (fun b : Bx => .agg (PC b.p).toArray) (fun key kl hk => by obtain ⟨k, h1, -⟩ := key9_inv hk; exact ⟨k, h1⟩) (fun v y hv => by obtain ⟨p, h1, -⟩ := prE_inv hv; exact ⟨⟨p⟩, h1⟩) M r L.length DD left cnt rfl RG.out ?_ ?_)
      | fail)
    · intro _ hl0
      have HQ : Hid (pre.Perm L) := (show List.Perm _ _ by
        have := HP.out
        rwa [show leftP L left = [] from List.filter_eq_nil_iff.2 (fun p _ => by rw [hl0]; simp), List.append_nil] at this)
      clear hl0
      gi_wp2_with fail
      refine bodyPost_end (results_none rfl _ _ _) rfl ?_
      exact ⟨⟨_, rfl⟩, .inl ⟨B, pre, HQ.out, HJr.out⟩⟩
    · intro k ⟨c⟩ kl y1 y2 w2 cnt2 hkey hlk hv hat2 hrg2 hlt hg2 hs2 hen
      have HC : Hid (c ∈ L ∧ kl = kS c.1) := (show _ ∧ _ by
        obtain ⟨k', e1, rfl⟩ := key9_inv hkey
        cases e1
        obtain ⟨c', e2, hy⟩ := prE_inv hv
        have e3 : c = c' := by
          have h9 := hv
          rw [prE_mk c] at h9
          simp only [Option.some.injEq] at h9
          rw [← h9] at hy
          simp only [Prod.mk.injEq] at hy
          exact encP_inj hy.1
        subst e3
        simp only [Prod.mk.injEq] at hy
        have hh := Maps.has_true_of_atKey hat2
        rw [HHAS.out k] at hh
        cases hf : getB L k with
        | none => rw [hf] at hh; cases hh
        | some p =>
          have h1 := HAT.out k p hf .nil
          rw [hat2 .nil, hy.1] at h1
          obtain ⟨g1, g2⟩ := getB_key hf
          rw [encP_inj h1]
          exact ⟨g2, by rw [g1]⟩)
      obtain ⟨hcL, hkl⟩ := HC.out
      subst hkl
      obtain ⟨o9, hi9, hn9⟩ := ranges_iter RG.out
      have hrlt : r < wr.heap.size := (Array.getElem?_eq_some_iff.1 hi9).1
      obtain ⟨o8, hb8⟩ := grown_put hg2 hrlt
      have J2 := HJ.out _ _ _ _ (HJP.out _ _ _ _ _ o8 (Nat.le_of_eq HRr.out) hi9 hn9 HJr.out) hb8
      have HP2 : Hid (((pre ++ [c]) ++ leftP L (fun z => left z && !z.sameKey (kS c.1))).Perm L) := (show List.Perm _ _ by
        rw [List.append_assoc]
        exact ((left_step HS.out hcL hlk).symm.append_left pre).trans HP.out)
      have HLN : Hid (pre.length < L.length) := (show _ < _ by
        have := HP2.out.length_eq
        simp only [List.length_append, List.length_singleton] at this
        omega)
      have RG2 := hide hrg2
      have J2 := hide J2
      have HLT := hide hlt
      have HS2 := hide hs2
      clear hkey hlk hv hat2 hrg2 hlt hg2 hs2 hb8 HC hcL
      obtain ⟨h, Hh⟩ : ∃ h, Hid (w2.heap.size = h) := ⟨_, rfl⟩
      have B3 := Blk.new w2 38 (PC zp)
      rw [Hh.out] at B3
      have B3 := hide B3
      gi_wp2_with (first
        | (rw [Hh.out]; refine wpListIn_store_blk rfl 38 _ _ rfl h (PC zp) (PC c) 38 rfl rfl B3.out rfl Try.size38 (PC_one c) ?_; intro w5 hb5 hu5 hz5; have B5 := hide hb5; have D5 : Hid (Below w2.heap.size w2 w5) := (show _ from ((Below.refl _ _).alloc (Nat.le_refl _) _).trans (hu5.below (Nat.le_of_eq Hh.out) (by simp [Hh.out]))); clear hb5 hu5 hz5)
        | (refine wpListIn_load_row9 rfl 38 _ rfl h 0 rfl (PC c) _ B5.out.range0 Try.underlying38 rfl Try.size38 ?_)
        | fail)
      obtain ⟨fn, tmps, assign, body, hy, hR⟩ := HY.out B pre c w5 (by rw [HRr.out]; omega) (HJ.out _ _ _ _ J2.out D5.out) HLN.out
      simp only [vlV] at hy
      have HRR := hide hR
      clear hR
      rw [hy]
      refine ⟨fun h => by simp [Fence.wide] at h, (round_any HRR.out).mono ?_⟩
      clear hy HRR
      have hrB : r < B := by omega
      rintro e w6 ⟨hc6, hk6, ⟨rfl, hj⟩ | ⟨rfl, hj⟩⟩
      · have RG6 : Hid (w6.ranges Try.prog 9 prE M r L.length DD (fun z => left z && !z.sameKey (kS c.1)) cnt2) := (show World.ranges _ _ _ _ _ _ _ _ _ _ from
          ranges_chg (ranges_chg RG2.out (Chg.of_below D5.out (F := fun _ => False)) id id) hc6
            (by rintro (h | h | h)
                · exact (HG.out M h).2.2 rfl
                · omega
                · have := HRr.out; omega)
            (by rintro (h | h | h)
                · have := (HG.out r h).1; have := HRr.out; omega
                · have := HRr.out; omega
                · omega))
        have H6 := hide hj
        have HB6 : Hid (B ≤ w6.heap.size) := (show _ ≤ _ by have h1 := HBs.out; have h2 := HS2.out; have h3 := D5.out.size; have h4 := hc6.size; omega)
        clear hc6 hk6 hj
        gi_wp2_with fail
        go_roundw
        case rel => exact ⟨_, cnt2, pre ++ [c], RG6, HP2, H6, HB6⟩
        case measure => rw [RG6.out.left_eq, RG.out.left_eq]; exact HLT.out
      · have H6 := hide hj
        clear hc6 hk6 hj
        gi_wp2_with fail
        refine bodyPost_ret (results_none rfl _ _ _) rfl ?_
        exact ⟨⟨_, rfl⟩, .inr ⟨B, _, H6.out⟩⟩
#print axioms values1_hands
end Go.Proofs.Ytfjlkncliljjnaa
