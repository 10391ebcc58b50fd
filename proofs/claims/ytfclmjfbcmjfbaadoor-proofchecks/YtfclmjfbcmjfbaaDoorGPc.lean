/-
  Texts that ride together: PfU PfV.
-/
import Derived.Test.YtfclmjfbcmjfbaaDoorGPb
/-
  What goes over a way's turns: slices.Backward's function over turns, and the function that (*way).up tells.
-/
namespace Go.Proofs.YtfclmjfbcmjfbaaDoor
open Go.RowKit Go.Shelf
attribute [local go_sem] Oper.semAt_some
/-- A call in a walk at the wide fence. -/
theorem wide_call {P : Program} {n m f : Nat} {args : Array Value} {w : World} {R R' : Ending → World → Prop} (h : Calls P f args w R) (hm : ∀ e w', R e w' → R' e w') :
    Fence.wide.fn f ∧ (Fence.wide.depth.isSome = true → 1 ≤ n) ∧ CallsIn Fence.wide m P f args w R' :=
  ⟨trivial, fun h => by simp [Fence.wide] at h, (callsIn_wide.2 h).mono hm⟩
theorem semAt_load9 {r : Option Nat} {ρ : Operand → Value} {op : Oper} {ty : TypeId} {x : Operand} (ho : op.op = .load ty x) : op.semAt r ρ = execOp ρ op := by
  cases r with
  | none => rfl
  | some l => exact Oper.semAt_some l ρ op (by rw [ho]; intro c h; cases h)
theorem semAt_store9 {r : Option Nat} {ρ : Operand → Value} {op : Oper} {ty : TypeId} {x y : Operand} (ho : op.op = .store ty x y) : op.semAt r ρ = execOp ρ op := by
  cases r with
  | none => rfl
  | some l => exact Oper.semAt_some l ρ op (by rw [ho]; intro c h; cases h)
/-- A whole array or struct is loaded, in a walk inside a fence. -/
theorem wpListIn_load_row9 {F : Fence} {n : Nat} {P : Program} {w : World} {ops : Array Oper} {rest : List Oper} {op : Oper} {a : Act} {Q : Exit → Act → World → Prop} (hgd : op.guard = none) (ty : TypeId) (x : Operand) (ho : op.op = .load ty x)
    (b o : Nat) (hx : a.eval x = .pointer (some ⟨b, o, none⟩)) (cs : List Value) (d : TypeDesc) (hc : w.rangeAt b o cs)
    (hu : P.underlying ty = some d) (hd : d.isRow = true) (hi : (P.info? ty).map (·.size) = some cs.length)
    (h : wpListIn F n P ops Q rest (a.put op.dst (.agg cs.toArray)) w) : wpListIn F n P ops Q (op :: rest) a w := by
  refine wpListIn_plain hgd fun K hK => ⟨fun f hf => ?_, ?_⟩
  · simp [Oper.about, ho] at hf
  · rw [semAt_load9 ho]
    simp only [execOp, ho, hx, Sem.run_bind, Sem.run_pure, Result.andThen_ok, run_loadAt_mid w b o ty cs d hc hu hd hi]
    exact hK _ _ h
/-- A whole array or struct is stored over a block, in a walk inside a fence. -/
theorem wpListIn_store_blk {F : Fence} {n : Nat} {P : Program} {w : World} {ops : Array Oper} {rest : List Oper} {op : Oper} {a : Act} {Q : Exit → Act → World → Prop} (hgd : op.guard = none) (ty : TypeId) (x y : Operand) (ho : op.op = .store ty x y)
    (b : Nat) (cs ds : List Value) (T : TypeId) (hx : a.eval x = .pointer (some ⟨b, 0, none⟩)) (hy : a.eval y = .agg ds.toArray) (hB : Blk w b T cs) (hl : ds.length = cs.length)
    (hi : (P.info? ty).map (·.size) = some ds.length) (h1 : ∀ u ∈ ds, u.oneCell' = true)
    (h : ∀ w', Blk w' b T ds → But b w w' → wpListIn F n P ops Q rest (a.put op.dst undef) w') : wpListIn F n P ops Q (op :: rest) a w := by
  refine wpListIn_plain hgd fun K hK => ⟨fun f hf => ?_, ?_⟩
  · simp [Oper.about, ho] at hf
  · have t0 := hB.there 0 ds.length (by omega)
    rw [semAt_store9 ho]
    simp only [execOp, ho, hx, hy, Sem.run_bind, Sem.run_pure, Result.andThen_ok, run_storeAt_mid w b 0 ty ds.toArray (by simpa using t0) (by simpa using hi) (all_one h1)]
    refine hK _ _ (h _ ?_ (But.setCells b _ 0 w))
    have := Blk.over ds hB 0 (by omega)
    rwa [over_all _ _ hl.symm] at this
def tbV (x : Nat × Tn) : Array Value := #[.int .i64 (x.1 : Int), .agg (TE.c x.2).toArray]
def tbR (F : List Tn) (pre : List (Nat × Tn)) (x : Nat × Tn) : Prop := pre.length + x.1 + 1 = F.length ∧ F[x.1]? = some x.2
set_option maxHeartbeats 1000000 in
set_option maxRecDepth 100000 in
theorem tbackward_any (a : Option Addr) (n cap : Nat) (w : World) : Calls Tryd.prog 40 #[.slice a n cap] w fun e w' => e = .returned (.func (.func 46) #[] #[.pointer (some ⟨w.heap.size, 0, none⟩)]) ∧ w' = w.alloc (.cells #[.slice a n cap] 69) := by
  go_enter Tryd.func40, Tryd.ntmps40
  go_wp2
  go_ret
  exact ⟨rfl, rfl⟩
set_option maxHeartbeats 1000000 in
set_option maxRecDepth 100000 in
theorem up_any (D : Nat) (w : World) : Calls Tryd.prog 30 #[.pointer (some ⟨D, 0, none⟩)] w fun e w' => e = .returned (.func (.func 39) #[] #[.pointer (some ⟨w.heap.size, 0, none⟩)]) ∧ w' = w.alloc (.cells #[.pointer (some ⟨D, 0, none⟩)] 66) := by
  go_enter Tryd.func30, Tryd.ntmps30
  go_wp2
  go_ret
  exact ⟨rfl, rfl⟩
set_option maxRecDepth 100000 in
set_option maxHeartbeats 4000000 in
theorem tbackward1_hands (Bx : Nat) (a : Option Addr) (cap : Nat) (F : List Tn) (w : World) (hbox : w.cell? ⟨Bx, 0, none⟩ = some (.slice a F.length cap)) (hBx : Bx < w.heap.size) (hr : RdG TE w (.slice a F.length cap) F) (hl : F.length ≤ 140737488300000)
    {G : Nat → Prop} (hGb : ¬ G Bx) (hGr : ∀ b, InB (.slice a F.length cap) b → ¬ G b) :
    Hands3 Tryd.prog 46 #[.pointer (some ⟨Bx, 0, none⟩)] tbV (tbR F) (fun xs => xs.length = F.length) G w := by
  intro l J Jx W hW hl1 hl2 h0 hJ hJx _ _ hY
  obtain ⟨m, HM⟩ : ∃ m, Hid (F.length = m) := ⟨_, rfl⟩
  have HR := hide hr
  have HG := hide hGr
  clear hr hGr
  rw [HM.out] at hbox HR HG hl ⊢
  have HY := hide hY
  have H0 := hide (h0 W (Below.refl _ _))
  obtain ⟨B, HB⟩ : ∃ B, Hid (W.heap.size = B) := ⟨_, rfl⟩
  rw [HB.out] at H0
  have HBW : Hid (w.heap.size ≤ B) := (show _ by rw [← HB.out]; exact hW.size)
  have HBX := hide hbox
  have hcW : W.cell? ⟨Bx, 0, none⟩ = some (.slice a m cap) := (hW.cell (p := ⟨Bx, 0, none⟩) hBx).trans hbox
  have HL1 := hide hl1
  clear hY hJ hJx h0 hbox hl1 hl2
  obtain ⟨N0, -⟩ : ∃ n : Nat, True := ⟨9, trivial⟩
  refine (callsIn_wide (n := N0)).1 ?_
  refine callsIn_of_wp Tryd.func46 rfl trivial ?_ rfl
  simp only [Tryd.ntmps46, List.size_toArray, List.length_cons, List.length_nil, Nat.reduceAdd, Nat.reduceSub, Array.replicate_succ, Array.replicate_zero, List.push_toArray, List.append_toArray, List.nil_append, List.cons_append]
  gi_wp2
  gi_loopw [3] (fun p wr => ∃ (pre : List (Nat × Tn)) (r : Nat), p = .int .i64 ((r : Int) - 1) ∧ Hid (J B pre wr) ∧ Hid (Chg (fun k => G k ∨ k = l ∨ B ≤ k) w wr) ∧ Hid (pre.length + r = m)) (fun p _ => (intOf p + 1).toNat)
  case atStart => exact ⟨[], m, rfl, H0, Chg.of_below hW, (show _ = _ by simp)⟩
  case round =>
    obtain ⟨pre, r, rfl, HP, HC, HL⟩ := hrel
    have hc0 : wr.cell? ⟨Bx, 0, none⟩ = some (.slice a m cap) := (HC.out.cellAt hBx (by rintro (h | h | h); exact hGb h; have := HL1.out; omega; have := HBW.out; omega)).trans HBX.out
    cases r with
    | zero =>
      have q1 : ¬ (0 : Int) ≤ ((0 : Nat) : Int) - 1 := by omega
      gi_wp2_with fail
      refine bodyPost_end (results_none rfl _ _ _) rfl ?_
      exact ⟨⟨_, rfl⟩, .inl ⟨B, pre, by have := HL.out; omega, HP.out⟩⟩
    | succ r =>
      have q1 : (0 : Int) ≤ (((r + 1 : Nat) : Int)) - 1 := by omega
      have er : (((r + 1 : Nat) : Int)) - 1 = (r : Int) := by omega
      rw [er] at q1 ⊢
      have hrm : r < m := by have := HL.out; omega
      obtain ⟨b, off, ha, hlb, hx⟩ := (HR.out.chg HC.out (by intro b hb; have hbw := HR.out.inB_lt hb; rintro (h | h | h); exact HG.out b hb h; have := HL1.out; omega; have := HBW.out; omega)).nth (by omega)
      have hmk : r < F.length := by rw [HM.out]; exact hrm
      have c0 : wr.rangeAt b (off + r * 3) (TE.c F[r]) := hx r hmk
      have HX : Hid (F[r]? = some F[r]) := List.getElem?_eq_getElem hmk
      generalize F[r] = km at c0 HX
      have hmn : (r : Int) < (m : Int) := by omega
      subst ha
      clear hx
      obtain ⟨fn, tmps, assign, body, hy, hR⟩ := HY.out B pre (r, km) wr (by rw [HB.out]; exact Nat.le_refl _) HP.out ⟨by have := HL.out; rw [HM.out]; omega, HX.out⟩
      simp only [tbV] at hy
      have HRR := hide hR
      clear hR
      gi_wp2_with (first
        | (refine wpListIn_load_row9 rfl 47 _ rfl b (off + r * 3) rfl (TE.c km) _ c0 Tryd.underlying47 rfl Tryd.sizeTn ?_)
        | fail)
      refine ⟨fun h => by simp [Fence.wide] at h, (round_any HRR.out).mono ?_⟩
      rintro e w3 ⟨hc3, -, ⟨rfl, hj⟩ | ⟨rfl, hj⟩⟩
      · gi_wp2_with fail
        go_roundw
        case rel => exact ⟨pre ++ [(r, km)], r, by go_num, hj, HC.out.trans hc3, (show _ = _ by have := HL.out; rw [List.length_append, List.length_singleton]; omega)⟩
        case measure => simp only [intOf]; omega
      · gi_wp2_with fail
        refine bodyPost_ret (results_none rfl _ _ _) rfl ?_
        exact ⟨⟨_, rfl⟩, .inr ⟨_, _, hj⟩⟩
#print axioms tbackward1_hands
end Go.Proofs.YtfclmjfbcmjfbaaDoor

/-
  The function that (*way).up tells: what is handed to whatever loop goes over it.
-/
namespace Go.Proofs.YtfclmjfbcmjfbaaDoor
open Go.RowKit Go.Shelf
attribute [local go_sem] Oper.semAt_some
def upR (F : List Tn) (pre : List (Nat × Tn)) (x : Nat × Tn) : Prop := x.1 = pre.length ∧ F[x.1]? = some x.2
/-- What was handed on: counted from 0 on. -/
def mp (l : List (Nat × Tn)) : List (Nat × Tn) := l.mapIdx (fun i x => (i, x.2))
theorem mp_snoc (l : List (Nat × Tn)) (x : Nat × Tn) : mp (l ++ [x]) = mp l ++ [(l.length, x.2)] := by
  unfold mp
  rw [List.mapIdx_concat]
theorem mp_len (l : List (Nat × Tn)) : (mp l).length = l.length := by simp [mp]
theorem WC_turns {w : World} {D lo hi c : Nat} {A : List Tn} (hB : Blk w D 50 (WC lo hi A c)) (hA : A.length = 64) (hc : c ≤ 64) : RdG TE w (.slice (some ⟨D, 2, none⟩) c 64) (A.take c) := by
  have hl : (A.take c).length = c := by rw [List.length_take]; omega
  refine ⟨some ⟨D, 2, none⟩, 64, by rw [hl], by omega, by simp [maxLen], fun h => by simp at h, fun _ => ⟨D, 2, rfl, hB.lt, fun j u hj => ?_⟩⟩
  refine hB.cell ?_
  rw [Enc.cs_take] at hj
  have hjl : j < (TE.cs A).length := by
    have := (List.getElem?_eq_some_iff.1 hj).1
    rw [List.length_take] at this
    omega
  have hj2 : (TE.cs A)[j]? = some u := by
    have : j < c * TE.n := by have := (List.getElem?_eq_some_iff.1 hj).1; rw [List.length_take] at this; omega
    rwa [List.getElem?_take_of_lt this] at hj
  unfold WC
  rw [List.append_assoc, List.getElem?_append_right (by simp), show 2 + j - ([Value.int .i64 (lo : Int), Value.int .i64 (hi : Int)] : List Value).length = j by simp, List.getElem?_append_left hjl]
  exact hj2
theorem slice_arr (D c : Nat) (hc : c ≤ 64) (W : World) : (Instr.sliceAt 48 (.pointer (some ⟨D, 2, none⟩)) none (some (.int .i64 (c : Int))) none).run Tryd.prog W = .ok (.slice (some ⟨D, 2, none⟩) c 64) W := by
  have e2 : (c : Int) ≤ 64 := by omega
  have hu : Tryd.prog.underlying 48 = some (.array 64 47) := by kernel_rfl
  cases hq : Tryd.prog.info? 47 with
  | none => have := Tryd.sizeTn; rw [hq] at this; cases this
  | some k => simp [Instr.sliceAt, run_underlying hu, Instr.sureAddr, Instr.sliceBounds, run_sliceBound, e2, sizeOf, typeInfo, hq, Addr.add]
/-- A round of the loop outside is called. -/
theorem wpIn_yield {P : Program} {n k l l0 : Nat} {o : Oper} {a : Act} {w : World} {K : Act → World → Prop} {Q : Exit → Act → World → Prop} {R : Ending → World → Prop} (x y z : Operand) (ts : Array TypeId) (ho : o.op = .call { callee := .value x, args := #[y, z], argTypes := ts })
    {v1 v2 : Value} (hx : a.eval x = .func (.yield l) #[] #[]) (h1 : a.eval y = v1) (h2 : a.eval z = v2) {fn : FuncId} {tmps : Array Value} {assign body : Code} (hy : (Instr.yield l #[v1, v2]).run P w = .ok (.round l fn tmps assign body) w)
    (hR : RoundIn Fence.wide k P l fn tmps assign body w R) (hK : ∀ e w', R e w' → ∃ v, e = .returned v ∧ K (a.put o.dst v) w') : o.wpIn (Fence.wide.inRound l0) n P a w K Q := by
  refine ⟨fun f hf => trivial, ?_⟩
  rw [Oper.semAt_eq _ _ _ (by rw [ho]; intro c h; cases h)]
  have hrun : (execOp a.eval o).run P w = .ok (.round l fn tmps assign body) w := by
    simp only [execOp, ho, hx, h1, h2, resolve, List.map_toArray, List.map_cons, List.map_nil]
    go_simp
  rw [hrun]
  refine ⟨fun h => by simp [Fence.wide] at h, (round_wide hR).mono ?_⟩
  intro e w' hr
  obtain ⟨v, rfl, hk⟩ := hK e w' hr
  exact hk
theorem wp_not {P : Program} {o : Oper} {a : Act} {w : World} {K : Act → World → Prop} {Q : Exit → Act → World → Prop} (t : TypeId) (x : Operand) (ho : o.op = .unOp .not t x) (b : Bool) (hx : a.eval x = .bool b) (hK : K (a.put o.dst (.bool (!b))) w) : o.wp P a w K Q := by
  have hrun : (execOp a.eval o).run P w = .ok (.value (.bool (!b))) w := by
    simp only [execOp, ho, hx]
    go_simp
  unfold Oper.wp
  rw [hrun]
  exact hK
/-- What is kept while the turns are handed on. -/
structure UI (J : Nat → List (Nat × Tn) → World → Prop) (G : Nat → Prop) (l : Nat) (w2 : World) (B : Nat) (pre : List (Nat × Tn)) (X : World) : Prop where
  j : J B (mp pre) X
  b : w2.heap.size < B
  c : Chg (fun k => (G k ∨ k = l) ∨ w2.heap.size ≤ k) w2 X
set_option maxHeartbeats 4000000 in
set_option maxRecDepth 100000 in
theorem up1_hands (Bx D lo hi c : Nat) (A : List Tn) (hA : A.length = 64) (hc : c ≤ 64) (w : World) (hbox : Blk w Bx 66 [.pointer (some ⟨D, 0, none⟩)]) (hD : Blk w D 50 (WC lo hi A c)) {G : Nat → Prop} (hGl : ∀ k, G k → k < w.heap.size) (hGb : ¬ G Bx) (hGd : ¬ G D) :
    Hands3 Tryd.prog 39 #[.pointer (some ⟨Bx, 0, none⟩)] tbV (upR (A.take c).reverse) (fun xs => xs.length = (A.take c).reverse.length) G w := by
  intro l J Jx W hW hl1 hl2 h0 hJ hJx hJp hJxp hY
  have HA := hide hA
  have HY := hide hY
  have H0 := hide h0
  have HJ := hide hJ
  have HJX := hide hJx
  have HJP := hide hJp
  have HJXP := hide hJxp
  have HGL := hide hGl
  have HGB := hide hGb
  have HGD := hide hGd
  have HL1 := hide hl1
  have HL2 := hide hl2
  have HBX := hide hbox
  have HDD := hide hD
  have HTL : Hid ((A.take c).length = c) := (show _ = _ by rw [List.length_take, hA]; omega)
  have hws := hW.size
  have BX0 := hide (hbox.kept hW)
  have BD0 := hide (hD.kept hW)
  obtain ⟨M, HM⟩ : ∃ M, Hid (W.heap.size = M) := ⟨_, rfl⟩
  have hsl := slice_arr D c hc
  clear hY h0 hJ hJx hJp hJxp hGl hGb hGd hl1 hl2 hbox hD hA hws
  obtain ⟨N0, -⟩ : ∃ n : Nat, True := ⟨9, trivial⟩
  refine (callsIn_wide (n := N0)).1 ?_
  refine callsIn_of_wp_marks Tryd.func39 rfl trivial ?_ rfl
  simp only [Tryd.ntmps39, List.size_toArray, List.length_cons, List.length_nil, Nat.reduceAdd, Nat.reduceSub, Array.replicate_succ, Array.replicate_zero, List.push_toArray, List.append_toArray, List.nil_append, List.cons_append]
  gi_wp2_with fail
  obtain ⟨W1, hW1⟩ : ∃ z, z = W.alloc (.cells #[.func (.yield l) #[] #[]] 67 (0, 0)) := ⟨_, rfl⟩
  change Code.wpIn _ _ _ _ _ _ (W.alloc (.cells #[.func (.yield l) #[] #[]] 67 (0, 0)))
  rw [show W.alloc (.cells #[.func (.yield l) #[] #[]] 67 (0, 0)) = W1 from hW1.symm, HM.out]
  have BY1 : Hid (Blk W1 M 67 [.func (.yield l) #[] #[]]) := (show Blk _ _ _ _ by rw [hW1, ← HM.out]; exact Blk.new W _ [.func (.yield l) #[] #[]])
  have LM1 : Hid (Below W.heap.size W W1) := (show Below _ _ _ by rw [hW1]; exact (Below.refl _ _).alloc (Nat.le_refl _) _)
  have S1 : Hid (W1.heap.size = M + 1) := (show _ = _ by rw [hW1]; simp [HM.out])
  have BX1 := hide (BX0.out.kept LM1.out)
  have BD1 := hide (BD0.out.kept LM1.out)
  clear hW1
  refine wpIn_region_tails op_inW Tryd.mixed (by decide +kernel) (KS (fun i_ => match i_ with | 0 | 1 | 3 | 4 => .val (.pointer (some ⟨D, 0, none⟩)) | 2 => .val (.pointer (some ⟨D, 2, none⟩)) | 5 => .val (.pointer (some ⟨D, 194, none⟩)) | 6 => .val (.int .i64 (c : Int)) | 7 => .val (.slice (some ⟨D, 2, none⟩) c 64) | _ => .free)) 27 rfl (by decide +kernel) 8 (by decide) (by decide +kernel) (KS_mono _) ?_ ?_
  · refine AllFrom.cons ⟨rfl, fun a' w' hg hk hd => ?_⟩ (AllFrom.cons ⟨rfl, fun a' w' hg hk hd => ?_⟩ (AllFrom.cons ⟨rfl, fun a' w' hg hk hd => ?_⟩ (AllFrom.cons ⟨rfl, fun a' w' hg hk hd => ?_⟩ (AllFrom.cons ⟨rfl, fun a' w' hg hk hd => ?_⟩ (AllFrom.cons ⟨rfl, fun a' w' hg hk hd => ?_⟩ (AllFrom.cons ⟨rfl, fun a' w' hg hk hd => ?_⟩ (AllFrom.cons ⟨rfl, fun a' w' hg hk hd => ?_⟩ AllFrom.nil)))))))
    · skip
      intro Q
      have e1 : a'.eval (.tmp 1) = .pointer (some ⟨Bx, 0, none⟩) := hk.at 1 (by decide +kernel)
      have hc := (BX1.out.kept hg).cell (j := 0) rfl
      clear hd hk
      exact wp_value (.pointer (some ⟨D, 0, none⟩)) (by simp only [execOp, e1]; go_simp) (KS_mkv rfl rfl)
    · skip
      intro Q
      have e5 : a'.eval (.tmp 5) = .pointer (some ⟨D, 0, none⟩) := KS_val (hd.val 0 5 (by decide +kernel)) rfl
      clear hd hk
      exact wp_value (.pointer (some ⟨D, 0, none⟩)) (by simp only [execOp, e5]; go_simp) (KS_mkv rfl rfl)
    · skip
      intro Q
      have e6 : a'.eval (.tmp 6) = .pointer (some ⟨D, 0, none⟩) := KS_val (hd.val 1 6 (by decide +kernel)) rfl
      clear hd hk
      exact wp_value (.pointer (some ⟨D, 2, none⟩)) (by simp only [execOp, e6]; go_simp) (KS_mkv rfl rfl)
    · skip
      intro Q
      have e1 : a'.eval (.tmp 1) = .pointer (some ⟨Bx, 0, none⟩) := hk.at 1 (by decide +kernel)
      have hc := (BX1.out.kept hg).cell (j := 0) rfl
      clear hd hk
      exact wp_value (.pointer (some ⟨D, 0, none⟩)) (by simp only [execOp, e1]; go_simp) (KS_mkv rfl rfl)
    · skip
      intro Q
      have e8 : a'.eval (.tmp 8) = .pointer (some ⟨D, 0, none⟩) := KS_val (hd.val 3 8 (by decide +kernel)) rfl
      clear hd hk
      exact wp_value (.pointer (some ⟨D, 0, none⟩)) (by simp only [execOp, e8]; go_simp) (KS_mkv rfl rfl)
    · skip
      intro Q
      have e9 : a'.eval (.tmp 9) = .pointer (some ⟨D, 0, none⟩) := KS_val (hd.val 4 9 (by decide +kernel)) rfl
      clear hd hk
      exact wp_value (.pointer (some ⟨D, 194, none⟩)) (by simp only [execOp, e9]; go_simp) (KS_mkv rfl rfl)
    · skip
      intro Q
      have e10 : a'.eval (.tmp 10) = .pointer (some ⟨D, 194, none⟩) := KS_val (hd.val 5 10 (by decide +kernel)) rfl
      have hc := (BD1.out.kept hg).cell (WC_count HA.out)
      clear hd hk
      exact wp_value (.int .i64 (c : Int)) (by simp only [execOp, e10]; go_simp) (KS_mkv rfl rfl)
    · skip
      intro Q
      have e7 : a'.eval (.tmp 7) = .pointer (some ⟨D, 2, none⟩) := KS_val (hd.val 2 7 (by decide +kernel)) rfl
      have e11 : a'.eval (.tmp 11) = .int .i64 (c : Int) := KS_val (hd.val 6 11 (by decide +kernel)) rfl
      clear hd hk
      exact wp_value (.slice (some ⟨D, 2, none⟩) c 64) (by simp only [execOp, e7, e11, hsl, Option.map_none, Option.map_some, Sem.run_bind, Sem.run_pure, Result.andThen_ok]) (KS_mkv rfl rfl)
  intro a' w' hsz hdf hk hall hg
  have e5 : a'.eval (.tmp 5) = .pointer (some ⟨D, 0, none⟩) := KS_val (hall 0 _ 5 (by decide) rfl rfl) rfl
  have e6 : a'.eval (.tmp 6) = .pointer (some ⟨D, 0, none⟩) := KS_val (hall 1 _ 6 (by decide) rfl rfl) rfl
  have e7 : a'.eval (.tmp 7) = .pointer (some ⟨D, 2, none⟩) := KS_val (hall 2 _ 7 (by decide) rfl rfl) rfl
  have e8 : a'.eval (.tmp 8) = .pointer (some ⟨D, 0, none⟩) := KS_val (hall 3 _ 8 (by decide) rfl rfl) rfl
  have e9 : a'.eval (.tmp 9) = .pointer (some ⟨D, 0, none⟩) := KS_val (hall 4 _ 9 (by decide) rfl rfl) rfl
  have e10 : a'.eval (.tmp 10) = .pointer (some ⟨D, 194, none⟩) := KS_val (hall 5 _ 10 (by decide) rfl rfl) rfl
  have e11 : a'.eval (.tmp 11) = .int .i64 (c : Int) := KS_val (hall 6 _ 11 (by decide) rfl rfl) rfl
  have e12 : a'.eval (.tmp 12) = .slice (some ⟨D, 2, none⟩) c 64 := KS_val (hall 7 _ 12 (by decide) rfl rfl) rfl
  refine ⟨rfl, op_inW (fun c h => by cases h) ?_⟩
  refine Oper.wp_mono ?_ (wp_call (S := fun w v => (∃ b, v = .func (.func 46) #[] #[.pointer (some ⟨b, 0, none⟩)] ∧ Blk w b 69 [.slice (some ⟨D, 2, none⟩) c 64] ∧ M + 1 ≤ b) ∧ Below W1.heap.size W1 w) 40 _ (run_enter 40 _ _ rfl (by kernel_rfl)) ?_)
  rotate_left
  · simp only [List.map_toArray, List.map_nil, List.map_cons, e12]
    refine (tbackward_any _ _ _ _).mono ?_
    rintro e w5 ⟨rfl, rfl⟩
    exact ⟨_, rfl, ⟨⟨_, rfl, Blk.new _ _ _, by have := hg.size; have := S1.out; omega⟩, Below.trans hg ((Below.refl _ _).alloc hg.size _)⟩, (Below.refl _ _).alloc (Nat.le_refl _) _⟩
  rintro a2 w2 ⟨v, rfl, ⟨⟨E, rfl, hE, hME⟩, hg2⟩, -⟩
  refine ⟨_, rfl, ?_⟩
  show Exit.then _ _ Exit.normal (a'.put (some 13) (.func (.func 46) #[] #[.pointer (some ⟨E, 0, none⟩)])) w2
  have ha := act_puts 27 rfl hsz hdf hk [5, 6, 7, 8, 9, 10, 11, 12, 13] (by decide +kernel)
  obtain ⟨z13, e13⟩ : ∃ v, a'.eval (.tmp 13) = v := ⟨_, rfl⟩
  simp only [puts, List.foldl_cons, List.foldl_nil, e5, e6, e7, e8, e9, e10, e11, e12, e13] at ha
  simp only [Act.put, List.setIfInBounds_toArray, List.set_cons_succ, List.set_cons_zero] at ha
  clear hall hk hsz hdf hg e5 e6 e7 e8 e9 e10 e11 e12 e13
  subst ha
  simp only [Act.put, List.setIfInBounds_toArray, List.set_cons_succ, List.set_cons_zero]
  have hg := hg2
  clear hg2
  have BE2 := hide hE
  have HME := hide hME
  have G2 := hide hg
  have BY2 := hide (BY1.out.kept hg)
  have BX2 := hide (BX1.out.kept hg)
  have BD2 := hide (BD1.out.kept hg)
  have L2 : Hid (Below W.heap.size W w2) := LM1.out.trans (Below.mono hg LM1.out.size)
  have RT2 := hide (WC_turns BD2.out HA.out hc)
  have hw2 : M + 1 ≤ w2.heap.size := by have := hg.size; rw [S1.out] at this; exact this
  have hwM : w.heap.size ≤ M := by rw [← HM.out]; exact hW.size
  have hlM : l < M := by rw [← HM.out]; exact HL2.out
  have hDw := HDD.out.lt
  have hBw := HBX.out.lt
  have hlw := HL1.out
  clear hg hE hME
  gi_wp2_with fail
  refine wp_ranged4 (n := N0) (gf := 46) (lb := #[.pointer (some ⟨E, 0, none⟩)]) rfl (enters_of Tryd.func46 (by kernel_rfl) rfl) (encs := tbV) (fun _ => rfl) (R := tbR (A.take c)) (S := fun xs => xs.length = (A.take c).length) (UI J G l w2) (fun c_ B pre X => c_ = .ret ∧ w2.heap.size < B ∧ Jx B (mp pre) X) ?ip ?xp ?ib ?xb ?h0 (G := fun k => G k ∨ k = l)
    (tbackward1_hands E (some ⟨D, 2, none⟩) 64 (A.take c) w2 ?c1 BE2.out.lt ?c3 ?c4 ?c5 ?c6)
    (fun x h => { tmps := #[.func (.yield l) #[] #[], .pointer (some ⟨Bx, 0, none⟩), .pointer (some ⟨M, 0, none⟩), .int .i64 (x.1 : Int), .pointer (some ⟨h, 0, none⟩), .pointer (some ⟨D, 0, none⟩), .pointer (some ⟨D, 0, none⟩), .pointer (some ⟨D, 2, none⟩), .pointer (some ⟨D, 0, none⟩), .pointer (some ⟨D, 0, none⟩), .pointer (some ⟨D, 194, none⟩), .int .i64 (c : Int), .slice (some ⟨D, 2, none⟩) c 64, .func (.func 46) #[] #[.pointer (some ⟨E, 0, none⟩)], .int .i64 (x.1 : Int), .agg (TE.c x.2).toArray, undef, undef, undef, undef, undef, undef, undef, undef, undef, undef, undef], defers := [] }) (fun x h X => Blk X h 47 (TE.c x.2)) ?ap ?assign ?body ?done ?left
  case c1 => rw [HTL.out]; exact BE2.out.cell rfl
  case c3 => rw [HTL.out]; exact RT2.out
  case c4 => rw [HTL.out]; omega
  case c5 =>
    rintro (h | h)
    · have := HGL.out _ h; have := HME.out; omega
    · have := HME.out; omega
  case c6 =>
    rw [HTL.out]
    intro b' hb' h
    obtain ⟨o', n', c', e', hp'⟩ := hb'
    simp only [Value.slice.injEq, Option.some.injEq, Addr.mk.injEq, and_true] at e'
    obtain ⟨⟨rfl, -⟩, -, -⟩ := e'
    rcases h with h | h
    · exact HGD.out h
    · omega
  case ip =>
    intro B pre X k o0 o hk hX hn hI
    exact ⟨HJP.out _ _ _ _ _ _ (by rw [HM.out]; omega) hX hn hI.j, hI.b, hI.c.trans (chg_put (.inr hk) o)⟩
  case xp =>
    rintro c_ B pre X k o0 o hk hX hn ⟨rfl, hb, hj⟩
    exact ⟨rfl, hb, HJXP.out _ _ _ _ _ _ (by rw [HM.out]; omega) hX hn hj⟩
  case ib =>
    intro B pre X Y hI hb
    exact ⟨HJ.out _ _ _ _ hI.j hb, hI.b, hI.c.trans (Chg.of_below hb)⟩
  case xb =>
    rintro c_ B pre X Y ⟨rfl, h1, hj⟩ hb
    exact ⟨rfl, h1, HJX.out _ _ _ _ hj hb⟩
  case h0 =>
    intro X hX hlt
    exact ⟨H0.out X (L2.out.trans (hX.mono L2.out.size)), hlt, Chg.of_below hX⟩
  case ap =>
    intro x h X k o0 o hk hX hn hB
    exact hB.put10 hX hn
  case assign =>
    intro m l' x X K' hle hK
    have BW := Blk.new X 47 (TE.c Tz)
    simp only [tbV]
    gi_wp2_with (first
      | (refine wpListIn_store_blk rfl 47 _ _ rfl X.heap.size (TE.c Tz) (TE.c x.2) 47 rfl rfl BW rfl Tryd.sizeTn (TE.one _) ?_; intro w5 hb5 hu5)
      | fail)
    exact hK w5 (((Below.refl _ _).alloc (Nat.le_refl _) _).trans (hu5.below (Nat.le_refl _) (by simp))) hb5
  case body =>
    rintro m l' B pre ⟨r, t⟩ h X hwB hBh hle hI hR hA
    obtain ⟨hR1, hR2⟩ := hR
    rw [HTL.out] at hR1
    simp only at hR1 hR2 hA
    have ij := hide hI.j
    have ic := hide hI.c
    have BY := hide (BY2.out.chg hI.c (by rintro ((h | h) | h); have := HGL.out _ h; omega; omega; have := BY2.out.lt; omega))
    have BXr := hide (BX2.out.chg hI.c (by rintro ((h | h) | h); exact HGB.out h; omega; have := BX2.out.lt; omega))
    have BDr := hide (BD2.out.chg hI.c (by rintro ((h | h) | h); exact HGD.out h; omega; have := BD2.out.lt; omega))
    have HAf := hide hA
    obtain ⟨p, HPL⟩ : ∃ p, Hid (pre.length = p) := ⟨_, rfl⟩
    rw [HPL.out] at hR1
    have hpr : (c : Int) - 1 - (r : Int) = (p : Int) := by omega
    have hidx : (A.take c).reverse[p]? = some t := by
      rw [List.getElem?_reverse (by rw [HTL.out]; omega), HTL.out, show c - 1 - p = r by omega]
      exact hR2
    have HIDX := hide hidx
    have HIB := hide hI.b
    clear hI hA hidx hR2
    gi_wp2_with fail
    refine wpIn_region_tails op_in Tryd.mixed (by decide +kernel) (KS (fun i_ => match i_ with | 0 => .val (.func (.yield l) #[] #[]) | 1 | 2 => .val (.pointer (some ⟨D, 0, none⟩)) | 3 => .val (.pointer (some ⟨D, 194, none⟩)) | 4 => .val (.int .i64 (c : Int)) | 5 => .val (.int .i64 ((c : Int) - 1)) | 6 => .val (.int .i64 (r : Int)) | 7 => .val (.int .i64 (p : Int)) | 8 => .val (.agg (TE.c t).toArray) | _ => .free)) 27 rfl (by decide +kernel) 9 (by decide) (by decide +kernel) (KS_mono _) ?_ ?_
    · refine AllFrom.cons ⟨rfl, fun a' w' hg hk hd => ?_⟩ (AllFrom.cons ⟨rfl, fun a' w' hg hk hd => ?_⟩ (AllFrom.cons ⟨rfl, fun a' w' hg hk hd => ?_⟩ (AllFrom.cons ⟨rfl, fun a' w' hg hk hd => ?_⟩ (AllFrom.cons ⟨rfl, fun a' w' hg hk hd => ?_⟩ (AllFrom.cons ⟨rfl, fun a' w' hg hk hd => ?_⟩ (AllFrom.cons ⟨rfl, fun a' w' hg hk hd => ?_⟩ (AllFrom.cons ⟨rfl, fun a' w' hg hk hd => ?_⟩ (AllFrom.cons ⟨rfl, fun a' w' hg hk hd => ?_⟩ AllFrom.nil))))))))
      · skip
        intro Q
        have e2 : a'.eval (.tmp 2) = .pointer (some ⟨M, 0, none⟩) := hk.at 2 (by decide +kernel)
        have hc := (BY.out.kept hg).cell (j := 0) rfl
        clear hd hk
        exact wp_value (.func (.yield l) #[] #[]) (by simp only [execOp, e2]; go_simp) (KS_mkv rfl rfl)
      · skip
        intro Q
        have e1 : a'.eval (.tmp 1) = .pointer (some ⟨Bx, 0, none⟩) := hk.at 1 (by decide +kernel)
        have hc := (BXr.out.kept hg).cell (j := 0) rfl
        clear hd hk
        exact wp_value (.pointer (some ⟨D, 0, none⟩)) (by simp only [execOp, e1]; go_simp) (KS_mkv rfl rfl)
      · skip
        intro Q
        have e17 : a'.eval (.tmp 17) = .pointer (some ⟨D, 0, none⟩) := KS_val (hd.val 1 17 (by decide +kernel)) rfl
        clear hd hk
        exact wp_value (.pointer (some ⟨D, 0, none⟩)) (by simp only [execOp, e17]; go_simp) (KS_mkv rfl rfl)
      · skip
        intro Q
        have e18 : a'.eval (.tmp 18) = .pointer (some ⟨D, 0, none⟩) := KS_val (hd.val 2 18 (by decide +kernel)) rfl
        clear hd hk
        exact wp_value (.pointer (some ⟨D, 194, none⟩)) (by simp only [execOp, e18]; go_simp) (KS_mkv rfl rfl)
      · skip
        intro Q
        have e19 : a'.eval (.tmp 19) = .pointer (some ⟨D, 194, none⟩) := KS_val (hd.val 3 19 (by decide +kernel)) rfl
        have hc := (BDr.out.kept hg).cell (WC_count HA.out)
        clear hd hk
        exact wp_value (.int .i64 (c : Int)) (by simp only [execOp, e19]; go_simp) (KS_mkv rfl rfl)
      · skip
        intro Q
        have e20 : a'.eval (.tmp 20) = .int .i64 (c : Int) := KS_val (hd.val 4 20 (by decide +kernel)) rfl
        clear hd hk
        have hw : IntKind.i64.wrap ((c : Int) - 1) = (c : Int) - 1 := wr64 (by omega) (by omega)
        exact wp_value (.int .i64 ((c : Int) - 1)) (by simp only [execOp, e20]; go_simp) (KS_mkv rfl rfl)
      · skip
        intro Q
        have e3 : a'.eval (.tmp 3) = .int .i64 (r : Int) := hk.at 3 (by decide +kernel)
        exact wp_value _ (by simp only [execOp, e3]; rfl) (KS_mkv rfl rfl)
      · skip
        intro Q
        have e21 : a'.eval (.tmp 21) = .int .i64 ((c : Int) - 1) := KS_val (hd.val 5 21 (by decide +kernel)) rfl
        have e22 : a'.eval (.tmp 22) = .int .i64 (r : Int) := KS_val (hd.val 6 22 (by decide +kernel)) rfl
        clear hd hk
        have hw : IntKind.i64.wrap ((p : Int)) = (p : Int) := wr64 (by omega) (by omega)
        have hq : (c : Int) - 1 - (r : Int) = (p : Int) := hpr
        exact wp_value (.int .i64 (p : Int)) (by simp only [execOp, e21, e22]; go_simp) (KS_mkv rfl rfl)
      · skip
        intro Q
        have e4 : a'.eval (.tmp 4) = .pointer (some ⟨h, 0, none⟩) := hk.at 4 (by decide +kernel)
        exact wp_load_row 47 _ rfl _ _ e4 (TE.c t) _ ((HAf.out.kept hg).range0) Tryd.underlying47 rfl (Tryd.sizeTn) (KS_mkv rfl rfl)
    · intro a' w5 hsz hdf hk hall hg
      have e16 : a'.eval (.tmp 16) = .func (.yield l) #[] #[] := KS_val (hall 0 _ 16 (by decide) rfl rfl) rfl
      have e17 : a'.eval (.tmp 17) = .pointer (some ⟨D, 0, none⟩) := KS_val (hall 1 _ 17 (by decide) rfl rfl) rfl
      have e18 : a'.eval (.tmp 18) = .pointer (some ⟨D, 0, none⟩) := KS_val (hall 2 _ 18 (by decide) rfl rfl) rfl
      have e19 : a'.eval (.tmp 19) = .pointer (some ⟨D, 194, none⟩) := KS_val (hall 3 _ 19 (by decide) rfl rfl) rfl
      have e20 : a'.eval (.tmp 20) = .int .i64 (c : Int) := KS_val (hall 4 _ 20 (by decide) rfl rfl) rfl
      have e21 : a'.eval (.tmp 21) = .int .i64 ((c : Int) - 1) := KS_val (hall 5 _ 21 (by decide) rfl rfl) rfl
      have e22 : a'.eval (.tmp 22) = .int .i64 (r : Int) := KS_val (hall 6 _ 22 (by decide) rfl rfl) rfl
      have e23 : a'.eval (.tmp 23) = .int .i64 (p : Int) := KS_val (hall 7 _ 23 (by decide) rfl rfl) rfl
      have e24 : a'.eval (.tmp 24) = .agg (TE.c t).toArray := KS_val (hall 8 _ 24 (by decide) rfl rfl) rfl
      obtain ⟨fn, tmps, assign, body, hy, hRR⟩ := HY.out B (mp pre) (p, t) w5 (by rw [HM.out]; omega) (HJ.out _ _ _ _ ij.out hg) ⟨by rw [mp_len, HPL.out], HIDX.out⟩
      simp only [tbV] at hy
      refine ⟨rfl, wpIn_yield _ _ _ _ rfl e16 e23 e24 hy hRR ?_⟩
      rintro e w6 ⟨hc6, hk6, hcase⟩
      have hc7 : Chg (fun k => (G k ∨ k = l) ∨ B ≤ k) X w6 := (Chg.of_below hg).trans (hc6.mono (fun i _ h => by rcases h with h | h | h; exact .inl (.inl h); exact .inl (.inr h); exact .inr h))
      have hk7 : KeepsFrom w2.heap.size X w6 := (keeps_below hg).trans (keeps_mono hk6 (by have := L2.out.size; omega))
      have hc8 : Chg (fun k => (G k ∨ k = l) ∨ w2.heap.size ≤ k) w2 w6 := ic.out.trans (hc7.mono (fun i _ h => by rcases h with h | h; exact .inl h; exact .inr (by have := HIB.out; omega)))
      have ha := act_puts 27 rfl hsz hdf hk [16, 17, 18, 19, 20, 21, 22, 23, 24, 25, 26] (by decide +kernel)
      have hs0 : a'.tmps.size = 27 := hsz
      obtain ⟨z25, e25⟩ : ∃ v, a'.eval (.tmp 25) = v := ⟨_, rfl⟩
      obtain ⟨z26, e26⟩ : ∃ v, a'.eval (.tmp 26) = v := ⟨_, rfl⟩
      simp only [puts, List.foldl_cons, List.foldl_nil, e16, e17, e18, e19, e20, e21, e22, e23, e24, e25, e26] at ha
      simp only [Act.put, List.setIfInBounds_toArray, List.set_cons_succ, List.set_cons_zero] at ha
      clear hall hk hsz hdf e16 e17 e18 e19 e20 e21 e22 e23 e24 e25 e26 hy hRR hc6 hk6
      have HJS : Hid (mp pre ++ [(p, t)] = mp (pre ++ [(r, t)])) := (show _ = _ by rw [mp_snoc, HPL.out])
      rw [HJS.out] at hcase
      rcases hcase with ⟨rfl, hj⟩ | ⟨rfl, hj⟩
      · refine ⟨_, rfl, _, rfl, rfl, op_in (fun c h => by cases h) (wp_not _ _ rfl true (eval_put_same (by rw [hs0]; decide)) ⟨_, rfl, ?_⟩)⟩
        show Exit.then _ _ Exit.normal _ w6
        subst ha
        simp only [Act.put, List.setIfInBounds_toArray, List.set_cons_succ, List.set_cons_zero]
        gi_wp2_with fail
        exact ⟨hk7, hc7, hj, HIB.out, hc8⟩
      · refine ⟨_, rfl, _, rfl, rfl, op_in (fun c h => by cases h) (wp_not _ _ rfl false (eval_put_same (by rw [hs0]; decide)) ⟨_, rfl, ?_⟩)⟩
        show Exit.then _ _ Exit.normal _ w6
        subst ha
        simp only [Act.put, List.setIfInBounds_toArray, List.set_cons_succ, List.set_cons_zero]
        gi_wp2_with fail
        exact ⟨hk7, hc7, rfl, hj⟩

  case done =>
    rintro Dd B xs X hDd hDB hS hI hd
    gi_wp2_with fail
    refine ⟨by simp, .inl ⟨_, _, rfl, run_takeDeferred hd, ?_⟩⟩
    refine ⟨_, results_none rfl _ _ _, ⟨_, rfl⟩, .inl ⟨B, mp xs, ?_, HJP.out _ _ _ _ _ _ (by rw [HM.out]; omega) hd rfl hI.j⟩⟩
    rw [mp_len, List.length_reverse]
    exact hS
  case left =>
    rintro Dd B c_ xs X hDd hDB ⟨rfl, hb, hj⟩ hd
    gi_wp2_with fail
    refine ⟨by simp, .inl ⟨_, _, rfl, run_takeDeferred hd, ?_⟩⟩
    exact ⟨_, results_none rfl _ _ _, ⟨_, rfl⟩, .inr ⟨B, mp xs, HJXP.out _ _ _ _ _ _ (by rw [HM.out]; omega) hd rfl hj⟩⟩
#print axioms up1_hands
end Go.Proofs.YtfclmjfbcmjfbaaDoor
