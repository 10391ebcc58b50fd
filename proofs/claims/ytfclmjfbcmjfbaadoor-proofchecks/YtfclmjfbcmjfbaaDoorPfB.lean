/-
  (*way).both: what the call does.
-/
import Derived.Test.YtfclmjfbcmjfbaaDoorGPd
import Derived.Test.YtfclmjfbcmjfbaaDoorRegion11
namespace Go.Proofs.YtfclmjfbcmjfbaaDoor
open Go.RowKit Go.Shelf
attribute [local go_sem] Oper.semAt_some
theorem pv_no {ps : List Nat} {i : Nat} (h : i ∉ ps) (j : Nat) : ¬ ps[j]? = some i := fun e => h (List.mem_of_getElem? e)
theorem pv_at {ps : List Nat} {i m j : Nat} (hn : ps.Nodup) (hm : ps[m]? = some i) (hj : ps[j]? = some i) : j = m := (List.getElem?_inj (List.getElem?_eq_some_iff.1 hj).1 hn).1 (hj.trans hm.symm)
theorem wp_same {P : Program} {o : Oper} {a : Act} {w : World} {C : World → Prop} {Q : Exit → Act → World → Prop} (v : Value) (hrun : (execOp a.eval o).run P w = .ok (.value v) w) (hC : C w) : o.wp P a w (fun a' w' => a' = a.put o.dst v ∧ C w') Q := by
  unfold Oper.wp
  rw [hrun]
  exact ⟨rfl, hC⟩
theorem wp_callC {P : Program} {o : Oper} {a : Act} {w : World} {C : World → Prop} {Q : Exit → Act → World → Prop} (f : FuncId) (args : Array Value) (v : Value) (hrun : (execOp a.eval o).run P w = .ok (.enter f args) w) (hc : Calls P f args w fun e w' => e = .returned v ∧ C w') : o.wp P a w (fun a' w' => a' = a.put o.dst v ∧ C w') Q := by
  unfold Oper.wp
  rw [hrun]
  refine hc.mono ?_
  rintro e w' ⟨rfl, hC⟩
  exact ⟨rfl, hC⟩
theorem wp_sameRow {P : Program} {o : Oper} {a : Act} {w : World} {C : World → Prop} {Q : Exit → Act → World → Prop} (ty : TypeId) (x : Operand) (ho : o.op = .load ty x) (b off : Nat) (hx : a.eval x = .pointer (some ⟨b, off, none⟩))
    (cs : List Value) (d : TypeDesc) (hc : w.rangeAt b off cs) (hu : P.underlying ty = some d) (hd : d.isRow = true) (hi : (P.info? ty).map (·.size) = some cs.length) (hC : C w) : o.wp P a w (fun a' w' => a' = a.put o.dst (.agg cs.toArray) ∧ C w') Q := by
  refine wp_same _ ?_ hC
  simp only [execOp, ho, hx, Instr.loadAt, Instr.sureAddr, Sem.run_bind, Sem.run_pure, Result.andThen_ok, run_loadVar_mid w b off ty cs d hc hu hd hi]
theorem results_hh {P : Program} {fn : Func} {p q : Tmp} {ty : TypeId} (h : fn.results = #[.cell p ty, .cell q ty]) (tmps : Array Value) (w : World) (g g' : Nat) (T : TypeId) (cs ds : List Value) {d : TypeDesc}
    (hp : tmps.getD p undef = .pointer (some ⟨g, 0, none⟩)) (hq : tmps.getD q undef = .pointer (some ⟨g', 0, none⟩)) (hB : Blk w g T cs) (hB' : Blk w g' T ds) (hu : P.underlying ty = some d) (hd : d.isRow = true) (hi : (P.info? ty).map (·.size) = some cs.length) (hi' : (P.info? ty).map (·.size) = some ds.length) :
    (results fn tmps).run P w = .ok (.tuple #[.agg cs.toArray, .agg ds.toArray]) w := by
  have h1 := run_loadVar_mid (P := P) w g 0 ty cs d hB.range0 hu hd hi
  have h2 := run_loadVar_mid (P := P) w g' 0 ty ds d hB'.range0 hu hd hi'
  rw [Array.getD_eq_getD_getElem?] at hp hq
  simp only [results, h]
  simp [Sem.run_bind, Result.andThen, hp, hq, asAddr, h1, h2]
theorem results_hhb {P : Program} {fn : Func} {p q u : Tmp} {ty : TypeId} (h : fn.results = #[.cell p ty, .cell q ty, .tmp u]) (tmps : Array Value) (w : World) (g g' : Nat) (T : TypeId) (cs ds : List Value) (b : Value) {d : TypeDesc}
    (hp : tmps.getD p undef = .pointer (some ⟨g, 0, none⟩)) (hq : tmps.getD q undef = .pointer (some ⟨g', 0, none⟩)) (hb : tmps.getD u undef = b) (hB : Blk w g T cs) (hB' : Blk w g' T ds) (hu : P.underlying ty = some d) (hd : d.isRow = true) (hi : (P.info? ty).map (·.size) = some cs.length) (hi' : (P.info? ty).map (·.size) = some ds.length) :
    (results fn tmps).run P w = .ok (.tuple #[.agg cs.toArray, .agg ds.toArray, b]) w := by
  have h1 := run_loadVar_mid (P := P) w g 0 ty cs d hB.range0 hu hd hi
  have h2 := run_loadVar_mid (P := P) w g' 0 ty ds d hB'.range0 hu hd hi'
  rw [Array.getD_eq_getD_getElem?] at hp hq hb
  simp only [results, h]
  simp [Sem.run_bind, Result.andThen, hp, hq, hb, asAddr, h1, h2]
/-- What is kept while both roots are found. -/
structure BI (w4 : World) (N E1 E2 : Nat) (F : List Tn) (x : Hs) (p : List Hs) (B : Nat) (pre : List (Nat × Tn)) (X : World) : Prop where
  e : Blk X E1 30 (By (bothW (F.take pre.length) x x (p.take pre.length)).1.1)
  l : Blk X E2 30 (By (bothW (F.take pre.length) x x (p.take pre.length)).2.1)
  r1 : Blk X (N + 1 + 1) 30 (By zh.1)
  r2 : Blk X (N + 1 + 1 + 1) 30 (By zh.1)
  c : Chg (fun k => (k = E1 ∨ k = E2) ∨ w4.heap.size ≤ k) w4 X
  b : w4.heap.size < B
theorem BI.chg {w4 : World} {N E1 E2 : Nat} {F : List Tn} {x : Hs} {p : List Hs} {B : Nat} {pre : List (Nat × Tn)} {X Y : World} (h : BI w4 N E1 E2 F x p B pre X) {G : Nat → Prop} (hc : Chg G X Y) (hG : ∀ k, k < w4.heap.size → ¬ G k) (hN : N + 1 + 1 + 1 < w4.heap.size) (hE1 : E1 < w4.heap.size) (hE2 : E2 < w4.heap.size) : BI w4 N E1 E2 F x p B pre Y :=
  ⟨h.e.chg hc (hG _ hE1), h.l.chg hc (hG _ hE2), h.r1.chg hc (hG _ (by omega)), h.r2.chg hc (hG _ hN), h.c.then hc (fun i hi hg => absurd hg (hG i hi)), h.b⟩
set_option maxHeartbeats 8000000 in
set_option maxRecDepth 100000 in
theorem both_any (D lo hi c : Nat) (A : List Tn) (hA : A.length = 64) (hc : c ≤ 64) (x : Hs) (pv : Value) (p : List Hs) (hl : p.length = c) (w : World) (hT : Tabs w) (hD : Blk w D 50 (WC lo hi A c)) (hP : RdG HE w pv p) :
    Calls Tryd.prog 33 #[.pointer (some ⟨D, 0, none⟩), HV x, pv] w fun e w' => e = .returned (.tuple #[HV (bothW (A.take c).reverse x x p).1, HV (bothW (A.take c).reverse x x p).2]) ∧ Below w.heap.size w w' := by
  obtain ⟨pa, cp, rfl⟩ := hP.slice
  obtain ⟨N, HNw⟩ : ∃ N, Hid (w.heap.size = N) := ⟨_, rfl⟩
  have HNT : Hid (2 ≤ N) := (show 2 ≤ N by rw [← HNw.out]; exact hT.size)
  have HT := hide hT
  have RP := hide hP
  have HPL := hide hl
  have HA := hide hA
  have HD := hide hD
  have HC64 := hide hc
  have hDl : D < N := by rw [← HNw.out]; exact hD.lt
  rw [hl] at RP ⊢
  have HTR : Hid ((A.take c).reverse.length = c) := (show _ = _ by rw [List.length_reverse, List.length_take, hA]; omega)
  obtain ⟨F, HF⟩ : ∃ F, Hid ((A.take c).reverse = F) := ⟨_, rfl⟩
  rw [HF.out] at HTR ⊢
  clear hP hT hl hA hD hc
  obtain ⟨N0, -⟩ : ∃ n : Nat, True := ⟨9, trivial⟩
  refine (callsIn_wide (n := N0)).1 ?_
  change CallsIn _ _ _ _ #[.pointer (some ⟨D, 0, none⟩), .agg (By x.1).toArray, .slice pa c cp] _ _
  refine callsIn_of_wp_marks Tryd.func33 rfl trivial ?_ rfl
  simp only [Tryd.ntmps33, List.size_toArray, List.length_cons, List.length_nil, Nat.reduceAdd, Nat.reduceSub, Array.replicate_succ, Array.replicate_zero, List.push_toArray, List.append_toArray, List.nil_append, List.cons_append]
  gi_wp2_with fail
  obtain ⟨w0, hw0⟩ : ∃ z, z = (((w.alloc (.cells (By x.1).toArray 30 (0, 0))).alloc (.cells [.slice pa c cp].toArray 22 (0, 0))).alloc (.cells (By zh.1).toArray 30 (0, 0))).alloc (.cells (By zh.1).toArray 30 (0, 0)) := ⟨_, rfl⟩
  change Code.wpIn _ _ _ _ _ _ ((((w.alloc (.cells (By x.1).toArray 30 (0, 0))).alloc (.cells [.slice pa c cp].toArray 22 (0, 0))).alloc (.cells (By zh.1).toArray 30 (0, 0))).alloc (.cells (By zh.1).toArray 30 (0, 0)))
  rw [← hw0, HNw.out]
  obtain ⟨b0, b1, b2, b3, ln⟩ := boxes4 HNw hw0
  have S0 : Hid (w0.heap.size = N + 1 + 1 + 1 + 1) := (show _ = _ by rw [hw0]; simp [HNw.out])
  have B0 := hide b0
  have B1 := hide b1
  have B2 := hide b2
  have B3 := hide b3
  have LN := hide ln
  clear hw0 b0 b1 b2 b3 ln
  refine cells_by (jl_in op_inW Tryd.mixed (by decide +kernel)) (KS (fun i_ => match i_ with | 0 | 1 => .val (HV x) | _ => .free)) [⟨2, 8, 4, 30, By zh.1, By x.1⟩, ⟨3, 9, 5, 30, By zh.1, By x.1⟩] 36 rfl (by decide +kernel) (KS_mono_val _ (fun i => by split <;> exact fun _ _ _ h => h)) (by intro c hc c' hc' e; simp only [List.mem_cons, List.not_mem_nil, or_false] at hc hc'; rcases hc with rfl | rfl <;> rcases hc' with rfl | rfl <;> first | rfl | (simp at e)) (by intro c hc c' hc' e; simp only [List.mem_cons, List.not_mem_nil, or_false] at hc hc'; rcases hc with rfl | rfl <;> rcases hc' with rfl | rfl <;> first | rfl | (simp at e)) (by intro c hc; simp only [List.mem_cons, List.not_mem_nil, or_false] at hc; rcases hc with rfl | rfl <;> rfl) ?_ ?_
  · refine AllFrom.cons ?_ (AllFrom.cons ?_ (AllFrom.cons ?_ (AllFrom.cons ?_ (AllFrom.cons ?_ (AllFrom.cons ?_ AllFrom.nil)))))
    · skip
      refine .val rfl (notI rfl) (notS rfl) (fun a' w' hb hk hd Q => ?_)
      have e4 : a'.eval (.tmp 4) = .pointer (some ⟨N, 0, none⟩) := hk.at 4 (by decide +kernel)
      exact wp_load_row 30 _ rfl _ _ e4 (By x.1) _ ((B0.out.kept (show Below w0.heap.size w0 w' from hb)).range0) Tryd.underlying30 rfl (Tryd.sizeH x) (KS_mkv rfl rfl)
    · skip
      refine .val rfl (notI rfl) (notS rfl) (fun a' w' hb hk hd Q => ?_)
      have e4 : a'.eval (.tmp 4) = .pointer (some ⟨N, 0, none⟩) := hk.at 4 (by decide +kernel)
      exact wp_load_row 30 _ rfl _ _ e4 (By x.1) _ ((B0.out.kept (show Below w0.heap.size w0 w' from hb)).range0) Tryd.underlying30 rfl (Tryd.sizeH x) (KS_mkv rfl rfl)
    · skip
      refine .new rfl _ (List.Mem.head _) rfl (notS rfl) rfl (fun a' w' => ?_)
      simp only [execOp]; go_simp; rfl
    · skip
      refine .new rfl _ (List.Mem.tail _ (List.Mem.head _)) rfl (notS rfl) rfl (fun a' w' => ?_)
      simp only [execOp]; go_simp; rfl
    · skip
      refine .put rfl _ (List.Mem.head _) (notI rfl) rfl rfl (.tmp 12) rfl (by kernel_rfl) (fun a' w' hb hk hd => ?_) (by rw [By_len, By_len]) (Tryd.sizeH x) (By_one _)
      have e12 : a'.eval (.tmp 12) = HV x := KS_val (hd 0 12 (by decide +kernel) (notI rfl)) rfl
      exact e12
    · skip
      refine .put rfl _ (List.Mem.tail _ (List.Mem.head _)) (notI rfl) rfl rfl (.tmp 13) rfl (by kernel_rfl) (fun a' w' hb hk hd => ?_) (by rw [By_len, By_len]) (Tryd.sizeH x) (By_one _)
      have e13 : a'.eval (.tmp 13) = HV x := KS_val (hd 1 13 (by decide +kernel) (notI rfl)) rfl
      exact e13
  intro a' w1 hsz hdf hk hall hb1 hBB
  obtain ⟨BF, hB1, hB2⟩ := hBB
  obtain ⟨E8, hl8, BE⟩ := hB1 _ (List.Mem.head _) (show (2 : Nat) < 6 by decide) (show (4 : Nat) < 6 by decide)
  obtain ⟨E9, hl9, BL⟩ := hB1 _ (List.Mem.tail _ (List.Mem.head _)) (show (3 : Nat) < 6 by decide) (show (5 : Nat) < 6 by decide)
  have hne := hB2 _ (List.Mem.head _) _ (List.Mem.tail _ (List.Mem.head _)) (show (2 : Nat) < 6 by decide) (show (3 : Nat) < 6 by decide) (by simp)
  simp only at E8 E9 hl8 hl9 BE BL hne
  clear hB1 hB2
  generalize BF 2 = E1 at E8 hl8 BE hne
  generalize BF 3 = E2 at E9 hl9 BL hne
  have e12 : a'.eval (.tmp 12) = HV x := KS_val (hall 0 _ 12 rfl (notI rfl) rfl) rfl
  have e13 : a'.eval (.tmp 13) = HV x := KS_val (hall 1 _ 13 rfl (notI rfl) rfl) rfl
  have ha := act_puts 36 rfl hsz hdf hk [12, 13, 8, 9] (by decide +kernel)
  simp only [puts, List.foldl_cons, List.foldl_nil, e12, e13, E8, E9] at ha
  simp only [Act.put, List.setIfInBounds_toArray, List.set_cons_succ, List.set_cons_zero] at ha
  clear hall hk hsz hdf e12 e13 E8 E9
  subst ha
  have hs0 := S0.out
  have hE1 : E1 < w1.heap.size := BE.lt
  have hE2 : E2 < w1.heap.size := BL.lt
  have BP1 := B1.out.kept hb1
  have BR1 := B2.out.kept hb1
  have BS1 := B3.out.kept hb1
  have L1 : Below N w w1 := LN.out.trans (hb1.mono (by omega))
  have L1w : Below w.heap.size w w1 := by rw [HNw.out]; exact L1
  have BD1 := HD.out.kept L1w
  rw [hs0] at hl8 hl9
  simp only [HV]
  gi_wp2_with fail
  refine wide_call (up_any D w1) ?_
  rintro e w4 ⟨rfl, hw4⟩
  obtain ⟨U, HU⟩ : ∃ U, Hid (w1.heap.size = U) := ⟨_, rfl⟩
  rw [HU.out] at hE1 hE2 ⊢
  have hb4 : Below w1.heap.size w1 w4 := by rw [hw4]; exact (Below.refl _ _).alloc (Nat.le_refl _) _
  have BU : Hid (Blk w4 U 66 [.pointer (some ⟨D, 0, none⟩)]) := (show Blk _ _ _ _ by rw [hw4, ← HU.out]; exact Blk.new w1 66 [.pointer (some ⟨D, 0, none⟩)])
  have S4 : Hid (w4.heap.size = U + 1) := (show _ = _ by rw [hw4]; simp [HU.out])
  have BD4 := hide (BD1.kept hb4)
  have BP4 := hide (BP1.kept hb4)
  have BR4 := hide (BR1.kept hb4)
  have BS4 := hide (BS1.kept hb4)
  have BE4 := hide (BE.kept hb4)
  have BL4 := hide (BL.kept hb4)
  have L4 : Hid (Below N w w4) := L1.trans (hb4.mono (by rw [HU.out]; omega))
  have L4w : Hid (Below w.heap.size w w4) := (show Below _ _ _ by rw [HNw.out]; exact L4.out)
  have RP4 := hide (RP.out.kept L4w.out)
  have T4 : Hid (Tabs w4) := HT.out.kept (L4.out.mono HNT.out)
  have hs4 := S4.out
  clear hw4 hb4 BD1 BP1 BR1 BS1 BE BL L1 L1w hb1
  gi_wp2_with fail
  refine wp_ranged4 (n := N0) (gf := 39) (lb := #[.pointer (some ⟨U, 0, none⟩)]) rfl (enters_of Tryd.func39 (by kernel_rfl) rfl) (encs := tbV) (fun _ => rfl) (R := upR (A.take c).reverse) (S := fun xs => xs.length = (A.take c).reverse.length) (BI w4 N E1 E2 F x p) (fun _ _ _ _ => False) ?ip (fun _ _ _ _ _ _ _ _ _ _ h => h) ?ib (fun _ _ _ _ _ h _ => h) ?h0 (G := fun k => k = E1 ∨ k = E2)
    (up1_hands U D lo hi c A HA.out HC64.out w4 BU.out BD4.out ?c1 ?c2 ?c3)
    (fun x_ h => { tmps := #[.pointer (some ⟨D, 0, none⟩), .agg (By x.1).toArray, .slice pa c cp, undef, .pointer (some ⟨N, 0, none⟩), .pointer (some ⟨N + 1, 0, none⟩), .pointer (some ⟨N + 1 + 1, 0, none⟩), .pointer (some ⟨N + 1 + 1 + 1, 0, none⟩), .pointer (some ⟨E1, 0, none⟩), .pointer (some ⟨E2, 0, none⟩), .int .i64 (x_.1 : Int), .pointer (some ⟨h, 0, none⟩), .agg (By x.1).toArray, .agg (By x.1).toArray, .pointer (some ⟨D, 0, none⟩), .func (.func 39) #[] #[.pointer (some ⟨U, 0, none⟩)], .int .i64 (x_.1 : Int), .agg (TE.c x_.2).toArray, undef, undef, undef, undef, undef, undef, undef, undef, undef, undef, undef, undef, undef, undef, undef, undef, undef, undef], defers := [] }) (fun x h X => Blk X h 47 (TE.c x.2)) ?ap ?assign ?body ?done (fun _ _ _ _ _ _ _ h _ => h.elim)
  case c1 => rintro k (h | h) <;> omega
  case c2 => rintro (h | h) <;> omega
  case c3 => rintro (h | h) <;> omega
  case ip =>
    intro B pre X k o0 o hk hX hn hI
    exact hI.chg (chg_put (G := fun j => j = k) rfl o) (fun j hj e => by omega) (by omega) (by omega) (by omega)
  case ib =>
    intro B pre X Y hI hb
    exact hI.chg (G := fun _ => False) (Chg.of_below hb) (fun _ _ h => h) (by omega) (by omega) (by omega)
  case h0 =>
    intro X hX hlt
    exact ⟨by simpa [bothW_nil] using BE4.out.kept hX, by simpa [bothW_nil] using BL4.out.kept hX, BR4.out.kept hX, BS4.out.kept hX, Chg.of_below hX, hlt⟩
  case ap =>
    intro x h X k o0 o hk hX hn hB
    exact hB.put10 hX hn
  case assign =>
    intro m l' x X K' hle hK
    have BW := Blk.new X 47 (TE.c Tz)
    simp only [tbV]
    gi_wp2_with (first
      | (refine wpListIn_store_blk rfl 47 _ _ rfl X.heap.size (TE.c Tz) (TE.c x.2) 47 rfl rfl BW rfl Tryd.sizeTn (TE.one _) ?_; intro w5 hb5 hu5)
      | fail)
    exact hK w5 (((Below.refl _ _).alloc (Nat.le_refl _) _).trans (hu5.below (Nat.le_refl _) (by simp))) hb5
  case body =>
    rintro m l' B pre ⟨r, t⟩ h X hwB hBh hle hI hR hA
    obtain ⟨hR1, hR2⟩ := hR
    simp only at hR1 hR2 hA
    subst hR1
    rw [HF.out] at hR2
    obtain ⟨r, HRL⟩ : ∃ r, Hid (pre.length = r) := ⟨_, rfl⟩
    have ie := hI.e
    have il := hI.l
    rw [HRL.out] at hR2 ie il ⊢
    have hrT : r < F.length := (List.getElem?_eq_some_iff.1 hR2).1
    have hrc : r < c := by rw [← HTR.out]; exact hrT
    have hrp : r < p.length := by rw [HPL.out]; exact hrc
    have hRt : F[r] = t := by rw [List.getElem?_eq_getElem hrT] at hR2; exact Option.some.inj hR2
    have HST := hide (bothW_step (F := F) (p := p) hrT hrp x x)
    rw [hRt] at HST
    obtain ⟨b, off, rfl, hlb, hx9⟩ := (RP4.out.chg hI.c (by
      intro b' hb' h
      have hbl := RP.out.inB_lt hb'
      rw [HNw.out] at hbl
      rcases h with (h | h) | h <;> omega)).nth (by omega)
    have hrk : X.rangeAt b (off + r * 32) (By p[r].1) := hx9 r hrp
    have hlb9 := hlb
    have hbN : b < N := by
      have := RP.out.inB_lt (b := b) ⟨off, c, cp, rfl, by omega⟩
      rw [HNw.out] at this
      exact this
    generalize p[r] = z at hrk HST
    generalize (bothW (F.take r) x x (p.take r)).1 = y1 at ie HST
    generalize (bothW (F.take r) x x (p.take r)).2 = y2 at il HST
    have IE := hide ie
    have IL := hide il
    have IR1 := hide hI.r1
    have IR2 := hide hI.r2
    have IC := hide hI.c
    have HAf := hide hA
    have B1r := hide (BP4.out.chg hI.c (by rintro ((h | h) | h) <;> omega))
    have TW : Hid (Tabs X) := T4.out.kept (hI.c.below (by have := HNT.out; omega) (fun k hk h => by have := HNT.out; rcases h with (h | h) | h <;> omega))
    have hrci : (r : Int) < (c : Int) := by omega
    have hcl : X.cell? ⟨h, 2, none⟩ = some (.bool t.left) := hA.cell (j := 2) rfl
    clear hI hA hR2 hx9 ie il hRt hlb
    cases htl : t.left with
    | true =>
      rw [htl] at HST hcl
      simp only [if_true] at HST
      gi_wp2_with fail
      refine wpIn_region_tails op_in Tryd.mixed (by decide +kernel) (KS (fun i_ => match i_ with | 0 => .val (.agg (TE.c t).toArray) | 1 => .val (HV y1) | 2 => .val (.slice (some ⟨b, off, none⟩) c cp) | 3 => .val (.int .i64 (r : Int)) | 4 => .val (.pointer (some ⟨b, off + r * 32, none⟩)) | 5 => .val (HV z) | 6 => .val (HV (jn t y1 z)) | _ => .free)) 36 rfl (by decide +kernel) 7 (by decide) (by decide +kernel) (KS_mono _) ?_ ?_
      · refine AllFrom.cons ⟨rfl, fun a' w' hg hk hd => ?_⟩ (AllFrom.cons ⟨rfl, fun a' w' hg hk hd => ?_⟩ (AllFrom.cons ⟨rfl, fun a' w' hg hk hd => ?_⟩ (AllFrom.cons ⟨rfl, fun a' w' hg hk hd => ?_⟩ (AllFrom.cons ⟨rfl, fun a' w' hg hk hd => ?_⟩ (AllFrom.cons ⟨rfl, fun a' w' hg hk hd => ?_⟩ (AllFrom.cons ⟨rfl, fun a' w' hg hk hd => ?_⟩ AllFrom.nil))))))
        · skip
          intro Q
          have e11 : a'.eval (.tmp 11) = .pointer (some ⟨h, 0, none⟩) := hk.at 11 (by decide +kernel)
          exact wp_load_row 47 _ rfl _ _ e11 (TE.c t) _ ((HAf.out.kept hg).range0) Tryd.underlying47 rfl (Tryd.sizeTn) (KS_mkv rfl rfl)
        · skip
          intro Q
          have e8 : a'.eval (.tmp 8) = .pointer (some ⟨E1, 0, none⟩) := hk.at 8 (by decide +kernel)
          exact wp_load_row 30 _ rfl _ _ e8 (By (y1).1) _ ((IE.out.kept hg).range0) Tryd.underlying30 rfl (Tryd.sizeH _) (KS_mkv rfl rfl)
        · skip
          intro Q
          have e5 : a'.eval (.tmp 5) = .pointer (some ⟨N + 1, 0, none⟩) := hk.at 5 (by decide +kernel)
          have hc := (B1r.out.kept hg).cell (j := 0) rfl
          clear hd hk
          exact wp_value (.slice (some ⟨b, off, none⟩) c cp) (by simp only [execOp, e5]; go_simp) (KS_mkv rfl rfl)
        · skip
          intro Q
          have e10 : a'.eval (.tmp 10) = .int .i64 (r : Int) := hk.at 10 (by decide +kernel)
          exact wp_value _ (by simp only [execOp, e10]; rfl) (KS_mkv rfl rfl)
        · skip
          intro Q
          have e22 : a'.eval (.tmp 22) = .slice (some ⟨b, off, none⟩) c cp := KS_val (hd.val 2 22 (by decide +kernel)) rfl
          have e23 : a'.eval (.tmp 23) = .int .i64 (r : Int) := KS_val (hd.val 3 23 (by decide +kernel)) rfl
          clear hd hk
          exact wp_value (.pointer (some ⟨b, off + r * 32, none⟩)) (by simp only [execOp, e22, e23]; go_simp) (KS_mkv rfl rfl)
        · skip
          intro Q
          have e24 : a'.eval (.tmp 24) = .pointer (some ⟨b, off + r * 32, none⟩) := KS_val (hd.val 4 24 (by decide +kernel)) rfl
          exact wp_load_row 30 _ rfl _ _ e24 (By (z).1) _ (rangeAt_kept9 hrk hlb9 hg) Tryd.underlying30 rfl (Tryd.sizeH _) (KS_mkv rfl rfl)
        · skip
          intro Q
          have e20 : a'.eval (.tmp 20) = .agg (TE.c t).toArray := KS_val (hd.val 0 20 (by decide +kernel)) rfl
          have e21 : a'.eval (.tmp 21) = HV y1 := KS_val (hd.val 1 21 (by decide +kernel)) rfl
          have e25 : a'.eval (.tmp 25) = HV z := KS_val (hd.val 5 25 (by decide +kernel)) rfl
          refine wp_call 31 _ (run_enter 31 _ _ rfl (by kernel_rfl)) ?_
          simp only [List.map_toArray, List.map_nil, List.map_cons, e20, e21, e25]
          refine (join_any t y1 z _ (TW.out.gr hg)).mono ?_
          rintro e w5 ⟨rfl, hb5⟩
          exact ⟨_, rfl, KS_mkv rfl rfl, hb5⟩
      · intro a' w5 hsz hdf hk hall hg
        have e20 : a'.eval (.tmp 20) = .agg (TE.c t).toArray := KS_val (hall 0 _ 20 (by decide) rfl rfl) rfl
        have e21 : a'.eval (.tmp 21) = HV y1 := KS_val (hall 1 _ 21 (by decide) rfl rfl) rfl
        have e22 : a'.eval (.tmp 22) = .slice (some ⟨b, off, none⟩) c cp := KS_val (hall 2 _ 22 (by decide) rfl rfl) rfl
        have e23 : a'.eval (.tmp 23) = .int .i64 (r : Int) := KS_val (hall 3 _ 23 (by decide) rfl rfl) rfl
        have e24 : a'.eval (.tmp 24) = .pointer (some ⟨b, off + r * 32, none⟩) := KS_val (hall 4 _ 24 (by decide) rfl rfl) rfl
        have e25 : a'.eval (.tmp 25) = HV z := KS_val (hall 5 _ 25 (by decide) rfl rfl) rfl
        have e26 : a'.eval (.tmp 26) = HV (jn t y1 z) := KS_val (hall 6 _ 26 (by decide) rfl rfl) rfl
        have e8 : a'.eval (.tmp 8) = .pointer (some ⟨E1, 0, none⟩) := hk.at 8 (by decide +kernel)
        refine ⟨rfl, op_in (fun c h => by cases h) (wp_store_blk 30 _ _ rfl E1 (By y1.1) (By (jn t y1 z).1) 30 e8 e26 (IE.out.kept hg) (by rw [By_len, By_len]) (Tryd.sizeH _) (By_one _) ?_)⟩
        intro w6 hb6 hu6
        refine ⟨_, rfl, ?_⟩
        show Exit.then _ _ Exit.normal (a'.put none undef) w6
        have hc6 : Chg (fun k => k = E1) X w6 := (Chg.of_below hg).trans (Chg.of_but hu6 rfl)
        have HC6 := hide hc6
        have IE7 := hide hb6
        have IL7 := hide (IL.out.chg hc6 (by omega))
        have HAf7 := hide (HAf.out.chg hc6 (by omega))
        have B1r7 := hide (B1r.out.chg hc6 (by omega))
        have IR17 := hide (IR1.out.chg hc6 (by omega))
        have IR27 := hide (IR2.out.chg hc6 (by omega))
        have TW7 : Hid (Tabs w6) := TW.out.kept (hc6.below (by have := HNT.out; omega) (fun k hk h => by have := HNT.out; omega))
        have hlb97 : b < w6.heap.size := Nat.lt_of_lt_of_le hlb9 hc6.size
        have hrk7 : w6.rangeAt b (off + r * 32) (By z.1) := fun j u hj => (hc6.cellAt hlb9 (by omega)).trans (hrk j u hj)
        have ha := act_puts 36 rfl hsz hdf hk [20, 21, 22, 23, 24, 25, 26] (by decide +kernel)
        simp only [puts, List.foldl_cons, List.foldl_nil, e20, e21, e22, e23, e24, e25, e26] at ha
        simp only [Act.put, List.setIfInBounds_toArray, List.set_cons_succ, List.set_cons_zero] at ha
        clear hall hk hsz hdf e20 e21 e22 e23 e24 e25 e26 e8 hb6 hu6 hg hc6 hcl
        subst ha
        simp only [Act.put]
        gi_wp2_with fail
        refine wpIn_region_tails op_in Tryd.mixed (by decide +kernel) (KS (fun i_ => match i_ with | 0 => .val (.agg (TE.c t).toArray) | 1 => .val (HV y2) | 2 => .val (.slice (some ⟨b, off, none⟩) c cp) | 3 => .val (.int .i64 (r : Int)) | 4 => .val (.pointer (some ⟨b, off + r * 32, none⟩)) | 5 => .val (HV z) | 6 => .val (HV (jn t y2 z)) | _ => .free)) 36 rfl (by decide +kernel) 7 (by decide) (by decide +kernel) (KS_mono _) ?_ ?_
        · refine AllFrom.cons ⟨rfl, fun a' w' hg hk hd => ?_⟩ (AllFrom.cons ⟨rfl, fun a' w' hg hk hd => ?_⟩ (AllFrom.cons ⟨rfl, fun a' w' hg hk hd => ?_⟩ (AllFrom.cons ⟨rfl, fun a' w' hg hk hd => ?_⟩ (AllFrom.cons ⟨rfl, fun a' w' hg hk hd => ?_⟩ (AllFrom.cons ⟨rfl, fun a' w' hg hk hd => ?_⟩ (AllFrom.cons ⟨rfl, fun a' w' hg hk hd => ?_⟩ AllFrom.nil))))))
          · skip
            intro Q
            have e11 : a'.eval (.tmp 11) = .pointer (some ⟨h, 0, none⟩) := hk.at 11 (by decide +kernel)
            exact wp_load_row 47 _ rfl _ _ e11 (TE.c t) _ ((HAf7.out.kept hg).range0) Tryd.underlying47 rfl (Tryd.sizeTn) (KS_mkv rfl rfl)
          · skip
            intro Q
            have e9 : a'.eval (.tmp 9) = .pointer (some ⟨E2, 0, none⟩) := hk.at 9 (by decide +kernel)
            exact wp_load_row 30 _ rfl _ _ e9 (By (y2).1) _ ((IL7.out.kept hg).range0) Tryd.underlying30 rfl (Tryd.sizeH _) (KS_mkv rfl rfl)
          · skip
            intro Q
            have e5 : a'.eval (.tmp 5) = .pointer (some ⟨N + 1, 0, none⟩) := hk.at 5 (by decide +kernel)
            have hc := (B1r7.out.kept hg).cell (j := 0) rfl
            clear hd hk
            exact wp_value (.slice (some ⟨b, off, none⟩) c cp) (by simp only [execOp, e5]; go_simp) (KS_mkv rfl rfl)
          · skip
            intro Q
            have e10 : a'.eval (.tmp 10) = .int .i64 (r : Int) := hk.at 10 (by decide +kernel)
            exact wp_value _ (by simp only [execOp, e10]; rfl) (KS_mkv rfl rfl)
          · skip
            intro Q
            have e29 : a'.eval (.tmp 29) = .slice (some ⟨b, off, none⟩) c cp := KS_val (hd.val 2 29 (by decide +kernel)) rfl
            have e30 : a'.eval (.tmp 30) = .int .i64 (r : Int) := KS_val (hd.val 3 30 (by decide +kernel)) rfl
            clear hd hk
            exact wp_value (.pointer (some ⟨b, off + r * 32, none⟩)) (by simp only [execOp, e29, e30]; go_simp) (KS_mkv rfl rfl)
          · skip
            intro Q
            have e31 : a'.eval (.tmp 31) = .pointer (some ⟨b, off + r * 32, none⟩) := KS_val (hd.val 4 31 (by decide +kernel)) rfl
            exact wp_load_row 30 _ rfl _ _ e31 (By (z).1) _ (rangeAt_kept9 hrk7 hlb97 hg) Tryd.underlying30 rfl (Tryd.sizeH _) (KS_mkv rfl rfl)
          · skip
            intro Q
            have e27 : a'.eval (.tmp 27) = .agg (TE.c t).toArray := KS_val (hd.val 0 27 (by decide +kernel)) rfl
            have e28 : a'.eval (.tmp 28) = HV y2 := KS_val (hd.val 1 28 (by decide +kernel)) rfl
            have e32 : a'.eval (.tmp 32) = HV z := KS_val (hd.val 5 32 (by decide +kernel)) rfl
            refine wp_call 31 _ (run_enter 31 _ _ rfl (by kernel_rfl)) ?_
            simp only [List.map_toArray, List.map_nil, List.map_cons, e27, e28, e32]
            refine (join_any t y2 z _ (TW7.out.gr hg)).mono ?_
            rintro e w5 ⟨rfl, hb5⟩
            exact ⟨_, rfl, KS_mkv rfl rfl, hb5⟩
        · intro a' w7 hsz hdf hk hall hg
          have e33 : a'.eval (.tmp 33) = HV (jn t y2 z) := KS_val (hall 6 _ 33 (by decide) rfl rfl) rfl
          have e9 : a'.eval (.tmp 9) = .pointer (some ⟨E2, 0, none⟩) := hk.at 9 (by decide +kernel)
          refine ⟨rfl, op_in (fun c h => by cases h) (wp_store_blk 30 _ _ rfl E2 (By y2.1) (By (jn t y2 z).1) 30 e9 e33 (IL7.out.kept hg) (by rw [By_len, By_len]) (Tryd.sizeH _) (By_one _) ?_)⟩
          intro w8 hb8 hu8
          refine ⟨_, rfl, ?_⟩
          have hc8 : Chg (fun k => k = E1 ∨ k = E2) X w8 := ((HC6.out.mono (fun i _ h => .inl h)).trans (Chg.of_below hg)).trans (Chg.of_but hu8 (.inr rfl))
          refine ⟨keeps_chg hc8 (fun k o hk ho => ?_), hc8.mono (fun i _ h => .inl h), ⟨?_, ?_, ?_, ?_, IC.out.then hc8 (fun i _ h => .inl h), hwB⟩⟩
          · rcases hk with hk | hk
            · subst hk
              have := IE.out.symm.trans ho
              cases this
              rfl
            · subst hk
              have := IL.out.symm.trans ho
              cases this
              rfl
          · rw [List.length_append, List.length_singleton, HRL.out, HST.out]
            exact (IE7.out.kept hg).but hu8 (by omega)
          · rw [List.length_append, List.length_singleton, HRL.out, HST.out]
            exact hb8
          · exact (IR17.out.kept hg).but hu8 (by omega)
          · exact (IR27.out.kept hg).but hu8 (by omega)
    | false =>
      rw [htl] at HST hcl
      simp only [Bool.false_eq_true, if_false] at HST
      gi_wp2_with fail
      refine wpIn_region_tails op_in Tryd.mixed (by decide +kernel) (KS (fun i_ => match i_ with | 0 => .val (.agg (TE.c t).toArray) | 1 => .val (HV y2) | 2 => .val (.slice (some ⟨b, off, none⟩) c cp) | 3 => .val (.int .i64 (r : Int)) | 4 => .val (.pointer (some ⟨b, off + r * 32, none⟩)) | 5 => .val (HV z) | 6 => .val (HV (jn t y2 z)) | _ => .free)) 36 rfl (by decide +kernel) 7 (by decide) (by decide +kernel) (KS_mono _) ?_ ?_
      · refine AllFrom.cons ⟨rfl, fun a' w' hg hk hd => ?_⟩ (AllFrom.cons ⟨rfl, fun a' w' hg hk hd => ?_⟩ (AllFrom.cons ⟨rfl, fun a' w' hg hk hd => ?_⟩ (AllFrom.cons ⟨rfl, fun a' w' hg hk hd => ?_⟩ (AllFrom.cons ⟨rfl, fun a' w' hg hk hd => ?_⟩ (AllFrom.cons ⟨rfl, fun a' w' hg hk hd => ?_⟩ (AllFrom.cons ⟨rfl, fun a' w' hg hk hd => ?_⟩ AllFrom.nil))))))
        · skip
          intro Q
          have e11 : a'.eval (.tmp 11) = .pointer (some ⟨h, 0, none⟩) := hk.at 11 (by decide +kernel)
          exact wp_load_row 47 _ rfl _ _ e11 (TE.c t) _ ((HAf.out.kept hg).range0) Tryd.underlying47 rfl (Tryd.sizeTn) (KS_mkv rfl rfl)
        · skip
          intro Q
          have e9 : a'.eval (.tmp 9) = .pointer (some ⟨E2, 0, none⟩) := hk.at 9 (by decide +kernel)
          exact wp_load_row 30 _ rfl _ _ e9 (By (y2).1) _ ((IL.out.kept hg).range0) Tryd.underlying30 rfl (Tryd.sizeH _) (KS_mkv rfl rfl)
        · skip
          intro Q
          have e5 : a'.eval (.tmp 5) = .pointer (some ⟨N + 1, 0, none⟩) := hk.at 5 (by decide +kernel)
          have hc := (B1r.out.kept hg).cell (j := 0) rfl
          clear hd hk
          exact wp_value (.slice (some ⟨b, off, none⟩) c cp) (by simp only [execOp, e5]; go_simp) (KS_mkv rfl rfl)
        · skip
          intro Q
          have e10 : a'.eval (.tmp 10) = .int .i64 (r : Int) := hk.at 10 (by decide +kernel)
          exact wp_value _ (by simp only [execOp, e10]; rfl) (KS_mkv rfl rfl)
        · skip
          intro Q
          have e29 : a'.eval (.tmp 29) = .slice (some ⟨b, off, none⟩) c cp := KS_val (hd.val 2 29 (by decide +kernel)) rfl
          have e30 : a'.eval (.tmp 30) = .int .i64 (r : Int) := KS_val (hd.val 3 30 (by decide +kernel)) rfl
          clear hd hk
          exact wp_value (.pointer (some ⟨b, off + r * 32, none⟩)) (by simp only [execOp, e29, e30]; go_simp) (KS_mkv rfl rfl)
        · skip
          intro Q
          have e31 : a'.eval (.tmp 31) = .pointer (some ⟨b, off + r * 32, none⟩) := KS_val (hd.val 4 31 (by decide +kernel)) rfl
          exact wp_load_row 30 _ rfl _ _ e31 (By (z).1) _ (rangeAt_kept9 hrk hlb9 hg) Tryd.underlying30 rfl (Tryd.sizeH _) (KS_mkv rfl rfl)
        · skip
          intro Q
          have e27 : a'.eval (.tmp 27) = .agg (TE.c t).toArray := KS_val (hd.val 0 27 (by decide +kernel)) rfl
          have e28 : a'.eval (.tmp 28) = HV y2 := KS_val (hd.val 1 28 (by decide +kernel)) rfl
          have e32 : a'.eval (.tmp 32) = HV z := KS_val (hd.val 5 32 (by decide +kernel)) rfl
          refine wp_call 31 _ (run_enter 31 _ _ rfl (by kernel_rfl)) ?_
          simp only [List.map_toArray, List.map_nil, List.map_cons, e27, e28, e32]
          refine (join_any t y2 z _ (TW.out.gr hg)).mono ?_
          rintro e w5 ⟨rfl, hb5⟩
          exact ⟨_, rfl, KS_mkv rfl rfl, hb5⟩
      · intro a' w7 hsz hdf hk hall hg
        have e33 : a'.eval (.tmp 33) = HV (jn t y2 z) := KS_val (hall 6 _ 33 (by decide) rfl rfl) rfl
        have e9 : a'.eval (.tmp 9) = .pointer (some ⟨E2, 0, none⟩) := hk.at 9 (by decide +kernel)
        refine ⟨rfl, op_in (fun c h => by cases h) (wp_store_blk 30 _ _ rfl E2 (By y2.1) (By (jn t y2 z).1) 30 e9 e33 (IL.out.kept hg) (by rw [By_len, By_len]) (Tryd.sizeH _) (By_one _) ?_)⟩
        intro w8 hb8 hu8
        refine ⟨_, rfl, ?_⟩
        have hc8 : Chg (fun k => k = E1 ∨ k = E2) X w8 := (Chg.of_below hg).trans (Chg.of_but hu8 (.inr rfl))
        refine ⟨keeps_chg (F := fun k => k = E2) ((Chg.of_below hg).trans (Chg.of_but hu8 rfl)) (fun k o hk ho => ?_), hc8.mono (fun i _ h => .inl h), ⟨?_, ?_, ?_, ?_, IC.out.then hc8 (fun i _ h => .inl h), hwB⟩⟩
        · subst hk
          have := IL.out.symm.trans ho
          cases this
          rfl
        · rw [List.length_append, List.length_singleton, HRL.out, HST.out]
          exact (IE.out.kept hg).but hu8 (by omega)
        · rw [List.length_append, List.length_singleton, HRL.out, HST.out]
          exact hb8
        · exact (IR1.out.kept hg).but hu8 (by omega)
        · exact (IR2.out.kept hg).but hu8 (by omega)
  case done =>
    rintro Dd B xs X hDd hDB hS hI hd
    have ie := hI.e
    have il := hI.l
    rw [HF.out] at hS
    rw [hS, List.take_length, List.take_of_length_le (by rw [HPL.out, HTR.out]; exact Nat.le_refl _)] at ie il
    obtain ⟨y1, HX1⟩ : ∃ y, Hid ((bothW F x x p).1 = y) := ⟨_, rfl⟩
    obtain ⟨y2, HX2⟩ : ∃ y, Hid ((bothW F x x p).2 = y) := ⟨_, rfl⟩
    rw [HX1.out] at ie
    rw [HX2.out] at il
    have IE := hide ie
    have IL := hide il
    have IR1 := hide hI.r1
    have IR2 := hide hI.r2
    have ic := hI.c
    clear ie il hI
    gi_wp2_with fail
    refine pivots_by (jl_in op_inW Tryd.mixed (by decide +kernel)) (fun i_ => match i_ with | 0 => HV y1 | 1 => HV y2 | 2 => undef | _ => undef) (fun b_ w' => Blk w' (N + 1 + 1) 30 (By (if b_ = 1 then y1 else zh).1) ∧ Blk w' (N + 1 + 1 + 1) 30 (By zh.1) ∧ Chg (fun k => k = N + 1 + 1) X w') [2] 36 rfl (by decide +kernel) 3 (by decide) (by decide) (by decide) (by decide +kernel) (by decide +kernel) ?_ ?_ ?_
    · intro w' hh hg
      exact ⟨by simpa using IR1.out.kept hg, IR2.out.kept hg, Chg.of_below hg⟩
    · refine AllFrom.cons ⟨rfl, ?_, ?_⟩ (AllFrom.cons ⟨rfl, ?_, ?_⟩ (AllFrom.cons ⟨rfl, ?_, ?_⟩ AllFrom.nil))
      · intro _ a' b' w' hC hk hd Q
        have e8 : a'.eval (.tmp 8) = .pointer (some ⟨E1, 0, none⟩) := hk.at 8 (by decide +kernel)
        exact wp_sameRow 30 _ rfl _ _ e8 (By y1.1) _ (IE.out.chg hC.2.2 (by omega)).range0 Tryd.underlying30 rfl (Tryd.sizeH _) hC
      · intro j hj; exact absurd hj (pv_no (by decide) _)
      · intro _ a' b' w' hC hk hd Q
        have e9 : a'.eval (.tmp 9) = .pointer (some ⟨E2, 0, none⟩) := hk.at 9 (by decide +kernel)
        exact wp_sameRow 30 _ rfl _ _ e9 (By y2.1) _ (IL.out.chg hC.2.2 (by omega)).range0 Tryd.underlying30 rfl (Tryd.sizeH _) hC
      · intro j hj; exact absurd hj (pv_no (by decide) _)
      · intro h; exact absurd (by decide) h
      · intro j hj
        obtain rfl : j = 0 := pv_at (by decide) rfl hj
        refine ⟨rfl, fun a' w' hC hk hd Q => ?_⟩
        have e6 : a'.eval (.tmp 6) = .pointer (some ⟨N + 1 + 1, 0, none⟩) := hk.at 6 (by decide +kernel)
        have e34 : a'.eval (.tmp 34) = HV y1 := hd 0 34 (by decide +kernel)
        obtain ⟨hC1, hC2, hC3⟩ := hC
        simp only [Nat.zero_ne_one, if_false] at hC1
        refine wp_store_blk 30 _ _ rfl (N + 1 + 1) (By zh.1) (By y1.1) 30 e6 e34 hC1 (by rw [By_len, By_len]) (Tryd.sizeH y1) (By_one _) ?_
        intro w4 hb4 hu4
        exact ⟨rfl, by simpa using hb4, hC2.but hu4 (by omega), hC3.trans (Chg.of_but hu4 rfl)⟩
    · intro a' w6 hsz hdf hk hall hC
      have e35 : a'.eval (.tmp 35) = HV y2 := hall 1 _ 35 (by decide) rfl rfl
      have e7 : a'.eval (.tmp 7) = .pointer (some ⟨N + 1 + 1 + 1, 0, none⟩) := hk.at 7 (by decide +kernel)
      have e6 : a'.eval (.tmp 6) = .pointer (some ⟨N + 1 + 1, 0, none⟩) := hk.at 6 (by decide +kernel)
      obtain ⟨hC1, hC2, hC3⟩ := hC
      simp only [show ([2] : List Nat).length = 1 from rfl, if_true] at hC1
      refine ⟨rfl, wp_store_blk 30 _ _ rfl (N + 1 + 1 + 1) (By zh.1) (By y2.1) 30 e7 e35 hC2 (by rw [By_len, By_len]) (Tryd.sizeH y2) (By_one _) ?_⟩
      intro w7 hb7 hu7
      refine ⟨_, rfl, ?_⟩
      show Exit.then _ _ Exit.normal (a'.put none undef) w7
      have e34 : a'.eval (.tmp 34) = HV y1 := hall 0 _ 34 (by decide) rfl rfl
      have ha := act_puts 36 rfl hsz hdf hk.all [34, 35] (by decide +kernel)
      simp only [puts, List.foldl_cons, List.foldl_nil, e34, e35] at ha
      simp only [Act.put, List.setIfInBounds_toArray, List.set_cons_succ, List.set_cons_zero] at ha
      clear hall hk hsz hdf e34 e35 e6 e7
      subst ha
      simp only [Act.put]
      have hb6 := hC1.but hu7 (by omega)
      have hc7 : Chg (fun k => k = N + 1 + 1 ∨ k = N + 1 + 1 + 1) X w7 := (hC3.mono (fun i _ h => .inl h)).trans (Chg.of_but hu7 (.inr rfl))
      have hD7 : w7.heap[Dd]? = some (.deferred (some [])) := (hc7.block Dd ((Array.getElem?_eq_some_iff.1 hd).1) (by omega)).trans hd
      gi_wp2_with fail
      refine ⟨by simp, .inl ⟨_, _, rfl, run_takeDeferred hD7, ?_⟩⟩
      have hp := chg_put (G := fun k => k = Dd) (W := w7) (l := Dd) rfl (.deferred none)
      refine ⟨_, results_hh rfl _ _ (N + 1 + 1) (N + 1 + 1 + 1) 30 (By y1.1) (By y2.1) rfl rfl (hb6.chg hp (by omega)) (hb7.chg hp (by omega)) Tryd.underlying30 rfl (Tryd.sizeH y1) (Tryd.sizeH y2), by rw [HX1.out, HX2.out]; rfl, ?_⟩
      rw [HNw.out]
      have h5 : Chg (fun k => N ≤ k) w4 X := ic.mono (fun i _ h => by rcases h with (h | h) | h <;> omega)
      have h6 : Chg (fun k => N ≤ k) X w7 := hc7.mono (fun i _ h => by omega)
      have h7 := (h5.trans h6).trans (hp.mono (fun i _ h => by subst h; show N ≤ i; omega))
      exact L4.out.trans (h7.below (by omega) (fun k hk h => by omega))
#print axioms both_any
end Go.Proofs.YtfclmjfbcmjfbaaDoor
