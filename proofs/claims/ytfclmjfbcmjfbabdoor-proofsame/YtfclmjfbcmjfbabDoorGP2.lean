/-
  Texts that ride together: PfH PfC PfB PfK PfZ.
-/
import Derived.Test.YtfclmjfbcmjfbabDoorGP1
import Derived.Test.YtfclmjfbcmjfbabDoorRegion11
import Derived.Test.YtfclmjfbcmjfbabDoorMtW
/-
  proof.Path and proof.Grown: what the calls do.
-/
namespace Go.Proofs.YtfclmjfbcmjfbabDoor
open Go.RowKit
def pathW (L : List Hs) (i : Int) : List Hs := if 0 ≤ i ∧ i < (L.length : Int) then (wayP 40 0 L.length i.toNat true).1.reverse.map (rt L) else []
def grownC (L : List Hs) (m : Int) : List Hs := if 1 ≤ m ∧ m ≤ (L.length : Int) then grownW L (wayP 40 0 L.length (m.toNat - 1) false) else []
theorem none_chg {w w' : World} (h : Chg (fun k => (Value.slice none 0 0).ownBlock = some k) w w') : Below w.heap.size w w' := h.below (Nat.le_refl _) (fun k _ hk => by cases hk)
set_option maxHeartbeats 4000000 in
set_option maxRecDepth 100000 in
theorem path_any (lv : Value) (L : List Hs) (i : Int) (hn : L.length ≤ 1000) (w : World) (hT : Tabs w) (hL : RdG HE w lv L) :
    Calls Tryd.prog 9 #[lv, .int .i64 i] w fun e w' => (∃ v', e = .returned (.tuple #[v', .bool (decide (0 ≤ i ∧ i < (L.length : Int)))]) ∧ OwnG HE w' w.heap.size 23 v' (pathW L i)) ∧ Below w.heap.size w w' := by
  have RL := hide hL
  have HT := hide hT
  obtain ⟨p, cp, rfl⟩ := hL.slice
  obtain ⟨n, HN⟩ : ∃ n, Hid (L.length = n) := ⟨_, rfl⟩
  obtain ⟨pw, HP⟩ : ∃ x, Hid (pathW L i = x) := ⟨_, rfl⟩
  have HP0 := hide HP.out
  unfold pathW at HP0
  rw [HP.out]
  rw [HN.out] at RL hn HP0 ⊢
  obtain ⟨N, HNw⟩ : ∃ N, Hid (w.heap.size = N) := ⟨_, rfl⟩
  have HNT : Hid (2 ≤ N) := (show 2 ≤ N by rw [← HNw.out]; exact HT.out.size)
  clear hL hT
  by_cases hi : 0 ≤ i ∧ i < (n : Int)
  · rw [if_pos hi] at HP0
    rw [decide_eq_true hi]
    obtain ⟨k, rfl⟩ : ∃ k : Nat, i = (k : Int) := ⟨i.toNat, by omega⟩
    rw [Int.toNat_natCast] at HP0
    have hk : k < n := by omega
    have q1 : ¬ (k : Int) < 0 := by omega
    have q2 : ¬ (n : Int) ≤ (k : Int) := by omega
    have CW := wayFrom_any n k true hk (by omega) w
    have HIN := hide (way_in 40 0 n k true (Nat.zero_le _) hk).1
    have HLN := hide (way_len 40 40 0 n k true (Nat.zero_le _) hk (by omega))
    obtain ⟨T, lo, h, HW⟩ : ∃ T lo h, Hid (wayP 40 0 n k true = (T, lo, h)) := ⟨_, _, _, rfl⟩
    rw [HW.out] at CW HIN HLN HP0
    have HCW := hide CW
    have hz := zeroW
    obtain ⟨Z, HZ⟩ : ∃ Z, Hid (Wz = Z) := ⟨_, rfl⟩
    rw [HZ.out] at hz
    have hzl : Z.length = 195 := by rw [← HZ.out]; rfl
    have hze : ¬ Z = [] := fun h => by rw [h] at hzl; simp at hzl
    clear hi CW
    go_enter Tryd.func9, Tryd.ntmps9
    go_wp2_with fail
    refine HCW.out.mono ?_
    rintro e w1 ⟨⟨A, rfl, hA, hAT⟩, hb1⟩
    have HA := hide hA
    have HAT : Hid (A.take T.length = T) := hAT
    have L1 : Hid (Below N w w1) := (show Below N w w1 by rw [← HNw.out]; exact hb1)
    obtain ⟨Y, HY⟩ : ∃ Y, Hid (WC lo h A T.length = Y) := ⟨_, rfl⟩
    have hyl : Y.length = 195 := by rw [← HY.out]; exact WC_len hA
    have HYO : Hid (∀ u ∈ Y, u.oneCell' = true) := (show ∀ u ∈ Y, u.oneCell' = true by rw [← HY.out]; exact WC_one _ _ _ _)
    have BN := Blk.new w1 35 Z
    obtain ⟨D, HD⟩ : ∃ D, Hid (w1.heap.size = D) := ⟨_, rfl⟩
    rw [HD.out] at BN
    have hND : N ≤ D := by rw [← HD.out, ← HNw.out]; exact hb1.size
    clear hb1 hA hAT
    simp only [HY.out]
    go_wp2_with (first
      | (rw [HD.out]; refine wpList_store_blk rfl 35 _ _ rfl D Z Y 35 rfl rfl BN (by rw [hyl, hzl]) (by rw [hyl]; exact Tryd.sizeW) HYO.out ?_; intro w2 hb2 hu2)
      | fail)
    have L2 : Hid (Below N w w2) := (L1.out.trans ((Below.refl _ _).alloc (by rw [HD.out]; exact hND) _)).trans (hu2.below hND (by simp [HD.out]; omega))
    have L2w : Hid (Below w.heap.size w w2) := (show Below _ _ _ by rw [HNw.out]; exact L2.out)
    have hlt : T.length ≤ 40 := HLN.out
    refine (others_any D lo h T.length N A (.slice none 0 0) (.slice p n cp) [] L HA.out (by omega) (by
      rw [HAT.out]
      intro t ht
      have := HIN.out t ht
      exact ⟨by omega, by rw [HN.out]; exact this.2.2⟩) (by simp) w2 (HT.out.kept (L2.out.mono HNT.out)) HNT.out (by rw [← HNw.out]; exact L2w.out.size) (by rw [HY.out]; exact hb2) (ownG_nil _ _ _) (RL.out.kept L2w.out) (fun b hb => by cases hb)).mono ?_
    rintro e w3 ⟨⟨v', rfl, ho⟩, hc3⟩
    go_wp2_with fail
    refine bodyPost_ret (results_tmp2 rfl _ _ _) rfl ?_
    refine ⟨⟨v', rfl, ?_⟩, ?_⟩
    · rw [HNw.out, ← HP0.out]
      rw [HAT.out, List.nil_append] at ho
      exact ho
    · rw [HNw.out]
      exact L2.out.trans ((none_chg hc3).mono (by rw [← HNw.out]; exact L2w.out.size))
  · rw [if_neg hi] at HP0
    rw [decide_eq_false hi]
    go_enter Tryd.func9, Tryd.ntmps9
    by_cases q1 : i < 0
    · go_wp2_with fail
      refine bodyPost_ret (results_tmp2 rfl _ _ _) rfl ?_
      exact ⟨⟨_, rfl, by rw [← HP0.out]; exact ownG_nil _ _ _⟩, Below.refl _ _⟩
    · have q2 : (n : Int) ≤ i := by omega
      clear hi
      go_wp2_with fail
      refine bodyPost_ret (results_tmp2 rfl _ _ _) rfl ?_
      exact ⟨⟨_, rfl, by rw [← HP0.out]; exact ownG_nil _ _ _⟩, Below.refl _ _⟩
/-- An operation that yields a value and makes memory. -/
theorem wpList_bslice {P : Program} {ops : Array Oper} {rest : List Oper} {op : Oper} {a : Act} {w : World} {Q : Exit → Act → World → Prop} (hgd : op.guard = none) (t : TypeId) (n : Nat) (ps : Array (Nat × Operand)) (_ : op.op = .buildSlice t n ps) (v : Value) (w1 : World)
    (hrun : (execOp a.eval op).run P w = .ok (.value v) w1) (h : wpList P ops Q rest (a.put op.dst v) w1) : wpList P ops Q (op :: rest) a w := by
  refine wpList_plain hgd fun K hK => ?_
  unfold Oper.wp
  rw [hrun]
  exact hK _ _ h
theorem Tryd.infoZ : (Tryd.prog.info? 23).map (fun i => (i.zero, i.size, i.bytes)) = some (some (HV zh), HE.n, 32) := by kernel_rfl
end Go.Proofs.YtfclmjfbcmjfbabDoor

/-
  proof.Climb and proof.Check: what the calls do.
-/
namespace Go.Proofs.YtfclmjfbcmjfbabDoor
open Go.RowKit Go.Shelf
attribute [local go_sem] Oper.semAt_some
def climbC (n i : Int) (x : Hs) (p : List Hs) : Hs × Bool := if 0 ≤ i ∧ i < n ∧ n ≤ 1099511627776 then (if p.length = (wayP 40 0 n.toNat i.toNat true).1.length then (climbW (wayP 40 0 n.toNat i.toNat true).1.reverse x p, true) else (zh, false)) else (zh, false)
/-- What is kept while a path is climbed. -/
structure CI (w4 : World) (N E : Nat) (F : List Tn) (x : Hs) (p : List Hs) (B : Nat) (pre : List (Nat × Tn)) (X : World) : Prop where
  x : Blk X E 23 (By (climbW (F.take pre.length) x (p.take pre.length)).1)
  r : Blk X (N + 1 + 1) 23 (By zh.1)
  c : Chg (fun k => k = E ∨ w4.heap.size ≤ k) w4 X
  b : w4.heap.size < B
theorem CI.chg {w4 : World} {N E : Nat} {F : List Tn} {x : Hs} {p : List Hs} {B : Nat} {pre : List (Nat × Tn)} {X Y : World} (h : CI w4 N E F x p B pre X) {G : Nat → Prop} (hc : Chg G X Y) (hG : ∀ k, k < w4.heap.size → ¬ G k) (hN : N + 1 + 1 < w4.heap.size) (hE : E < w4.heap.size) : CI w4 N E F x p B pre Y :=
  ⟨h.x.chg hc (hG _ hE), h.r.chg hc (hG _ hN), h.c.then hc (fun i hi hg => absurd hg (hG i hi)), h.b⟩
theorem RdG.base {α : Type} {E : Enc α} {w : World} {a : Option Addr} {n cap : Nat} {L : List α} (h : RdG E w (.slice a n cap) L) : 0 < n → ∃ b off, a = some ⟨b, off, none⟩ ∧ b < w.heap.size ∧ ∀ j (hj : j < L.length), w.rangeAt b (off + j * E.n) (E.c L[j]) := h.nth
end Go.Proofs.YtfclmjfbcmjfbabDoor

/-
  (*way).both: what the call does.
-/
namespace Go.Proofs.YtfclmjfbcmjfbabDoor
open Go.RowKit Go.Shelf
attribute [local go_sem] Oper.semAt_some
theorem pv_no {ps : List Nat} {i : Nat} (h : i ∉ ps) (j : Nat) : ¬ ps[j]? = some i := fun e => h (List.mem_of_getElem? e)
theorem pv_at {ps : List Nat} {i m j : Nat} (hn : ps.Nodup) (hm : ps[m]? = some i) (hj : ps[j]? = some i) : j = m := (List.getElem?_inj (List.getElem?_eq_some_iff.1 hj).1 hn).1 (hj.trans hm.symm)
theorem wp_same {P : Program} {o : Oper} {a : Act} {w : World} {C : World → Prop} {Q : Exit → Act → World → Prop} (v : Value) (hrun : (execOp a.eval o).run P w = .ok (.value v) w) (hC : C w) : o.wp P a w (fun a' w' => a' = a.put o.dst v ∧ C w') Q := by
  unfold Oper.wp
  rw [hrun]
  exact ⟨rfl, hC⟩
theorem wp_callC {P : Program} {o : Oper} {a : Act} {w : World} {C : World → Prop} {Q : Exit → Act → World → Prop} (f : FuncId) (args : Array Value) (v : Value) (hrun : (execOp a.eval o).run P w = .ok (.enter f args) w) (hc : Calls P f args w fun e w' => e = .returned v ∧ C w') : o.wp P a w (fun a' w' => a' = a.put o.dst v ∧ C w') Q := by
  unfold Oper.wp
  rw [hrun]
  refine hc.mono ?_
  rintro e w' ⟨rfl, hC⟩
  exact ⟨rfl, hC⟩
theorem wp_sameRow {P : Program} {o : Oper} {a : Act} {w : World} {C : World → Prop} {Q : Exit → Act → World → Prop} (ty : TypeId) (x : Operand) (ho : o.op = .load ty x) (b off : Nat) (hx : a.eval x = .pointer (some ⟨b, off, none⟩))
    (cs : List Value) (d : TypeDesc) (hc : w.rangeAt b off cs) (hu : P.underlying ty = some d) (hd : d.isRow = true) (hi : (P.info? ty).map (·.size) = some cs.length) (hC : C w) : o.wp P a w (fun a' w' => a' = a.put o.dst (.agg cs.toArray) ∧ C w') Q := by
  refine wp_same _ ?_ hC
  simp only [execOp, ho, hx, Instr.loadAt, Instr.sureAddr, Sem.run_bind, Sem.run_pure, Result.andThen_ok, run_loadVar_mid w b off ty cs d hc hu hd hi]
theorem results_hh {P : Program} {fn : Func} {p q : Tmp} {ty : TypeId} (h : fn.results = #[.cell p ty, .cell q ty]) (tmps : Array Value) (w : World) (g g' : Nat) (T : TypeId) (cs ds : List Value) {d : TypeDesc}
    (hp : tmps.getD p undef = .pointer (some ⟨g, 0, none⟩)) (hq : tmps.getD q undef = .pointer (some ⟨g', 0, none⟩)) (hB : Blk w g T cs) (hB' : Blk w g' T ds) (hu : P.underlying ty = some d) (hd : d.isRow = true) (hi : (P.info? ty).map (·.size) = some cs.length) (hi' : (P.info? ty).map (·.size) = some ds.length) :
    (results fn tmps).run P w = .ok (.tuple #[.agg cs.toArray, .agg ds.toArray]) w := by
  have h1 := run_loadVar_mid (P := P) w g 0 ty cs d hB.range0 hu hd hi
  have h2 := run_loadVar_mid (P := P) w g' 0 ty ds d hB'.range0 hu hd hi'
  rw [Array.getD_eq_getD_getElem?] at hp hq
  simp only [results, h]
  simp [Sem.run_bind, Result.andThen, hp, hq, asAddr, h1, h2]
theorem results_hhb {P : Program} {fn : Func} {p q u : Tmp} {ty : TypeId} (h : fn.results = #[.cell p ty, .cell q ty, .tmp u]) (tmps : Array Value) (w : World) (g g' : Nat) (T : TypeId) (cs ds : List Value) (b : Value) {d : TypeDesc}
    (hp : tmps.getD p undef = .pointer (some ⟨g, 0, none⟩)) (hq : tmps.getD q undef = .pointer (some ⟨g', 0, none⟩)) (hb : tmps.getD u undef = b) (hB : Blk w g T cs) (hB' : Blk w g' T ds) (hu : P.underlying ty = some d) (hd : d.isRow = true) (hi : (P.info? ty).map (·.size) = some cs.length) (hi' : (P.info? ty).map (·.size) = some ds.length) :
    (results fn tmps).run P w = .ok (.tuple #[.agg cs.toArray, .agg ds.toArray, b]) w := by
  have h1 := run_loadVar_mid (P := P) w g 0 ty cs d hB.range0 hu hd hi
  have h2 := run_loadVar_mid (P := P) w g' 0 ty ds d hB'.range0 hu hd hi'
  rw [Array.getD_eq_getD_getElem?] at hp hq hb
  simp only [results, h]
  simp [Sem.run_bind, Result.andThen, hp, hq, hb, asAddr, h1, h2]
/-- What is kept while both roots are found. -/
structure BI (w4 : World) (N E1 E2 : Nat) (F : List Tn) (x : Hs) (p : List Hs) (B : Nat) (pre : List (Nat × Tn)) (X : World) : Prop where
  e : Blk X E1 23 (By (bothW (F.take pre.length) x x (p.take pre.length)).1.1)
  l : Blk X E2 23 (By (bothW (F.take pre.length) x x (p.take pre.length)).2.1)
  r1 : Blk X (N + 1 + 1) 23 (By zh.1)
  r2 : Blk X (N + 1 + 1 + 1) 23 (By zh.1)
  c : Chg (fun k => (k = E1 ∨ k = E2) ∨ w4.heap.size ≤ k) w4 X
  b : w4.heap.size < B
theorem BI.chg {w4 : World} {N E1 E2 : Nat} {F : List Tn} {x : Hs} {p : List Hs} {B : Nat} {pre : List (Nat × Tn)} {X Y : World} (h : BI w4 N E1 E2 F x p B pre X) {G : Nat → Prop} (hc : Chg G X Y) (hG : ∀ k, k < w4.heap.size → ¬ G k) (hN : N + 1 + 1 + 1 < w4.heap.size) (hE1 : E1 < w4.heap.size) (hE2 : E2 < w4.heap.size) : BI w4 N E1 E2 F x p B pre Y :=
  ⟨h.e.chg hc (hG _ hE1), h.l.chg hc (hG _ hE2), h.r1.chg hc (hG _ (by omega)), h.r2.chg hc (hG _ hN), h.c.then hc (fun i hi hg => absurd hg (hG i hi)), h.b⟩
set_option maxHeartbeats 8000000 in
set_option maxRecDepth 100000 in
theorem both_any (D lo hi c : Nat) (A : List Tn) (hA : A.length = 64) (hc : c ≤ 64) (x : Hs) (pv : Value) (p : List Hs) (hl : p.length = c) (w : World) (hT : Tabs w) (hD : Blk w D 35 (WC lo hi A c)) (hP : RdG HE w pv p) :
    Calls Tryd.prog 8 #[.pointer (some ⟨D, 0, none⟩), HV x, pv] w fun e w' => e = .returned (.tuple #[HV (bothW (A.take c).reverse x x p).1, HV (bothW (A.take c).reverse x x p).2]) ∧ Below w.heap.size w w' := by
  obtain ⟨pa, cp, rfl⟩ := hP.slice
  obtain ⟨N, HNw⟩ : ∃ N, Hid (w.heap.size = N) := ⟨_, rfl⟩
  have HNT : Hid (2 ≤ N) := (show 2 ≤ N by rw [← HNw.out]; exact hT.size)
  have HT := hide hT
  have RP := hide hP
  have HPL := hide hl
  have HA := hide hA
  have HD := hide hD
  have HC64 := hide hc
  have hDl : D < N := by rw [← HNw.out]; exact hD.lt
  rw [hl] at RP ⊢
  have HTR : Hid ((A.take c).reverse.length = c) := (show _ = _ by rw [List.length_reverse, List.length_take, hA]; omega)
  obtain ⟨F, HF⟩ : ∃ F, Hid ((A.take c).reverse = F) := ⟨_, rfl⟩
  rw [HF.out] at HTR ⊢
  clear hP hT hl hA hD hc
  obtain ⟨N0, -⟩ : ∃ n : Nat, True := ⟨9, trivial⟩
  refine (callsIn_wide (n := N0)).1 ?_
  change CallsIn _ _ _ _ #[.pointer (some ⟨D, 0, none⟩), .agg (By x.1).toArray, .slice pa c cp] _ _
  refine callsIn_of_wp_marks Tryd.func8 rfl trivial ?_ rfl
  simp only [Tryd.ntmps8, List.size_toArray, List.length_cons, List.length_nil, Nat.reduceAdd, Nat.reduceSub, Array.replicate_succ, Array.replicate_zero, List.push_toArray, List.append_toArray, List.nil_append, List.cons_append]
  gi_wp2_with fail
  obtain ⟨w0, hw0⟩ : ∃ z, z = (((w.alloc (.cells (By x.1).toArray 23 (0, 0))).alloc (.cells [.slice pa c cp].toArray 26 (0, 0))).alloc (.cells (By zh.1).toArray 23 (0, 0))).alloc (.cells (By zh.1).toArray 23 (0, 0)) := ⟨_, rfl⟩
  change Code.wpIn _ _ _ _ _ _ ((((w.alloc (.cells (By x.1).toArray 23 (0, 0))).alloc (.cells [.slice pa c cp].toArray 26 (0, 0))).alloc (.cells (By zh.1).toArray 23 (0, 0))).alloc (.cells (By zh.1).toArray 23 (0, 0)))
  rw [← hw0, HNw.out]
  obtain ⟨b0, b1, b2, b3, ln⟩ := boxes4 HNw hw0
  have S0 : Hid (w0.heap.size = N + 1 + 1 + 1 + 1) := (show _ = _ by rw [hw0]; simp [HNw.out])
  have B0 := hide b0
  have B1 := hide b1
  have B2 := hide b2
  have B3 := hide b3
  have LN := hide ln
  clear hw0 b0 b1 b2 b3 ln
  refine cells_by (jl_in op_inW Tryd.mixed (by decide +kernel)) (KS (fun i_ => match i_ with | 0 | 1 => .val (HV x) | _ => .free)) [⟨2, 8, 4, 23, By zh.1, By x.1⟩, ⟨3, 9, 5, 23, By zh.1, By x.1⟩] 36 rfl (by decide +kernel) (KS_mono_val _ (fun i => by split <;> exact fun _ _ _ h => h)) (by intro c hc c' hc' e; simp only [List.mem_cons, List.not_mem_nil, or_false] at hc hc'; rcases hc with rfl | rfl <;> rcases hc' with rfl | rfl <;> first | rfl | (simp at e)) (by intro c hc c' hc' e; simp only [List.mem_cons, List.not_mem_nil, or_false] at hc hc'; rcases hc with rfl | rfl <;> rcases hc' with rfl | rfl <;> first | rfl | (simp at e)) (by intro c hc; simp only [List.mem_cons, List.not_mem_nil, or_false] at hc; rcases hc with rfl | rfl <;> rfl) ?_ ?_
  · refine AllFrom.cons ?_ (AllFrom.cons ?_ (AllFrom.cons ?_ (AllFrom.cons ?_ (AllFrom.cons ?_ (AllFrom.cons ?_ AllFrom.nil)))))
    · skip
      refine .val rfl (notI rfl) (notS rfl) (fun a' w' hb hk hd Q => ?_)
      have e4 : a'.eval (.tmp 4) = .pointer (some ⟨N, 0, none⟩) := hk.at 4 (by decide +kernel)
      exact wp_load_row 23 _ rfl _ _ e4 (By x.1) _ ((B0.out.kept (show Below w0.heap.size w0 w' from hb)).range0) Tryd.underlying23 rfl (Tryd.sizeH x) (KS_mkv rfl rfl)
    · skip
      refine .val rfl (notI rfl) (notS rfl) (fun a' w' hb hk hd Q => ?_)
      have e4 : a'.eval (.tmp 4) = .pointer (some ⟨N, 0, none⟩) := hk.at 4 (by decide +kernel)
      exact wp_load_row 23 _ rfl _ _ e4 (By x.1) _ ((B0.out.kept (show Below w0.heap.size w0 w' from hb)).range0) Tryd.underlying23 rfl (Tryd.sizeH x) (KS_mkv rfl rfl)
    · skip
      refine .new rfl _ (List.Mem.head _) rfl (notS rfl) rfl (fun a' w' => ?_)
      simp only [execOp]; go_simp; rfl
    · skip
      refine .new rfl _ (List.Mem.tail _ (List.Mem.head _)) rfl (notS rfl) rfl (fun a' w' => ?_)
      simp only [execOp]; go_simp; rfl
    · skip
      refine .put rfl _ (List.Mem.head _) (notI rfl) rfl rfl (.tmp 12) rfl (by kernel_rfl) (fun a' w' hb hk hd => ?_) (by rw [By_len, By_len]) (Tryd.sizeH x) (By_one _)
      have e12 : a'.eval (.tmp 12) = HV x := KS_val (hd 0 12 (by decide +kernel) (notI rfl)) rfl
      exact e12
    · skip
      refine .put rfl _ (List.Mem.tail _ (List.Mem.head _)) (notI rfl) rfl rfl (.tmp 13) rfl (by kernel_rfl) (fun a' w' hb hk hd => ?_) (by rw [By_len, By_len]) (Tryd.sizeH x) (By_one _)
      have e13 : a'.eval (.tmp 13) = HV x := KS_val (hd 1 13 (by decide +kernel) (notI rfl)) rfl
      exact e13
  intro a' w1 hsz hdf hk hall hb1 hBB
  obtain ⟨BF, hB1, hB2⟩ := hBB
  obtain ⟨E8, hl8, BE⟩ := hB1 _ (List.Mem.head _) (show (2 : Nat) < 6 by decide) (show (4 : Nat) < 6 by decide)
  obtain ⟨E9, hl9, BL⟩ := hB1 _ (List.Mem.tail _ (List.Mem.head _)) (show (3 : Nat) < 6 by decide) (show (5 : Nat) < 6 by decide)
  have hne := hB2 _ (List.Mem.head _) _ (List.Mem.tail _ (List.Mem.head _)) (show (2 : Nat) < 6 by decide) (show (3 : Nat) < 6 by decide) (by simp)
  simp only at E8 E9 hl8 hl9 BE BL hne
  clear hB1 hB2
  generalize BF 2 = E1 at E8 hl8 BE hne
  generalize BF 3 = E2 at E9 hl9 BL hne
  have e12 : a'.eval (.tmp 12) = HV x := KS_val (hall 0 _ 12 rfl (notI rfl) rfl) rfl
  have e13 : a'.eval (.tmp 13) = HV x := KS_val (hall 1 _ 13 rfl (notI rfl) rfl) rfl
  have ha := act_puts 36 rfl hsz hdf hk [12, 13, 8, 9] (by decide +kernel)
  simp only [puts, List.foldl_cons, List.foldl_nil, e12, e13, E8, E9] at ha
  simp only [Act.put, List.setIfInBounds_toArray, List.set_cons_succ, List.set_cons_zero] at ha
  clear hall hk hsz hdf e12 e13 E8 E9
  subst ha
  have hs0 := S0.out
  have hE1 : E1 < w1.heap.size := BE.lt
  have hE2 : E2 < w1.heap.size := BL.lt
  have BP1 := B1.out.kept hb1
  have BR1 := B2.out.kept hb1
  have BS1 := B3.out.kept hb1
  have L1 : Below N w w1 := LN.out.trans (hb1.mono (by omega))
  have L1w : Below w.heap.size w w1 := by rw [HNw.out]; exact L1
  have BD1 := HD.out.kept L1w
  rw [hs0] at hl8 hl9
  simp only [HV]
  gi_wp2_with fail
  refine wide_call (up_any D w1) ?_
  rintro e w4 ⟨rfl, hw4⟩
  obtain ⟨U, HU⟩ : ∃ U, Hid (w1.heap.size = U) := ⟨_, rfl⟩
  rw [HU.out] at hE1 hE2 ⊢
  have hb4 : Below w1.heap.size w1 w4 := by rw [hw4]; exact (Below.refl _ _).alloc (Nat.le_refl _) _
  have BU : Hid (Blk w4 U 44 [.pointer (some ⟨D, 0, none⟩)]) := (show Blk _ _ _ _ by rw [hw4, ← HU.out]; exact Blk.new w1 44 [.pointer (some ⟨D, 0, none⟩)])
  have S4 : Hid (w4.heap.size = U + 1) := (show _ = _ by rw [hw4]; simp [HU.out])
  have BD4 := hide (BD1.kept hb4)
  have BP4 := hide (BP1.kept hb4)
  have BR4 := hide (BR1.kept hb4)
  have BS4 := hide (BS1.kept hb4)
  have BE4 := hide (BE.kept hb4)
  have BL4 := hide (BL.kept hb4)
  have L4 : Hid (Below N w w4) := L1.trans (hb4.mono (by rw [HU.out]; omega))
  have L4w : Hid (Below w.heap.size w w4) := (show Below _ _ _ by rw [HNw.out]; exact L4.out)
  have RP4 := hide (RP.out.kept L4w.out)
  have T4 : Hid (Tabs w4) := HT.out.kept (L4.out.mono HNT.out)
  have hs4 := S4.out
  clear hw4 hb4 BD1 BP1 BR1 BS1 BE BL L1 L1w hb1
  gi_wp2_with fail
  refine wp_ranged4 (n := N0) (gf := 17) (lb := #[.pointer (some ⟨U, 0, none⟩)]) rfl (enters_of Tryd.func17 (by kernel_rfl) rfl) (encs := tbV) (fun _ => rfl) (R := upR (A.take c).reverse) (S := fun xs => xs.length = (A.take c).reverse.length) (BI w4 N E1 E2 F x p) (fun _ _ _ _ => False) ?ip (fun _ _ _ _ _ _ _ _ _ _ h => h) ?ib (fun _ _ _ _ _ h _ => h) ?h0 (G := fun k => k = E1 ∨ k = E2)
    (up1_hands U D lo hi c A HA.out HC64.out w4 BU.out BD4.out ?c1 ?c2 ?c3)
    (fun x_ h => { tmps := #[.pointer (some ⟨D, 0, none⟩), .agg (By x.1).toArray, .slice pa c cp, undef, .pointer (some ⟨N, 0, none⟩), .pointer (some ⟨N + 1, 0, none⟩), .pointer (some ⟨N + 1 + 1, 0, none⟩), .pointer (some ⟨N + 1 + 1 + 1, 0, none⟩), .pointer (some ⟨E1, 0, none⟩), .pointer (some ⟨E2, 0, none⟩), .int .i64 (x_.1 : Int), .pointer (some ⟨h, 0, none⟩), .agg (By x.1).toArray, .agg (By x.1).toArray, .pointer (some ⟨D, 0, none⟩), .func (.func 17) #[] #[.pointer (some ⟨U, 0, none⟩)], .int .i64 (x_.1 : Int), .agg (TE.c x_.2).toArray, undef, undef, undef, undef, undef, undef, undef, undef, undef, undef, undef, undef, undef, undef, undef, undef, undef, undef], defers := [] }) (fun x h X => Blk X h 32 (TE.c x.2)) ?ap ?assign ?body ?done (fun _ _ _ _ _ _ _ h _ => h.elim)
  case c1 => rintro k (h | h) <;> omega
  case c2 => rintro (h | h) <;> omega
  case c3 => rintro (h | h) <;> omega
  case ip =>
    intro B pre X k o0 o hk hX hn hI
    exact hI.chg (chg_put (G := fun j => j = k) rfl o) (fun j hj e => by omega) (by omega) (by omega) (by omega)
  case ib =>
    intro B pre X Y hI hb
    exact hI.chg (G := fun _ => False) (Chg.of_below hb) (fun _ _ h => h) (by omega) (by omega) (by omega)
  case h0 =>
    intro X hX hlt
    exact ⟨by simpa [bothW_nil] using BE4.out.kept hX, by simpa [bothW_nil] using BL4.out.kept hX, BR4.out.kept hX, BS4.out.kept hX, Chg.of_below hX, hlt⟩
  case ap =>
    intro x h X k o0 o hk hX hn hB
    exact hB.put10 hX hn
  case assign =>
    intro m l' x X K' hle hK
    have BW := Blk.new X 32 (TE.c Tz)
    simp only [tbV]
    gi_wp2_with (first
      | (refine wpListIn_store_blk rfl 32 _ _ rfl X.heap.size (TE.c Tz) (TE.c x.2) 32 rfl rfl BW rfl Tryd.sizeTn (TE.one _) ?_; intro w5 hb5 hu5)
      | fail)
    exact hK w5 (((Below.refl _ _).alloc (Nat.le_refl _) _).trans (hu5.below (Nat.le_refl _) (by simp))) hb5
  case body =>
    rintro m l' B pre ⟨r, t⟩ h X hwB hBh hle hI hR hA
    obtain ⟨hR1, hR2⟩ := hR
    simp only at hR1 hR2 hA
    subst hR1
    rw [HF.out] at hR2
    obtain ⟨r, HRL⟩ : ∃ r, Hid (pre.length = r) := ⟨_, rfl⟩
    have ie := hI.e
    have il := hI.l
    rw [HRL.out] at hR2 ie il ⊢
    have hrT : r < F.length := (List.getElem?_eq_some_iff.1 hR2).1
    have hrc : r < c := by rw [← HTR.out]; exact hrT
    have hrp : r < p.length := by rw [HPL.out]; exact hrc
    have hRt : F[r] = t := by rw [List.getElem?_eq_getElem hrT] at hR2; exact Option.some.inj hR2
    have HST := hide (bothW_step (F := F) (p := p) hrT hrp x x)
    rw [hRt] at HST
    obtain ⟨b, off, rfl, hlb, hx9⟩ := (RP4.out.chg hI.c (by
      intro b' hb' h
      have hbl := RP.out.inB_lt hb'
      rw [HNw.out] at hbl
      rcases h with (h | h) | h <;> omega)).nth (by omega)
    have hrk : X.rangeAt b (off + r * 32) (By p[r].1) := hx9 r hrp
    have hlb9 := hlb
    have hbN : b < N := by
      have := RP.out.inB_lt (b := b) ⟨off, c, cp, rfl, by omega⟩
      rw [HNw.out] at this
      exact this
    generalize p[r] = z at hrk HST
    generalize (bothW (F.take r) x x (p.take r)).1 = y1 at ie HST
    generalize (bothW (F.take r) x x (p.take r)).2 = y2 at il HST
    have IE := hide ie
    have IL := hide il
    have IR1 := hide hI.r1
    have IR2 := hide hI.r2
    have IC := hide hI.c
    have HAf := hide hA
    have B1r := hide (BP4.out.chg hI.c (by rintro ((h | h) | h) <;> omega))
    have TW : Hid (Tabs X) := T4.out.kept (hI.c.below (by have := HNT.out; omega) (fun k hk h => by have := HNT.out; rcases h with (h | h) | h <;> omega))
    have hrci : (r : Int) < (c : Int) := by omega
    have hcl : X.cell? ⟨h, 2, none⟩ = some (.bool t.left) := hA.cell (j := 2) rfl
    clear hI hA hR2 hx9 ie il hRt hlb
    cases htl : t.left with
    | true =>
      rw [htl] at HST hcl
      simp only [if_true] at HST
      gi_wp2_with fail
      refine wpIn_region_tails op_in Tryd.mixed (by decide +kernel) (KS (fun i_ => match i_ with | 0 => .val (.agg (TE.c t).toArray) | 1 => .val (HV y1) | 2 => .val (.slice (some ⟨b, off, none⟩) c cp) | 3 => .val (.int .i64 (r : Int)) | 4 => .val (.pointer (some ⟨b, off + r * 32, none⟩)) | 5 => .val (HV z) | 6 => .val (HV (jn t y1 z)) | _ => .free)) 36 rfl (by decide +kernel) 7 (by decide) (by decide +kernel) (KS_mono _) ?_ ?_
      · refine AllFrom.cons ⟨rfl, fun a' w' hg hk hd => ?_⟩ (AllFrom.cons ⟨rfl, fun a' w' hg hk hd => ?_⟩ (AllFrom.cons ⟨rfl, fun a' w' hg hk hd => ?_⟩ (AllFrom.cons ⟨rfl, fun a' w' hg hk hd => ?_⟩ (AllFrom.cons ⟨rfl, fun a' w' hg hk hd => ?_⟩ (AllFrom.cons ⟨rfl, fun a' w' hg hk hd => ?_⟩ (AllFrom.cons ⟨rfl, fun a' w' hg hk hd => ?_⟩ AllFrom.nil))))))
        · skip
          intro Q
          have e11 : a'.eval (.tmp 11) = .pointer (some ⟨h, 0, none⟩) := hk.at 11 (by decide +kernel)
          exact wp_load_row 32 _ rfl _ _ e11 (TE.c t) _ ((HAf.out.kept hg).range0) Tryd.underlying32 rfl (Tryd.sizeTn) (KS_mkv rfl rfl)
        · skip
          intro Q
          have e8 : a'.eval (.tmp 8) = .pointer (some ⟨E1, 0, none⟩) := hk.at 8 (by decide +kernel)
          exact wp_load_row 23 _ rfl _ _ e8 (By (y1).1) _ ((IE.out.kept hg).range0) Tryd.underlying23 rfl (Tryd.sizeH _) (KS_mkv rfl rfl)
        · skip
          intro Q
          have e5 : a'.eval (.tmp 5) = .pointer (some ⟨N + 1, 0, none⟩) := hk.at 5 (by decide +kernel)
          have hc := (B1r.out.kept hg).cell (j := 0) rfl
          clear hd hk
          exact wp_value (.slice (some ⟨b, off, none⟩) c cp) (by simp only [execOp, e5]; go_simp) (KS_mkv rfl rfl)
        · skip
          intro Q
          have e10 : a'.eval (.tmp 10) = .int .i64 (r : Int) := hk.at 10 (by decide +kernel)
          exact wp_value _ (by simp only [execOp, e10]; rfl) (KS_mkv rfl rfl)
        · skip
          intro Q
          have e22 : a'.eval (.tmp 22) = .slice (some ⟨b, off, none⟩) c cp := KS_val (hd.val 2 22 (by decide +kernel)) rfl
          have e23 : a'.eval (.tmp 23) = .int .i64 (r : Int) := KS_val (hd.val 3 23 (by decide +kernel)) rfl
          clear hd hk
          exact wp_value (.pointer (some ⟨b, off + r * 32, none⟩)) (by simp only [execOp, e22, e23]; go_simp) (KS_mkv rfl rfl)
        · skip
          intro Q
          have e24 : a'.eval (.tmp 24) = .pointer (some ⟨b, off + r * 32, none⟩) := KS_val (hd.val 4 24 (by decide +kernel)) rfl
          exact wp_load_row 23 _ rfl _ _ e24 (By (z).1) _ (rangeAt_kept9 hrk hlb9 hg) Tryd.underlying23 rfl (Tryd.sizeH _) (KS_mkv rfl rfl)
        · skip
          intro Q
          have e20 : a'.eval (.tmp 20) = .agg (TE.c t).toArray := KS_val (hd.val 0 20 (by decide +kernel)) rfl
          have e21 : a'.eval (.tmp 21) = HV y1 := KS_val (hd.val 1 21 (by decide +kernel)) rfl
          have e25 : a'.eval (.tmp 25) = HV z := KS_val (hd.val 5 25 (by decide +kernel)) rfl
          refine wp_call 13 _ (run_enter 13 _ _ rfl (by kernel_rfl)) ?_
          simp only [List.map_toArray, List.map_nil, List.map_cons, e20, e21, e25]
          refine (join_any t y1 z _ (TW.out.gr hg)).mono ?_
          rintro e w5 ⟨rfl, hb5⟩
          exact ⟨_, rfl, KS_mkv rfl rfl, hb5⟩
      · intro a' w5 hsz hdf hk hall hg
        have e20 : a'.eval (.tmp 20) = .agg (TE.c t).toArray := KS_val (hall 0 _ 20 (by decide) rfl rfl) rfl
        have e21 : a'.eval (.tmp 21) = HV y1 := KS_val (hall 1 _ 21 (by decide) rfl rfl) rfl
        have e22 : a'.eval (.tmp 22) = .slice (some ⟨b, off, none⟩) c cp := KS_val (hall 2 _ 22 (by decide) rfl rfl) rfl
        have e23 : a'.eval (.tmp 23) = .int .i64 (r : Int) := KS_val (hall 3 _ 23 (by decide) rfl rfl) rfl
        have e24 : a'.eval (.tmp 24) = .pointer (some ⟨b, off + r * 32, none⟩) := KS_val (hall 4 _ 24 (by decide) rfl rfl) rfl
        have e25 : a'.eval (.tmp 25) = HV z := KS_val (hall 5 _ 25 (by decide) rfl rfl) rfl
        have e26 : a'.eval (.tmp 26) = HV (jn t y1 z) := KS_val (hall 6 _ 26 (by decide) rfl rfl) rfl
        have e8 : a'.eval (.tmp 8) = .pointer (some ⟨E1, 0, none⟩) := hk.at 8 (by decide +kernel)
        refine ⟨rfl, op_in (fun c h => by cases h) (wp_store_blk 23 _ _ rfl E1 (By y1.1) (By (jn t y1 z).1) 23 e8 e26 (IE.out.kept hg) (by rw [By_len, By_len]) (Tryd.sizeH _) (By_one _) ?_)⟩
        intro w6 hb6 hu6
        refine ⟨_, rfl, ?_⟩
        show Exit.then _ _ Exit.normal (a'.put none undef) w6
        have hc6 : Chg (fun k => k = E1) X w6 := (Chg.of_below hg).trans (Chg.of_but hu6 rfl)
        have HC6 := hide hc6
        have IE7 := hide hb6
        have IL7 := hide (IL.out.chg hc6 (by omega))
        have HAf7 := hide (HAf.out.chg hc6 (by omega))
        have B1r7 := hide (B1r.out.chg hc6 (by omega))
        have IR17 := hide (IR1.out.chg hc6 (by omega))
        have IR27 := hide (IR2.out.chg hc6 (by omega))
        have TW7 : Hid (Tabs w6) := TW.out.kept (hc6.below (by have := HNT.out; omega) (fun k hk h => by have := HNT.out; omega))
        have hlb97 : b < w6.heap.size := Nat.lt_of_lt_of_le hlb9 hc6.size
        have hrk7 : w6.rangeAt b (off + r * 32) (By z.1) := fun j u hj => (hc6.cellAt hlb9 (by omega)).trans (hrk j u hj)
        have ha := act_puts 36 rfl hsz hdf hk [20, 21, 22, 23, 24, 25, 26] (by decide +kernel)
        simp only [puts, List.foldl_cons, List.foldl_nil, e20, e21, e22, e23, e24, e25, e26] at ha
        simp only [Act.put, List.setIfInBounds_toArray, List.set_cons_succ, List.set_cons_zero] at ha
        clear hall hk hsz hdf e20 e21 e22 e23 e24 e25 e26 e8 hb6 hu6 hg hc6 hcl
        subst ha
        simp only [Act.put]
        gi_wp2_with fail
        refine wpIn_region_tails op_in Tryd.mixed (by decide +kernel) (KS (fun i_ => match i_ with | 0 => .val (.agg (TE.c t).toArray) | 1 => .val (HV y2) | 2 => .val (.slice (some ⟨b, off, none⟩) c cp) | 3 => .val (.int .i64 (r : Int)) | 4 => .val (.pointer (some ⟨b, off + r * 32, none⟩)) | 5 => .val (HV z) | 6 => .val (HV (jn t y2 z)) | _ => .free)) 36 rfl (by decide +kernel) 7 (by decide) (by decide +kernel) (KS_mono _) ?_ ?_
        · refine AllFrom.cons ⟨rfl, fun a' w' hg hk hd => ?_⟩ (AllFrom.cons ⟨rfl, fun a' w' hg hk hd => ?_⟩ (AllFrom.cons ⟨rfl, fun a' w' hg hk hd => ?_⟩ (AllFrom.cons ⟨rfl, fun a' w' hg hk hd => ?_⟩ (AllFrom.cons ⟨rfl, fun a' w' hg hk hd => ?_⟩ (AllFrom.cons ⟨rfl, fun a' w' hg hk hd => ?_⟩ (AllFrom.cons ⟨rfl, fun a' w' hg hk hd => ?_⟩ AllFrom.nil))))))
          · skip
            intro Q
            have e11 : a'.eval (.tmp 11) = .pointer (some ⟨h, 0, none⟩) := hk.at 11 (by decide +kernel)
            exact wp_load_row 32 _ rfl _ _ e11 (TE.c t) _ ((HAf7.out.kept hg).range0) Tryd.underlying32 rfl (Tryd.sizeTn) (KS_mkv rfl rfl)
          · skip
            intro Q
            have e9 : a'.eval (.tmp 9) = .pointer (some ⟨E2, 0, none⟩) := hk.at 9 (by decide +kernel)
            exact wp_load_row 23 _ rfl _ _ e9 (By (y2).1) _ ((IL7.out.kept hg).range0) Tryd.underlying23 rfl (Tryd.sizeH _) (KS_mkv rfl rfl)
          · skip
            intro Q
            have e5 : a'.eval (.tmp 5) = .pointer (some ⟨N + 1, 0, none⟩) := hk.at 5 (by decide +kernel)
            have hc := (B1r7.out.kept hg).cell (j := 0) rfl
            clear hd hk
            exact wp_value (.slice (some ⟨b, off, none⟩) c cp) (by simp only [execOp, e5]; go_simp) (KS_mkv rfl rfl)
          · skip
            intro Q
            have e10 : a'.eval (.tmp 10) = .int .i64 (r : Int) := hk.at 10 (by decide +kernel)
            exact wp_value _ (by simp only [execOp, e10]; rfl) (KS_mkv rfl rfl)
          · skip
            intro Q
            have e29 : a'.eval (.tmp 29) = .slice (some ⟨b, off, none⟩) c cp := KS_val (hd.val 2 29 (by decide +kernel)) rfl
            have e30 : a'.eval (.tmp 30) = .int .i64 (r : Int) := KS_val (hd.val 3 30 (by decide +kernel)) rfl
            clear hd hk
            exact wp_value (.pointer (some ⟨b, off + r * 32, none⟩)) (by simp only [execOp, e29, e30]; go_simp) (KS_mkv rfl rfl)
          · skip
            intro Q
            have e31 : a'.eval (.tmp 31) = .pointer (some ⟨b, off + r * 32, none⟩) := KS_val (hd.val 4 31 (by decide +kernel)) rfl
            exact wp_load_row 23 _ rfl _ _ e31 (By (z).1) _ (rangeAt_kept9 hrk7 hlb97 hg) Tryd.underlying23 rfl (Tryd.sizeH _) (KS_mkv rfl rfl)
          · skip
            intro Q
            have e27 : a'.eval (.tmp 27) = .agg (TE.c t).toArray := KS_val (hd.val 0 27 (by decide +kernel)) rfl
            have e28 : a'.eval (.tmp 28) = HV y2 := KS_val (hd.val 1 28 (by decide +kernel)) rfl
            have e32 : a'.eval (.tmp 32) = HV z := KS_val (hd.val 5 32 (by decide +kernel)) rfl
            refine wp_call 13 _ (run_enter 13 _ _ rfl (by kernel_rfl)) ?_
            simp only [List.map_toArray, List.map_nil, List.map_cons, e27, e28, e32]
            refine (join_any t y2 z _ (TW7.out.gr hg)).mono ?_
            rintro e w5 ⟨rfl, hb5⟩
            exact ⟨_, rfl, KS_mkv rfl rfl, hb5⟩
        · intro a' w7 hsz hdf hk hall hg
          have e33 : a'.eval (.tmp 33) = HV (jn t y2 z) := KS_val (hall 6 _ 33 (by decide) rfl rfl) rfl
          have e9 : a'.eval (.tmp 9) = .pointer (some ⟨E2, 0, none⟩) := hk.at 9 (by decide +kernel)
          refine ⟨rfl, op_in (fun c h => by cases h) (wp_store_blk 23 _ _ rfl E2 (By y2.1) (By (jn t y2 z).1) 23 e9 e33 (IL7.out.kept hg) (by rw [By_len, By_len]) (Tryd.sizeH _) (By_one _) ?_)⟩
          intro w8 hb8 hu8
          refine ⟨_, rfl, ?_⟩
          have hc8 : Chg (fun k => k = E1 ∨ k = E2) X w8 := ((HC6.out.mono (fun i _ h => .inl h)).trans (Chg.of_below hg)).trans (Chg.of_but hu8 (.inr rfl))
          refine ⟨keeps_chg hc8 (fun k o hk ho => ?_), hc8.mono (fun i _ h => .inl h), ⟨?_, ?_, ?_, ?_, IC.out.then hc8 (fun i _ h => .inl h), hwB⟩⟩
          · rcases hk with hk | hk
            · subst hk
              have := IE.out.symm.trans ho
              cases this
              rfl
            · subst hk
              have := IL.out.symm.trans ho
              cases this
              rfl
          · rw [List.length_append, List.length_singleton, HRL.out, HST.out]
            exact (IE7.out.kept hg).but hu8 (by omega)
          · rw [List.length_append, List.length_singleton, HRL.out, HST.out]
            exact hb8
          · exact (IR17.out.kept hg).but hu8 (by omega)
          · exact (IR27.out.kept hg).but hu8 (by omega)
    | false =>
      rw [htl] at HST hcl
      simp only [Bool.false_eq_true, if_false] at HST
      gi_wp2_with fail
      refine wpIn_region_tails op_in Tryd.mixed (by decide +kernel) (KS (fun i_ => match i_ with | 0 => .val (.agg (TE.c t).toArray) | 1 => .val (HV y2) | 2 => .val (.slice (some ⟨b, off, none⟩) c cp) | 3 => .val (.int .i64 (r : Int)) | 4 => .val (.pointer (some ⟨b, off + r * 32, none⟩)) | 5 => .val (HV z) | 6 => .val (HV (jn t y2 z)) | _ => .free)) 36 rfl (by decide +kernel) 7 (by decide) (by decide +kernel) (KS_mono _) ?_ ?_
      · refine AllFrom.cons ⟨rfl, fun a' w' hg hk hd => ?_⟩ (AllFrom.cons ⟨rfl, fun a' w' hg hk hd => ?_⟩ (AllFrom.cons ⟨rfl, fun a' w' hg hk hd => ?_⟩ (AllFrom.cons ⟨rfl, fun a' w' hg hk hd => ?_⟩ (AllFrom.cons ⟨rfl, fun a' w' hg hk hd => ?_⟩ (AllFrom.cons ⟨rfl, fun a' w' hg hk hd => ?_⟩ (AllFrom.cons ⟨rfl, fun a' w' hg hk hd => ?_⟩ AllFrom.nil))))))
        · skip
          intro Q
          have e11 : a'.eval (.tmp 11) = .pointer (some ⟨h, 0, none⟩) := hk.at 11 (by decide +kernel)
          exact wp_load_row 32 _ rfl _ _ e11 (TE.c t) _ ((HAf.out.kept hg).range0) Tryd.underlying32 rfl (Tryd.sizeTn) (KS_mkv rfl rfl)
        · skip
          intro Q
          have e9 : a'.eval (.tmp 9) = .pointer (some ⟨E2, 0, none⟩) := hk.at 9 (by decide +kernel)
          exact wp_load_row 23 _ rfl _ _ e9 (By (y2).1) _ ((IL.out.kept hg).range0) Tryd.underlying23 rfl (Tryd.sizeH _) (KS_mkv rfl rfl)
        · skip
          intro Q
          have e5 : a'.eval (.tmp 5) = .pointer (some ⟨N + 1, 0, none⟩) := hk.at 5 (by decide +kernel)
          have hc := (B1r.out.kept hg).cell (j := 0) rfl
          clear hd hk
          exact wp_value (.slice (some ⟨b, off, none⟩) c cp) (by simp only [execOp, e5]; go_simp) (KS_mkv rfl rfl)
        · skip
          intro Q
          have e10 : a'.eval (.tmp 10) = .int .i64 (r : Int) := hk.at 10 (by decide +kernel)
          exact wp_value _ (by simp only [execOp, e10]; rfl) (KS_mkv rfl rfl)
        · skip
          intro Q
          have e29 : a'.eval (.tmp 29) = .slice (some ⟨b, off, none⟩) c cp := KS_val (hd.val 2 29 (by decide +kernel)) rfl
          have e30 : a'.eval (.tmp 30) = .int .i64 (r : Int) := KS_val (hd.val 3 30 (by decide +kernel)) rfl
          clear hd hk
          exact wp_value (.pointer (some ⟨b, off + r * 32, none⟩)) (by simp only [execOp, e29, e30]; go_simp) (KS_mkv rfl rfl)
        · skip
          intro Q
          have e31 : a'.eval (.tmp 31) = .pointer (some ⟨b, off + r * 32, none⟩) := KS_val (hd.val 4 31 (by decide +kernel)) rfl
          exact wp_load_row 23 _ rfl _ _ e31 (By (z).1) _ (rangeAt_kept9 hrk hlb9 hg) Tryd.underlying23 rfl (Tryd.sizeH _) (KS_mkv rfl rfl)
        · skip
          intro Q
          have e27 : a'.eval (.tmp 27) = .agg (TE.c t).toArray := KS_val (hd.val 0 27 (by decide +kernel)) rfl
          have e28 : a'.eval (.tmp 28) = HV y2 := KS_val (hd.val 1 28 (by decide +kernel)) rfl
          have e32 : a'.eval (.tmp 32) = HV z := KS_val (hd.val 5 32 (by decide +kernel)) rfl
          refine wp_call 13 _ (run_enter 13 _ _ rfl (by kernel_rfl)) ?_
          simp only [List.map_toArray, List.map_nil, List.map_cons, e27, e28, e32]
          refine (join_any t y2 z _ (TW.out.gr hg)).mono ?_
          rintro e w5 ⟨rfl, hb5⟩
          exact ⟨_, rfl, KS_mkv rfl rfl, hb5⟩
      · intro a' w7 hsz hdf hk hall hg
        have e33 : a'.eval (.tmp 33) = HV (jn t y2 z) := KS_val (hall 6 _ 33 (by decide) rfl rfl) rfl
        have e9 : a'.eval (.tmp 9) = .pointer (some ⟨E2, 0, none⟩) := hk.at 9 (by decide +kernel)
        refine ⟨rfl, op_in (fun c h => by cases h) (wp_store_blk 23 _ _ rfl E2 (By y2.1) (By (jn t y2 z).1) 23 e9 e33 (IL.out.kept hg) (by rw [By_len, By_len]) (Tryd.sizeH _) (By_one _) ?_)⟩
        intro w8 hb8 hu8
        refine ⟨_, rfl, ?_⟩
        have hc8 : Chg (fun k => k = E1 ∨ k = E2) X w8 := (Chg.of_below hg).trans (Chg.of_but hu8 (.inr rfl))
        refine ⟨keeps_chg (F := fun k => k = E2) ((Chg.of_below hg).trans (Chg.of_but hu8 rfl)) (fun k o hk ho => ?_), hc8.mono (fun i _ h => .inl h), ⟨?_, ?_, ?_, ?_, IC.out.then hc8 (fun i _ h => .inl h), hwB⟩⟩
        · subst hk
          have := IL.out.symm.trans ho
          cases this
          rfl
        · rw [List.length_append, List.length_singleton, HRL.out, HST.out]
          exact (IE.out.kept hg).but hu8 (by omega)
        · rw [List.length_append, List.length_singleton, HRL.out, HST.out]
          exact hb8
        · exact (IR1.out.kept hg).but hu8 (by omega)
        · exact (IR2.out.kept hg).but hu8 (by omega)
  case done =>
    rintro Dd B xs X hDd hDB hS hI hd
    have ie := hI.e
    have il := hI.l
    rw [HF.out] at hS
    rw [hS, List.take_length, List.take_of_length_le (by rw [HPL.out, HTR.out]; exact Nat.le_refl _)] at ie il
    obtain ⟨y1, HX1⟩ : ∃ y, Hid ((bothW F x x p).1 = y) := ⟨_, rfl⟩
    obtain ⟨y2, HX2⟩ : ∃ y, Hid ((bothW F x x p).2 = y) := ⟨_, rfl⟩
    rw [HX1.out] at ie
    rw [HX2.out] at il
    have IE := hide ie
    have IL := hide il
    have IR1 := hide hI.r1
    have IR2 := hide hI.r2
    have ic := hI.c
    clear ie il hI
    gi_wp2_with fail
    refine pivots_by (jl_in op_inW Tryd.mixed (by decide +kernel)) (fun i_ => match i_ with | 0 => HV y1 | 1 => HV y2 | 2 => undef | _ => undef) (fun b_ w' => Blk w' (N + 1 + 1) 23 (By (if b_ = 1 then y1 else zh).1) ∧ Blk w' (N + 1 + 1 + 1) 23 (By zh.1) ∧ Chg (fun k => k = N + 1 + 1) X w') [2] 36 rfl (by decide +kernel) 3 (by decide) (by decide) (by decide) (by decide +kernel) (by decide +kernel) ?_ ?_ ?_
    · intro w' hh hg
      exact ⟨by simpa using IR1.out.kept hg, IR2.out.kept hg, Chg.of_below hg⟩
    · refine AllFrom.cons ⟨rfl, ?_, ?_⟩ (AllFrom.cons ⟨rfl, ?_, ?_⟩ (AllFrom.cons ⟨rfl, ?_, ?_⟩ AllFrom.nil))
      · intro _ a' b' w' hC hk hd Q
        have e8 : a'.eval (.tmp 8) = .pointer (some ⟨E1, 0, none⟩) := hk.at 8 (by decide +kernel)
        exact wp_sameRow 23 _ rfl _ _ e8 (By y1.1) _ (IE.out.chg hC.2.2 (by omega)).range0 Tryd.underlying23 rfl (Tryd.sizeH _) hC
      · intro j hj; exact absurd hj (pv_no (by decide) _)
      · intro _ a' b' w' hC hk hd Q
        have e9 : a'.eval (.tmp 9) = .pointer (some ⟨E2, 0, none⟩) := hk.at 9 (by decide +kernel)
        exact wp_sameRow 23 _ rfl _ _ e9 (By y2.1) _ (IL.out.chg hC.2.2 (by omega)).range0 Tryd.underlying23 rfl (Tryd.sizeH _) hC
      · intro j hj; exact absurd hj (pv_no (by decide) _)
      · intro h; exact absurd (by decide) h
      · intro j hj
        obtain rfl : j = 0 := pv_at (by decide) rfl hj
        refine ⟨rfl, fun a' w' hC hk hd Q => ?_⟩
        have e6 : a'.eval (.tmp 6) = .pointer (some ⟨N + 1 + 1, 0, none⟩) := hk.at 6 (by decide +kernel)
        have e34 : a'.eval (.tmp 34) = HV y1 := hd 0 34 (by decide +kernel)
        obtain ⟨hC1, hC2, hC3⟩ := hC
        simp only [Nat.zero_ne_one, if_false] at hC1
        refine wp_store_blk 23 _ _ rfl (N + 1 + 1) (By zh.1) (By y1.1) 23 e6 e34 hC1 (by rw [By_len, By_len]) (Tryd.sizeH y1) (By_one _) ?_
        intro w4 hb4 hu4
        exact ⟨rfl, by simpa using hb4, hC2.but hu4 (by omega), hC3.trans (Chg.of_but hu4 rfl)⟩
    · intro a' w6 hsz hdf hk hall hC
      have e35 : a'.eval (.tmp 35) = HV y2 := hall 1 _ 35 (by decide) rfl rfl
      have e7 : a'.eval (.tmp 7) = .pointer (some ⟨N + 1 + 1 + 1, 0, none⟩) := hk.at 7 (by decide +kernel)
      have e6 : a'.eval (.tmp 6) = .pointer (some ⟨N + 1 + 1, 0, none⟩) := hk.at 6 (by decide +kernel)
      obtain ⟨hC1, hC2, hC3⟩ := hC
      simp only [show ([2] : List Nat).length = 1 from rfl, if_true] at hC1
      refine ⟨rfl, wp_store_blk 23 _ _ rfl (N + 1 + 1 + 1) (By zh.1) (By y2.1) 23 e7 e35 hC2 (by rw [By_len, By_len]) (Tryd.sizeH y2) (By_one _) ?_⟩
      intro w7 hb7 hu7
      refine ⟨_, rfl, ?_⟩
      show Exit.then _ _ Exit.normal (a'.put none undef) w7
      have e34 : a'.eval (.tmp 34) = HV y1 := hall 0 _ 34 (by decide) rfl rfl
      have ha := act_puts 36 rfl hsz hdf hk.all [34, 35] (by decide +kernel)
      simp only [puts, List.foldl_cons, List.foldl_nil, e34, e35] at ha
      simp only [Act.put, List.setIfInBounds_toArray, List.set_cons_succ, List.set_cons_zero] at ha
      clear hall hk hsz hdf e34 e35 e6 e7
      subst ha
      simp only [Act.put]
      have hb6 := hC1.but hu7 (by omega)
      have hc7 : Chg (fun k => k = N + 1 + 1 ∨ k = N + 1 + 1 + 1) X w7 := (hC3.mono (fun i _ h => .inl h)).trans (Chg.of_but hu7 (.inr rfl))
      have hD7 : w7.heap[Dd]? = some (.deferred (some [])) := (hc7.block Dd ((Array.getElem?_eq_some_iff.1 hd).1) (by omega)).trans hd
      gi_wp2_with fail
      refine ⟨by simp, .inl ⟨_, _, rfl, run_takeDeferred hD7, ?_⟩⟩
      have hp := chg_put (G := fun k => k = Dd) (W := w7) (l := Dd) rfl (.deferred none)
      refine ⟨_, results_hh rfl _ _ (N + 1 + 1) (N + 1 + 1 + 1) 23 (By y1.1) (By y2.1) rfl rfl (hb6.chg hp (by omega)) (hb7.chg hp (by omega)) Tryd.underlying23 rfl (Tryd.sizeH y1) (Tryd.sizeH y2), by rw [HX1.out, HX2.out]; rfl, ?_⟩
      rw [HNw.out]
      have h5 : Chg (fun k => N ≤ k) w4 X := ic.mono (fun i _ h => by rcases h with (h | h) | h <;> omega)
      have h6 : Chg (fun k => N ≤ k) X w7 := hc7.mono (fun i _ h => by omega)
      have h7 := (h5.trans h6).trans (hp.mono (fun i _ h => by subst h; show N ≤ i; omega))
      exact L4.out.trans (h7.below (by omega) (fun k hk h => by omega))
#print axioms both_any
end Go.Proofs.YtfclmjfbcmjfbabDoor

/-
  proof.Check and proof.Checks: what the calls do.
-/
namespace Go.Proofs.YtfclmjfbcmjfbabDoor
open Go.RowKit
theorem tw_aside {T : List Tn} {lo h : Nat} {a x : Hs} {q : List Hs} (h0 : 0 < lo) : twW (T, lo, h) a (x :: q) = if q.length = T.length then some (bothW T.reverse x x q) else none := by
  simp [twW, fst2, h0]
theorem tw_plain {T : List Tn} {lo h : Nat} {a : Hs} {p : List Hs} (h0 : ¬ 0 < lo) : twW (T, lo, h) a p = if p.length = T.length then some (bothW T.reverse a a p) else none := by
  simp [twW, fst2, h0]
theorem tw_aside_nil {T : List Tn} {lo h : Nat} {a : Hs} (h0 : 0 < lo) : twW (T, lo, h) a [] = none := by
  simp [twW, fst2, h0]
def twB (a b : Hs) : Option (Hs × Hs) → Bool
  | some (e, l) => decide (e = a) && decide (l = b)
  | none => false
def checksC (a b : Hs) (m n : Int) (p : List Hs) : Bool := if 1 ≤ m ∧ m ≤ n ∧ n ≤ 1099511627776 then twB a b (twW (wayP 40 0 n.toNat (m.toNat - 1) false) a p) else false
set_option maxHeartbeats 4000000 in
set_option maxRecDepth 100000 in
theorem checks_none (a b : Hs) (m n : Int) (pv : Value) (p : List Hs) (hni : ¬ (1 ≤ m ∧ m ≤ n ∧ n ≤ 1099511627776)) (w : World) (hP : RdG HE w pv p) :
    Calls Tryd.prog 4 #[HV a, HV b, .int .i64 m, .int .i64 n, pv] w fun e w' => e = .returned (.bool false) ∧ Below w.heap.size w w' := by
  obtain ⟨pa, cp, rfl⟩ := hP.slice
  obtain ⟨np, HM⟩ : ∃ n, Hid (p.length = n) := ⟨_, rfl⟩
  rw [HM.out] at hP ⊢
  obtain ⟨N, HNw⟩ : ∃ N, Hid (w.heap.size = N) := ⟨_, rfl⟩
  clear hP
  go_enter Tryd.func4, Tryd.ntmps4
  go_upto_region 1 with fail
  obtain ⟨w0, hw0⟩ : ∃ z, z = (w.alloc (.cells (By a.1).toArray 23 (0, 0))).alloc (.cells (By b.1).toArray 23 (0, 0)) := ⟨_, rfl⟩
  change Code.wp _ _ _ _ ((w.alloc (.cells (By a.1).toArray 23 (0, 0))).alloc (.cells (By b.1).toArray 23 (0, 0)))
  rw [← hw0, HNw.out]
  obtain ⟨b0, b1, ln⟩ := boxes2' HNw hw0
  have LN : Hid (Below w.heap.size w w0) := (show Below _ _ _ by rw [HNw.out]; exact ln)
  clear hw0 b0 b1 ln
  by_cases q1 : m < 1
  · go_wp2_with fail
    go_ret
    exact ⟨rfl, LN.out⟩
  · by_cases q2 : n < m
    · go_wp2_with fail
      go_ret
      exact ⟨rfl, LN.out⟩
    · have q3 : (1099511627776 : Int) < n := by omega
      clear hni
      go_wp2_with fail
      go_ret
      exact ⟨rfl, LN.out⟩
set_option maxHeartbeats 8000000 in
set_option maxRecDepth 100000 in
theorem checks_some (a b : Hs) (k n : Nat) (pv : Value) (p : List Hs) (hk : k < n) (hn : n ≤ 1099511627776) (w : World) (hT : Tabs w) (hP : RdG HE w pv p) :
    Calls Tryd.prog 4 #[HV a, HV b, .int .i64 ((k : Int) + 1), .int .i64 (n : Int), pv] w fun e w' => e = .returned (.bool (twB a b (twW (wayP 40 0 n k false) a p))) ∧ Below w.heap.size w w' := by
  have RP := hide hP
  obtain ⟨pa, cp, rfl⟩ := hP.slice
  have hcp := hP.cap
  obtain ⟨np, HNP⟩ : ∃ n, Hid (p.length = n) := ⟨_, rfl⟩
  rw [HNP.out] at RP hcp ⊢
  obtain ⟨N, HNw⟩ : ∃ N, Hid (w.heap.size = N) := ⟨_, rfl⟩
  have HNT : Hid (2 ≤ N) := (show 2 ≤ N by rw [← HNw.out]; exact hT.size)
  have HT := hide hT
  have q1 : ¬ (k : Int) + 1 < 1 := by omega
  have q2 : ¬ (n : Int) < (k : Int) + 1 := by omega
  have q3 : ¬ (1099511627776 : Int) < (n : Int) := by omega
  have HLN := hide (way_len 40 40 0 n k false (Nat.zero_le _) hk (by omega))
  have HCW := hide (fun w => wayFrom_any n k false hk hn w)
  obtain ⟨rs, HR⟩ : ∃ r, Hid (twB a b (twW (wayP 40 0 n k false) a p) = r) := ⟨_, rfl⟩
  rw [HR.out]
  obtain ⟨T, lo, h, HW⟩ : ∃ T lo h, Hid (wayP 40 0 n k false = (T, lo, h)) := ⟨_, _, _, rfl⟩
  rw [HW.out] at HCW HLN HR
  obtain ⟨ct, HCT⟩ : ∃ n, Hid (T.length = n) := ⟨_, rfl⟩
  have hz := zeroW
  obtain ⟨Z, HZ⟩ : ∃ Z, Hid (Wz = Z) := ⟨_, rfl⟩
  rw [HZ.out] at hz
  have hzl : Z.length = 195 := by rw [← HZ.out]; rfl
  have hze : ¬ Z = [] := fun h => by rw [h] at hzl; simp at hzl
  clear hP hT
  go_enter Tryd.func4, Tryd.ntmps4
  go_upto_region 1 with fail
  obtain ⟨w0, hw0⟩ : ∃ z, z = (w.alloc (.cells (By a.1).toArray 23 (0, 0))).alloc (.cells (By b.1).toArray 23 (0, 0)) := ⟨_, rfl⟩
  change Code.wp _ _ _ _ ((w.alloc (.cells (By a.1).toArray 23 (0, 0))).alloc (.cells (By b.1).toArray 23 (0, 0)))
  rw [← hw0, HNw.out]
  obtain ⟨b0, b1, ln⟩ := boxes2' HNw hw0
  have B0 := hide b0
  have B1 := hide b1
  have LN := hide ln
  clear hw0 b0 b1 ln
  go_wp2_with fail
  refine (HCW.out w0).mono ?_
  rintro e w1 ⟨⟨A, rfl, hA, hAT⟩, hb1⟩
  have HAT : Hid (A.take T.length = T) := hAT
  have HA := hide hA
  obtain ⟨Y, HY⟩ : ∃ Y, Hid (WC lo h A T.length = Y) := ⟨_, rfl⟩
  have hyl : Y.length = 195 := by rw [← HY.out]; exact WC_len hA
  have HYO : Hid (∀ u ∈ Y, u.oneCell' = true) := (show ∀ u ∈ Y, u.oneCell' = true by rw [← HY.out]; exact WC_one _ _ _ _)
  have BN := Blk.new w1 35 Z
  obtain ⟨D, HD⟩ : ∃ D, Hid (w1.heap.size = D) := ⟨_, rfl⟩
  rw [HD.out] at BN
  have hND : N + 1 < D := by rw [← HD.out]; exact Nat.lt_of_lt_of_le B1.out.lt hb1.size
  have P0 := hide (B0.out.kept hb1)
  have P1 := hide (B1.out.kept hb1)
  have L1 : Hid (Below N w w1) := LN.out.trans (hb1.mono (by have := B1.out.lt; omega))
  have HBE := hide (fun (W : World) => Blk.new W 23 (By zh.1))
  clear hb1 hA hAT
  simp only [HY.out]
  go_wp2_with (first
    | (rw [HD.out]; refine wpList_store_blk rfl 35 _ _ rfl D Z Y 35 rfl rfl BN (by rw [hyl, hzl]) (by rw [hyl]; exact Tryd.sizeW) HYO.out ?_; intro w2 hb2 hu2; have hra : w2.rangeAt N 0 (By a.1) := ((P0.out.alloc _).but hu2 (by omega)).range0)
    | (refine wpList_load_mid rfl 23 _ rfl N 0 rfl (By a.1) _ hra Tryd.underlying23 rfl (Tryd.sizeH a) ?_)
    | (refine wpList_store_blk rfl 23 _ _ rfl w2.heap.size (By zh.1) (By a.1) 23 rfl rfl (HBE.out w2) (by rw [By_len, By_len]) (Tryd.sizeH a) (By_one _) ?_; intro w3 hb3 hu3)
    | fail)
  obtain ⟨E, HEw⟩ : ∃ E, Hid (w2.heap.size = E) := ⟨_, rfl⟩
  rw [HEw.out] at hb3 hu3 ⊢
  have hDE : D < E := by rw [← HEw.out]; exact hb2.lt
  have L2 : Below N w w2 := (L1.out.trans ((Below.refl _ _).alloc (by rw [HD.out]; omega) _)).trans (hu2.below (by omega) (by simp [HD.out]; omega))
  have LW3 : Hid (Below N w w3) := (L2.trans ((Below.refl _ _).alloc (by rw [HEw.out]; omega) _)).trans (hu3.below (by omega) (by simp [HEw.out]; omega))
  have BD3 : Hid (Blk w3 D 35 (WC lo h A T.length)) := (show Blk _ _ _ _ by rw [HY.out]; exact (hb2.alloc _).but hu3 (by omega))
  have BA3 : Hid (Blk w3 N 23 (By a.1)) := (((P0.out.alloc _).but hu2 (by omega)).alloc _).but hu3 (by omega)
  have BB3 : Hid (Blk w3 (N + 1) 23 (By b.1)) := (((P1.out.alloc _).but hu2 (by omega)).alloc _).but hu3 (by omega)
  have BE3 := hide hb3
  have RQ3 : Hid (RdG HE w3 (.slice pa np cp) p) := RP.out.kept (show Below w.heap.size w w3 by rw [HNw.out]; exact LW3.out)
  have TW3 : Hid (Tabs w3) := HT.out.kept (LW3.out.mono HNT.out)
  clear hb2 hu2 hb3 hu3 BN hra L2 hyl
  refine (aside_any D lo h T.length A w3 BD3.out).mono ?_
  rintro e w4 ⟨rfl, hw4⟩
  subst w4
  by_cases h0 : 0 < lo
  · rw [decide_eq_true h0]
    cases p with
    | nil =>
      have HN0 : Hid (np = 0) := HNP.out.symm
      have HRS : Hid (rs = false) := (show _ = _ by rw [← HR.out, tw_aside_nil h0]; rfl)
      have q5 : (np : Int) = 0 := by have := HN0.out; omega
      go_wp2_with fail
      go_ret
      exact ⟨by rw [HRS.out]; rfl, by rw [HNw.out]; exact LW3.out⟩
    | cons x q =>
      have HNQ : Hid (np = q.length + 1) := HNP.out.symm
      have hnp : 0 < np := by have := HNQ.out; omega
      have q5 : ¬ (np : Int) = 0 := by omega
      have q6 : (0 : Int) < (np : Int) := by omega
      have q6' : (1 : Int) ≤ (np : Int) := by omega
      obtain ⟨m1, HM1⟩ : ∃ m1, Hid (np - 1 = m1) := ⟨_, rfl⟩
      obtain ⟨c1, HC1⟩ : ∃ c1, Hid (cp - 1 = c1) := ⟨_, rfl⟩
      obtain ⟨bb, off, rfl, hlb, hx9⟩ := RQ3.out.nth (by omega)
      have hrx : w3.rangeAt bb off (By x.1) := by have := hx9 0 (by simp); simpa [HE] using this
      have hbw : bb < w3.heap.size := hlb
      have hbN : bb < N := by
        have := RP.out.inB_lt (b := bb) ⟨off, np, cp, rfl, by omega⟩
        rw [HNw.out] at this
        exact this
      obtain ⟨a2, hs2, -, hs2r⟩ := slice_G (E := HE) (P := Tryd.prog) Tryd.underlying26 Tryd.size23 (some ⟨bb, off, none⟩) np cp 1 (by omega) hcp
      have HS2 := hide hs2r
      rw [show ((1 : Nat) : Int) = 1 from rfl, HM1.out, HC1.out] at hs2
      rw [HM1.out, HC1.out] at HS2
      clear hx9 hs2r hlb
      go_upto_region 8 with fail
      refine pivots_by (jl_wp Tryd.mixed) (fun i_ => match i_ with | 0 | 3 => .slice (some ⟨bb, off, none⟩) np cp | 1 => .pointer (some ⟨bb, off, none⟩) | 2 => HV x | 4 => .slice a2 m1 c1 | 5 => undef | _ => undef) (fun b_ w' => Blk w' E 23 (By (if b_ = 1 then x else a).1) ∧ Chg (fun k => k = E) w3 w') [5] 59 rfl (by decide +kernel) 6 (by decide) (by decide) (by decide) (by decide +kernel) (by decide +kernel) ?_ ?_ ?_
      · intro w' hh hg
        exact ⟨by simpa using BE3.out.kept hg, Chg.of_below hg⟩
      · refine AllFrom.cons ⟨rfl, ?_, ?_⟩ (AllFrom.cons ⟨rfl, ?_, ?_⟩ (AllFrom.cons ⟨rfl, ?_, ?_⟩ (AllFrom.cons ⟨rfl, ?_, ?_⟩ (AllFrom.cons ⟨rfl, ?_, ?_⟩ (AllFrom.cons ⟨rfl, ?_, ?_⟩ AllFrom.nil)))))
        · intro _ a' b' w' hC hk hd Q
          have e4 : a'.eval (.tmp 4) = .slice (some ⟨bb, off, none⟩) np cp := hk.at 4 (by decide +kernel)
          exact wp_same _ (by simp only [execOp, e4]; rfl) hC
        · intro j hj; exact absurd hj (pv_no (by decide) _)
        · intro _ a' b' w' hC hk hd Q
          have e35 : a'.eval (.tmp 35) = .slice (some ⟨bb, off, none⟩) np cp := hd 0 35 (by decide +kernel)
          exact wp_same _ (by clear hd hk hC; simp only [execOp, e35]; go_simp) hC
        · intro j hj; exact absurd hj (pv_no (by decide) _)
        · intro _ a' b' w' hC hk hd Q
          have e36 : a'.eval (.tmp 36) = .pointer (some ⟨bb, off, none⟩) := hd 1 36 (by decide +kernel)
          exact wp_sameRow 23 _ rfl _ _ e36 (By x.1) _ (fun j u hj => (hC.2.cellAt hbw (by omega)).trans (hrx j u hj)) Tryd.underlying23 rfl (Tryd.sizeH _) hC
        · intro j hj; exact absurd hj (pv_no (by decide) _)
        · intro _ a' b' w' hC hk hd Q
          have e4 : a'.eval (.tmp 4) = .slice (some ⟨bb, off, none⟩) np cp := hk.at 4 (by decide +kernel)
          exact wp_same _ (by simp only [execOp, e4]; rfl) hC
        · intro j hj; exact absurd hj (pv_no (by decide) _)
        · intro _ a' b' w' hC hk hd Q
          have e38 : a'.eval (.tmp 38) = .slice (some ⟨bb, off, none⟩) np cp := hd 3 38 (by decide +kernel)
          exact wp_same _ (by clear hd hk hC; simp only [execOp, e38, hs2, show a'.eval (.const (.int .i64 1)) = .int .i64 1 from rfl, Option.map_none, Option.map_some, Sem.run_bind, Sem.run_pure, Result.andThen_ok]) hC
        · intro j hj; exact absurd hj (pv_no (by decide) _)
        · intro h; exact absurd (by decide) h
        · intro j hj
          obtain rfl : j = 0 := pv_at (by decide) rfl hj
          refine ⟨rfl, fun a' w' hC hk hd Q => ?_⟩
          have e12 : a'.eval (.tmp 12) = .pointer (some ⟨E, 0, none⟩) := hk.at 12 (by decide +kernel)
          have e37 : a'.eval (.tmp 37) = HV x := hd 2 37 (by decide +kernel)
          obtain ⟨hC1, hC2⟩ := hC
          simp only [Nat.zero_ne_one, if_false] at hC1
          refine wp_store_blk 23 _ _ rfl E (By a.1) (By x.1) 23 e12 e37 hC1 (by rw [By_len, By_len]) (Tryd.sizeH x) (By_one _) ?_
          intro w4 hb4 hu4
          exact ⟨rfl, by simpa using hb4, hC2.trans (Chg.of_but hu4 rfl)⟩
      · intro a' w5 hsz hdf hk hall hC
        obtain ⟨hC1, hC2⟩ := hC
        simp only [show ([5] : List Nat).length = 1 from rfl, if_true] at hC1
        have e35 : a'.eval (.tmp 35) = .slice (some ⟨bb, off, none⟩) np cp := hall 0 _ 35 (by decide) rfl rfl
        have e36 : a'.eval (.tmp 36) = .pointer (some ⟨bb, off, none⟩) := hall 1 _ 36 (by decide) rfl rfl
        have e37 : a'.eval (.tmp 37) = HV x := hall 2 _ 37 (by decide) rfl rfl
        have e38 : a'.eval (.tmp 38) = .slice (some ⟨bb, off, none⟩) np cp := hall 3 _ 38 (by decide) rfl rfl
        have e39 : a'.eval (.tmp 39) = .slice a2 m1 c1 := hall 4 _ 39 (by decide) rfl rfl
        have e4 : a'.eval (.tmp 4) = .slice (some ⟨bb, off, none⟩) np cp := hk.at 4 (by decide +kernel)
        refine ⟨rfl, ?_⟩
        refine ⟨_, rfl, ?_⟩
        show Exit.then _ _ Exit.normal (a'.put (some 4) (a'.eval (.tmp 39))) w5
        rw [e39]
        have ha := act_puts 59 rfl hsz hdf hk.all [35, 36, 37, 38, 39, 4] (by decide +kernel)
        simp only [puts, List.foldl_cons, List.foldl_nil, e35, e36, e37, e38, e39, e4] at ha
        simp only [Act.put, List.setIfInBounds_toArray, List.set_cons_succ, List.set_cons_zero] at ha
        clear hall hk hsz hdf e35 e36 e37 e38 e39 e4
        subst ha
        simp only [Act.put, List.setIfInBounds_toArray, List.set_cons_succ, List.set_cons_zero]
        have BD5 := hide (BD3.out.chg hC2 (by omega))
        have BA5 := hide (BA3.out.chg hC2 (by omega))
        have BB5 := hide (BB3.out.chg hC2 (by omega))
        have BE5 := hide hC1
        have TW5 : Hid (Tabs w5) := TW3.out.kept (hC2.below (by have := HNT.out; have := BB3.out.lt; omega) (fun k hk h => by have := HNT.out; omega))
        have LW5 : Hid (Below N w w5) := LW3.out.trans (hC2.below (by have := BB3.out.lt; omega) (fun k hk h => by omega))
        have RQ5 : Hid (RdG HE w5 (.slice a2 m1 c1) q) := (show RdG _ _ _ _ from by
          have h1 := HS2.out w5 (x :: q) (RQ3.out.chg hC2 (by
            intro b' hb' h
            have hbl := RP.out.inB_lt hb'
            rw [HNw.out] at hbl
            omega))
          simpa using h1)
        clear hC1 hC2 hrx hs2
        have hcc : w5.cell? ⟨D, 194, none⟩ = some (.int .i64 (ct : Int)) := BD5.out.cell (by have := WC_count (lo := lo) (hi := h) (c := T.length) HA.out; rw [HCT.out] at this ⊢; exact this)
        by_cases hlen : m1 = ct
        · have HQL : Hid ((q).length = T.length) := (show _ = _ by rw [show q.length = m1 by have := HM1.out; have := HNQ.out; omega, HCT.out]; exact hlen)
          subst hlen
          have CB := both_any D lo h T.length A HA.out (by have := HLN.out; omega) x (.slice a2 m1 c1) (q) HQL.out w5 TW5.out BD5.out RQ5.out
          rw [HAT.out] at CB
          obtain ⟨y1, HY1⟩ : ∃ y, Hid ((bothW T.reverse x x (q)).1 = y) := ⟨_, rfl⟩
          obtain ⟨y2, HY2⟩ : ∃ y, Hid ((bothW T.reverse x x (q)).2 = y) := ⟨_, rfl⟩
          rw [HY1.out, HY2.out] at CB
          have HCB := hide CB
          have he1 := eqA y1 a
          have he2 := eqA y2 b
          obtain ⟨bq1, HB1⟩ : ∃ bq, Hid (decide (y1 = a) = bq) := ⟨_, rfl⟩
          obtain ⟨bq2, HB2⟩ : ∃ bq, Hid (decide (y2 = b) = bq) := ⟨_, rfl⟩
          simp only [HB1.out] at he1
          simp only [HB2.out] at he2
          have HRS : Hid (rs = (bq1 && bq2)) := (show _ = _ by
            rw [← HB1.out, ← HB2.out, ← HY1.out, ← HY2.out]
            rw [← HR.out, tw_aside h0, if_pos HQL.out]; rfl)
          have hrx : w5.rangeAt E 0 (By x.1) := BE5.out.range0
          clear CB
          go_wp2_with (first
            | (refine wpList_load_mid rfl 23 _ rfl E 0 rfl (By x.1) _ hrx Tryd.underlying23 rfl (Tryd.sizeH x) ?_)
            | fail)
          refine HCB.out.mono ?_
          rintro e w8 ⟨rfl, hb8⟩
          obtain ⟨G, HG⟩ : ∃ G, Hid (w8.heap.size = G) := ⟨_, rfl⟩
          have BG := (Blk.new w8 23 (By zh.1)).alloc (.cells (By zh.1).toArray 23 (0, 0))
          have BH := Blk.new (w8.alloc (.cells (By zh.1).toArray 23 (0, 0))) 23 (By zh.1)
          rw [show (w8.alloc (.cells (By zh.1).toArray 23 (0, 0))).heap.size = G + 1 by simp [HG.out]] at BH
          rw [HG.out] at BG
          have BA8 := hide (((BA5.out.kept hb8).alloc (.cells (By zh.1).toArray 23 (0, 0))).alloc (.cells (By zh.1).toArray 23 (0, 0)))
          have BB8 := hide (((BB5.out.kept hb8).alloc (.cells (By zh.1).toArray 23 (0, 0))).alloc (.cells (By zh.1).toArray 23 (0, 0)))
          have hWG : N + 1 < G := by rw [← HG.out]; exact Nat.lt_of_lt_of_le BB5.out.lt hb8.size
          have L8 : Hid (Below N w ((w8.alloc (.cells (By zh.1).toArray 23 (0, 0))).alloc (.cells (By zh.1).toArray 23 (0, 0)))) := (show Below _ _ _ from ((LW5.out.trans (hb8.mono (by have := BB5.out.lt; omega))).alloc (by rw [HG.out]; omega) _).alloc (by simp [HG.out]; omega) _)
          clear hb8 hrx hcc
          cases bq1 with
          | true =>
            go_wp2_with (first
              | (rw [HG.out]; refine wpList_store_blk rfl 23 _ _ rfl G (By zh.1) (By y1.1) 23 rfl rfl BG (by rw [By_len, By_len]) (Tryd.sizeH y1) (By_one _) ?_; intro w9 hb9 hu9)
              | (refine wpList_store_blk rfl 23 _ _ rfl (G + 1) (By zh.1) (By y2.1) 23 rfl rfl (BH.but hu9 (by omega)) (by rw [By_len, By_len]) (Tryd.sizeH y2) (By_one _) ?_; intro w10 hb10 hu10; have hr1 : w10.rangeAt G 0 (By y1.1) := (hb9.but hu10 (by omega)).range0; have hr2 : w10.rangeAt (G + 1) 0 (By y2.1) := hb10.range0; have hra : w10.rangeAt N 0 (By a.1) := ((BA8.out.but hu9 (by omega)).but hu10 (by omega)).range0; have hrb : w10.rangeAt (N + 1) 0 (By b.1) := ((BB8.out.but hu9 (by omega)).but hu10 (by omega)).range0)
              | (refine wpList_load_w9 (by rfl) 23 _ rfl G 0 rfl (By y1.1) _ hr1 Tryd.underlying23 rfl (Tryd.sizeH y1) ?_)
              | (refine wpList_load_w9 (by rfl) 23 _ rfl N 0 rfl (By a.1) _ hra Tryd.underlying23 rfl (Tryd.sizeH a) ?_)
              | (refine wpList_load_w9 (by rfl) 23 _ rfl (G + 1) 0 rfl (By y2.1) _ hr2 Tryd.underlying23 rfl (Tryd.sizeH y2) ?_)
              | (refine wpList_load_w9 (by rfl) 23 _ rfl (N + 1) 0 rfl (By b.1) _ hrb Tryd.underlying23 rfl (Tryd.sizeH b) ?_)
              | fail)
            go_ret
            refine ⟨by rw [HRS.out]; simp, ?_⟩
            rw [HNw.out]
            exact (L8.out.trans (hu9.below (by omega) (by simp [HG.out]; omega))).trans (hu10.below (by omega) (by have := hb9.lt; omega))
          | false =>
            go_wp2_with (first
              | (rw [HG.out]; refine wpList_store_blk rfl 23 _ _ rfl G (By zh.1) (By y1.1) 23 rfl rfl BG (by rw [By_len, By_len]) (Tryd.sizeH y1) (By_one _) ?_; intro w9 hb9 hu9)
              | (refine wpList_store_blk rfl 23 _ _ rfl (G + 1) (By zh.1) (By y2.1) 23 rfl rfl (BH.but hu9 (by omega)) (by rw [By_len, By_len]) (Tryd.sizeH y2) (By_one _) ?_; intro w10 hb10 hu10; have hr1 : w10.rangeAt G 0 (By y1.1) := (hb9.but hu10 (by omega)).range0; have hra : w10.rangeAt N 0 (By a.1) := ((BA8.out.but hu9 (by omega)).but hu10 (by omega)).range0)
              | (refine wpList_load_w9 (by rfl) 23 _ rfl G 0 rfl (By y1.1) _ hr1 Tryd.underlying23 rfl (Tryd.sizeH y1) ?_)
              | (refine wpList_load_w9 (by rfl) 23 _ rfl N 0 rfl (By a.1) _ hra Tryd.underlying23 rfl (Tryd.sizeH a) ?_)
              | fail)
            go_ret
            refine ⟨by rw [HRS.out]; simp, ?_⟩
            rw [HNw.out]
            exact (L8.out.trans (hu9.below (by omega) (by simp [HG.out]; omega))).trans (hu10.below (by omega) (by have := hb9.lt; omega))
        · have q7 : ¬ ((m1 : Nat) : Int) = (ct : Int) := by omega
          have HRS : Hid (rs = false) := (show _ = _ by
            rw [← HR.out, tw_aside h0, if_neg (by rw [HCT.out, show q.length = m1 by have := HM1.out; have := HNQ.out; omega]; exact hlen)]; rfl)
          go_wp2_with fail
          go_ret
          exact ⟨by rw [HRS.out]; rfl, by rw [HNw.out]; exact LW5.out⟩
  · rw [decide_eq_false h0]
    have hcc : w3.cell? ⟨D, 194, none⟩ = some (.int .i64 (ct : Int)) := BD3.out.cell (by have := WC_count (lo := lo) (hi := h) (c := T.length) HA.out; rw [HCT.out] at this ⊢; exact this)
    by_cases hlen : np = ct
    · have HQL : Hid ((p).length = T.length) := (show _ = _ by rw [HNP.out, HCT.out]; exact hlen)
      subst hlen
      have CB := both_any D lo h T.length A HA.out (by have := HLN.out; omega) a (.slice pa np cp) (p) HQL.out w3 TW3.out BD3.out RQ3.out
      rw [HAT.out] at CB
      obtain ⟨y1, HY1⟩ : ∃ y, Hid ((bothW T.reverse a a (p)).1 = y) := ⟨_, rfl⟩
      obtain ⟨y2, HY2⟩ : ∃ y, Hid ((bothW T.reverse a a (p)).2 = y) := ⟨_, rfl⟩
      rw [HY1.out, HY2.out] at CB
      have HCB := hide CB
      have he1 := eqA y1 a
      have he2 := eqA y2 b
      obtain ⟨bq1, HB1⟩ : ∃ bq, Hid (decide (y1 = a) = bq) := ⟨_, rfl⟩
      obtain ⟨bq2, HB2⟩ : ∃ bq, Hid (decide (y2 = b) = bq) := ⟨_, rfl⟩
      simp only [HB1.out] at he1
      simp only [HB2.out] at he2
      have HRS : Hid (rs = (bq1 && bq2)) := (show _ = _ by
        rw [← HB1.out, ← HB2.out, ← HY1.out, ← HY2.out]
        rw [← HR.out, tw_plain h0, if_pos HQL.out]; rfl)
      have hrx : w3.rangeAt E 0 (By a.1) := BE3.out.range0
      clear CB
      go_wp2_with (first
        | (refine wpList_load_mid rfl 23 _ rfl E 0 rfl (By a.1) _ hrx Tryd.underlying23 rfl (Tryd.sizeH a) ?_)
        | fail)
      refine HCB.out.mono ?_
      rintro e w8 ⟨rfl, hb8⟩
      obtain ⟨G, HG⟩ : ∃ G, Hid (w8.heap.size = G) := ⟨_, rfl⟩
      have BG := (Blk.new w8 23 (By zh.1)).alloc (.cells (By zh.1).toArray 23 (0, 0))
      have BH := Blk.new (w8.alloc (.cells (By zh.1).toArray 23 (0, 0))) 23 (By zh.1)
      rw [show (w8.alloc (.cells (By zh.1).toArray 23 (0, 0))).heap.size = G + 1 by simp [HG.out]] at BH
      rw [HG.out] at BG
      have BA8 := hide (((BA3.out.kept hb8).alloc (.cells (By zh.1).toArray 23 (0, 0))).alloc (.cells (By zh.1).toArray 23 (0, 0)))
      have BB8 := hide (((BB3.out.kept hb8).alloc (.cells (By zh.1).toArray 23 (0, 0))).alloc (.cells (By zh.1).toArray 23 (0, 0)))
      have hWG : N + 1 < G := by rw [← HG.out]; exact Nat.lt_of_lt_of_le BB3.out.lt hb8.size
      have L8 : Hid (Below N w ((w8.alloc (.cells (By zh.1).toArray 23 (0, 0))).alloc (.cells (By zh.1).toArray 23 (0, 0)))) := (show Below _ _ _ from ((LW3.out.trans (hb8.mono (by have := BB3.out.lt; omega))).alloc (by rw [HG.out]; omega) _).alloc (by simp [HG.out]; omega) _)
      clear hb8 hrx hcc
      cases bq1 with
      | true =>
        go_wp2_with (first
          | (rw [HG.out]; refine wpList_store_blk rfl 23 _ _ rfl G (By zh.1) (By y1.1) 23 rfl rfl BG (by rw [By_len, By_len]) (Tryd.sizeH y1) (By_one _) ?_; intro w9 hb9 hu9)
          | (refine wpList_store_blk rfl 23 _ _ rfl (G + 1) (By zh.1) (By y2.1) 23 rfl rfl (BH.but hu9 (by omega)) (by rw [By_len, By_len]) (Tryd.sizeH y2) (By_one _) ?_; intro w10 hb10 hu10; have hr1 : w10.rangeAt G 0 (By y1.1) := (hb9.but hu10 (by omega)).range0; have hr2 : w10.rangeAt (G + 1) 0 (By y2.1) := hb10.range0; have hra : w10.rangeAt N 0 (By a.1) := ((BA8.out.but hu9 (by omega)).but hu10 (by omega)).range0; have hrb : w10.rangeAt (N + 1) 0 (By b.1) := ((BB8.out.but hu9 (by omega)).but hu10 (by omega)).range0)
          | (refine wpList_load_w9 (by rfl) 23 _ rfl G 0 rfl (By y1.1) _ hr1 Tryd.underlying23 rfl (Tryd.sizeH y1) ?_)
          | (refine wpList_load_w9 (by rfl) 23 _ rfl N 0 rfl (By a.1) _ hra Tryd.underlying23 rfl (Tryd.sizeH a) ?_)
          | (refine wpList_load_w9 (by rfl) 23 _ rfl (G + 1) 0 rfl (By y2.1) _ hr2 Tryd.underlying23 rfl (Tryd.sizeH y2) ?_)
          | (refine wpList_load_w9 (by rfl) 23 _ rfl (N + 1) 0 rfl (By b.1) _ hrb Tryd.underlying23 rfl (Tryd.sizeH b) ?_)
          | fail)
        go_ret
        refine ⟨by rw [HRS.out]; simp, ?_⟩
        rw [HNw.out]
        exact (L8.out.trans (hu9.below (by omega) (by simp [HG.out]; omega))).trans (hu10.below (by omega) (by have := hb9.lt; omega))
      | false =>
        go_wp2_with (first
          | (rw [HG.out]; refine wpList_store_blk rfl 23 _ _ rfl G (By zh.1) (By y1.1) 23 rfl rfl BG (by rw [By_len, By_len]) (Tryd.sizeH y1) (By_one _) ?_; intro w9 hb9 hu9)
          | (refine wpList_store_blk rfl 23 _ _ rfl (G + 1) (By zh.1) (By y2.1) 23 rfl rfl (BH.but hu9 (by omega)) (by rw [By_len, By_len]) (Tryd.sizeH y2) (By_one _) ?_; intro w10 hb10 hu10; have hr1 : w10.rangeAt G 0 (By y1.1) := (hb9.but hu10 (by omega)).range0; have hra : w10.rangeAt N 0 (By a.1) := ((BA8.out.but hu9 (by omega)).but hu10 (by omega)).range0)
          | (refine wpList_load_w9 (by rfl) 23 _ rfl G 0 rfl (By y1.1) _ hr1 Tryd.underlying23 rfl (Tryd.sizeH y1) ?_)
          | (refine wpList_load_w9 (by rfl) 23 _ rfl N 0 rfl (By a.1) _ hra Tryd.underlying23 rfl (Tryd.sizeH a) ?_)
          | fail)
        go_ret
        refine ⟨by rw [HRS.out]; simp, ?_⟩
        rw [HNw.out]
        exact (L8.out.trans (hu9.below (by omega) (by simp [HG.out]; omega))).trans (hu10.below (by omega) (by have := hb9.lt; omega))
    · have q7 : ¬ ((np : Nat) : Int) = (ct : Int) := by omega
      have HRS : Hid (rs = false) := (show _ = _ by
        rw [← HR.out, tw_plain h0, if_neg (by rw [HCT.out, HNP.out]; exact hlen)]; rfl)
      go_wp2_with fail
      go_ret
      exact ⟨by rw [HRS.out]; rfl, by rw [HNw.out]; exact LW3.out⟩
theorem checks_any (a b : Hs) (m n : Int) (pv : Value) (p : List Hs) (w : World) (hT : Tabs w) (hP : RdG HE w pv p) :
    Calls Tryd.prog 4 #[HV a, HV b, .int .i64 m, .int .i64 n, pv] w fun e w' => e = .returned (.bool (checksC a b m n p)) ∧ Below w.heap.size w w' := by
  unfold checksC
  by_cases h : 1 ≤ m ∧ m ≤ n ∧ n ≤ 1099511627776
  · rw [if_pos h]
    obtain ⟨k, rfl⟩ : ∃ k : Nat, m = (k : Int) + 1 := ⟨m.toNat - 1, by omega⟩
    obtain ⟨l, rfl⟩ : ∃ l : Nat, n = (l : Int) := ⟨n.toNat, by omega⟩
    rw [Int.toNat_natCast, show ((k : Int) + 1).toNat - 1 = k by omega]
    exact checks_some a b k l pv p (by omega) (by omega) w hT hP
  · rw [if_neg h]
    exact checks_none a b m n pv p h w hP
#print axioms checks_any
end Go.Proofs.YtfclmjfbcmjfbabDoor

/-
  indenturelaw10.light and lives: what the calls do.
-/
namespace Go.Proofs.YtfclmjfbcmjfbabDoor
open Go.RowKit
def la : Hs := ⟨1 :: List.replicate 31 0, by simp⟩
def lb : Hs := ⟨2 :: List.replicate 31 0, by simp⟩
theorem live_path : pathW [zh, la, lb] 2 = [nd zh la] := by
  have h : wayP 40 0 3 2 true = ([⟨0, 2, true⟩], 2, 3) := by kernel_rfl
  unfold pathW
  rw [if_pos (by simp)]
  simp only [List.length_cons, List.length_nil, Nat.zero_add, Nat.reduceAdd, show ((2 : Int)).toNat = 2 from rfl, h]
  rfl
theorem Tryd.zero3 (W : World) : (zeroValue 39).run Tryd.prog W = .ok (.agg (HE.cs [zh, zh, zh]).toArray) W := by kernel_rfl
theorem live_cells : ((HE.cs [zh, zh, zh]).set 32 (.int .u8 1)).set 64 (.int .u8 2) = HE.cs [zh, la, lb] := by kernel_rfl
theorem slice_arr3 (N : Nat) (W : World) : (Instr.sliceAt 39 (.pointer (some ⟨N, 0, none⟩)) none none none).run Tryd.prog W = .ok (.slice (some ⟨N, 0, none⟩) 3 3) W := by
  have hu : Tryd.prog.underlying 39 = some (.array 3 23) := by kernel_rfl
  cases hq : Tryd.prog.info? 23 with
  | none => have := Tryd.size23; rw [hq] at this; cases this
  | some k => simp [Instr.sliceAt, run_underlying hu, Instr.sureAddr, Instr.sliceBounds, sizeOf, typeInfo, hq, Addr.add]
set_option maxHeartbeats 4000000 in
set_option maxRecDepth 100000 in
theorem lives_any (w : World) (hT : Tabs w) : Calls Tryd.prog 5 #[] w fun e w' => e = .returned (.bool true) ∧ Below w.heap.size w w' := by
  obtain ⟨N, HNw⟩ : ∃ N, Hid (w.heap.size = N) := ⟨_, rfl⟩
  have HNT : Hid (2 ≤ N) := (show 2 ≤ N by rw [← HNw.out]; exact hT.size)
  have HT := hide hT
  clear hT
  have hz := Tryd.zero3
  obtain ⟨Z, HZ⟩ : ∃ Z, Hid (HE.cs [zh, zh, zh] = Z) := ⟨_, rfl⟩
  rw [HZ.out] at hz
  have hzl : Z.length = 96 := by rw [← HZ.out]; rfl
  have hze : ¬ Z = [] := fun h => by rw [h] at hzl; simp at hzl
  have hsl := slice_arr3
  go_enter Tryd.func5, Tryd.ntmps5
  go_upto_region 2 with fail
  obtain ⟨w0, hw0⟩ : ∃ z, z = w.alloc (.cells Z.toArray 39 (0, 0)) := ⟨_, rfl⟩
  change Code.wp _ _ _ _ (w.alloc (.cells Z.toArray 39 (0, 0)))
  rw [← hw0, HNw.out]
  have b0 : Blk w0 N 39 Z := by rw [hw0, ← HNw.out]; exact Blk.new w 39 Z
  have B0 := hide b0
  have L0 : Hid (Below N w w0) := (show Below _ _ _ by rw [hw0]; exact (Below.refl _ _).alloc (by rw [HNw.out]; exact Nat.le_refl _) _)
  have c1 : w0.cell? ⟨N, 32, none⟩ = some (.int .u8 0) := b0.cell (by rw [← HZ.out]; rfl)
  have c2 : w0.cell? ⟨N, 64, none⟩ = some (.int .u8 0) := b0.cell (by rw [← HZ.out]; rfl)
  have f1 := b0.frozen 32
  have f2 := b0.frozen 64
  clear hw0 b0
  go_upto_region 3 with fail
  obtain ⟨w1, hw1⟩ : ∃ z, z = (w0.setCell ⟨N, 32, none⟩ (.int .u8 1)).setCell ⟨N, 64, none⟩ (.int .u8 2) := ⟨_, rfl⟩
  change Code.wp _ _ _ _ ((w0.setCell ⟨N, 32, none⟩ (.int .u8 1)).setCell ⟨N, 64, none⟩ (.int .u8 2))
  rw [← hw1]
  have b1 : Blk w1 N 39 (HE.cs [zh, la, lb]) := by
    rw [hw1, ← live_cells, HZ.out]
    exact (B0.out.set 32 _).set 64 _
  have hu1 : But N w0 w1 := by rw [hw1]; exact (But.setCell N w0 32 _).trans (But.setCell N _ 64 _)
  have L1 : Hid (Below N w w1) := L0.out.trans (hu1.below (Nat.le_refl _) (by have := B0.out.lt; omega))
  have B1 := hide b1
  have R1 : Hid (RdG HE w1 (.slice (some ⟨N, 0, none⟩) 3 3) [zh, la, lb]) := (show RdG _ _ _ _ from ⟨some ⟨N, 0, none⟩, 3, rfl, by simp, by simp [maxLen], fun h => by simp at h, fun _ => ⟨N, 0, rfl, b1.lt, fun j u hj => by rw [Nat.zero_add]; exact b1.cell hj⟩⟩)
  have CP := path_any _ [zh, la, lb] 2 (by simp) w1 (HT.out.kept (L1.out.mono HNT.out)) R1.out
  rw [live_path] at CP
  have HCP := hide CP
  clear CP hw1 b1 hu1 c1 c2 f1 f2
  go_wp2_with fail
  refine HCP.out.mono ?_
  rintro e w2 ⟨⟨v', rfl, ho⟩, hb2⟩
  obtain ⟨pa, cp, hv⟩ := ho.rd.slice
  have R2 := hide ho.rd
  simp only [List.length_singleton] at hv
  subst hv
  rw [show decide ((0 : Int) ≤ 2 ∧ (2 : Int) < (([zh, la, lb] : List Hs).length : Int)) = true by simp]
  obtain ⟨b, off, rfl, hlb9, hx9⟩ := R2.out.nth (by simp)
  have hrp : w2.rangeAt b off (By (nd zh la).1) := by have := hx9 0 (by simp); simpa [HE] using this
  have B2 := B1.out.kept hb2
  have hlN : N < w2.heap.size := B2.lt
  have hra : w2.rangeAt N 0 (By zh.1) := B2.range 0 _ (fun j v hj => by
    rw [Nat.zero_add]
    rw [Enc.cs_cons]
    exact (List.getElem?_append_left (l₁ := HE.c zh) (List.getElem?_eq_some_iff.1 hj).1).trans hj)
  have hrb : w2.rangeAt N 32 (By la.1) := B2.range 32 _ (fun j v hj => by
    have hl := (List.getElem?_eq_some_iff.1 hj).1
    rw [Enc.cs_cons, List.getElem?_append_right (by rw [HE.len]; exact Nat.le_add_right _ _), HE.len, show 32 + j - HE.n = j by show 32 + j - 32 = j; omega, Enc.cs_cons]
    exact (List.getElem?_append_left (l₁ := HE.c la) hl).trans hj)
  have L2 : Hid (Below N w w2) := L1.out.trans (hb2.mono (Nat.le_of_lt B1.out.lt))
  clear hx9 ho hb2 B2
  go_upto_region 4 with fail
  refine wp_region_inv Tryd.mixed (KS (fun i_ => match i_ with | 0 | 1 | 4 | 5 | 6 | 15 | 16 | 17 => .val (.bool true) | 2 | 7 => .val (.slice (some ⟨b, off, none⟩) 1 cp) | 3 => .val (.int .i64 1) | 8 => .val (.pointer (some ⟨b, off, none⟩)) | 9 | 14 => .val (HV (nd zh la)) | 10 => .val (.pointer (some ⟨N, 0, none⟩)) | 11 => .val (HV zh) | 12 => .val (.pointer (some ⟨N, 32, none⟩)) | 13 => .val (HV la) | _ => .free)) 30 rfl (by decide +kernel) (KS_mono _) ?_ ?_
  · refine AllFrom.cons (fun a' w' hg hk hd => ?_) (AllFrom.cons (fun a' w' hg hk hd => ?_) (AllFrom.cons (fun a' w' hg hk hd => ?_) (AllFrom.cons (fun a' w' hg hk hd => ?_) (AllFrom.cons (fun a' w' hg hk hd => ?_) (AllFrom.cons (fun a' w' hg hk hd => ?_) (AllFrom.cons (fun a' w' hg hk hd => ?_) (AllFrom.cons (fun a' w' hg hk hd => ?_) (AllFrom.cons (fun a' w' hg hk hd => ?_) (AllFrom.cons (fun a' w' hg hk hd => ?_) (AllFrom.cons (fun a' w' hg hk hd => ?_) (AllFrom.cons (fun a' w' hg hk hd => ?_) (AllFrom.cons (fun a' w' hg hk hd => ?_) (AllFrom.cons (fun a' w' hg hk hd => ?_) (AllFrom.cons (fun a' w' hg hk hd => ?_) (AllFrom.cons (fun a' w' hg hk hd => ?_) (AllFrom.cons (fun a' w' hg hk hd => ?_) (AllFrom.cons (fun a' w' hg hk hd => ?_) AllFrom.nil)))))))))))))))))
    · skip
      intro Q
      have e3 : a'.eval (.tmp 3) = .bool true := hk.at 3 (by decide +kernel)
      exact wp_value _ (by simp only [execOp, e3]; rfl) (KS_mkv rfl rfl)
    · skip
      intro Q
      have e13 : a'.eval (.tmp 13) = .bool true := KS_val (hd.val 0 13 (by decide +kernel)) rfl
      exact wp_value _ (by simp only [execOp, e13]; rfl) (KS_mkv rfl rfl)
    · skip
      have eg : a'.eval (.tmp 14) = .bool true := KS_val (hd.val 1 14 (by decide +kernel)) rfl
      refine ⟨14, true, rfl, eg, fun _ Q => ?_, fun h => absurd rfl h⟩
      have e2 : a'.eval (.tmp 2) = .slice (some ⟨b, off, none⟩) 1 cp := hk.at 2 (by decide +kernel)
      exact wp_value _ (by simp only [execOp, e2]; rfl) (KS_mkv rfl rfl)
    · skip
      have eg : a'.eval (.tmp 14) = .bool true := KS_val (hd.val 1 14 (by decide +kernel)) rfl
      refine ⟨14, true, rfl, eg, fun _ Q => ?_, fun h => absurd rfl h⟩
      have e15 : a'.eval (.tmp 15) = .slice (some ⟨b, off, none⟩) 1 cp := KS_val (hd.val 2 15 (by decide +kernel)) rfl
      clear hd hk
      exact wp_value (.int .i64 1) (by simp only [execOp, resolve, invoke, builtin, Sem.run_bind, Sem.run_pure, Result.andThen_ok, List.map_toArray, List.map_cons, List.map_nil, e15]; go_simp) (KS_mkv rfl rfl)
    · skip
      have eg : a'.eval (.tmp 14) = .bool true := KS_val (hd.val 1 14 (by decide +kernel)) rfl
      refine ⟨14, true, rfl, eg, fun _ Q => ?_, fun h => absurd rfl h⟩
      have e16 : a'.eval (.tmp 16) = .int .i64 1 := KS_val (hd.val 3 16 (by decide +kernel)) rfl
      clear hd hk
      exact wp_value (.bool true) (by simp only [execOp, e16]; go_simp) (KS_mkv rfl rfl)
    · skip
      intro Q
      have e14 : a'.eval (.tmp 14) = .bool true := KS_val (hd.val 1 14 (by decide +kernel)) rfl
      have e17 : a'.eval (.tmp 17) = .bool true := KS_val (hd.val 4 17 (by decide +kernel)) rfl
      clear hd hk
      exact wp_value (.bool true) (by simp only [execOp, e14, e17]; go_simp) (KS_mkv rfl rfl)
    · skip
      intro Q
      have e18 : a'.eval (.tmp 18) = .bool true := KS_val (hd.val 5 18 (by decide +kernel)) rfl
      exact wp_value _ (by simp only [execOp, e18]; rfl) (KS_mkv rfl rfl)
    · skip
      have eg : a'.eval (.tmp 19) = .bool true := KS_val (hd.val 6 19 (by decide +kernel)) rfl
      refine ⟨19, true, rfl, eg, fun _ Q => ?_, fun h => absurd rfl h⟩
      have e2 : a'.eval (.tmp 2) = .slice (some ⟨b, off, none⟩) 1 cp := hk.at 2 (by decide +kernel)
      exact wp_value _ (by simp only [execOp, e2]; rfl) (KS_mkv rfl rfl)
    · skip
      have eg : a'.eval (.tmp 19) = .bool true := KS_val (hd.val 6 19 (by decide +kernel)) rfl
      refine ⟨19, true, rfl, eg, fun _ Q => ?_, fun h => absurd rfl h⟩
      have e20 : a'.eval (.tmp 20) = .slice (some ⟨b, off, none⟩) 1 cp := KS_val (hd.val 7 20 (by decide +kernel)) rfl
      clear hd hk
      exact wp_value (.pointer (some ⟨b, off, none⟩)) (by simp only [execOp, e20]; go_simp) (KS_mkv rfl rfl)
    · skip
      have eg : a'.eval (.tmp 19) = .bool true := KS_val (hd.val 6 19 (by decide +kernel)) rfl
      refine ⟨19, true, rfl, eg, fun _ Q => ?_, fun h => absurd rfl h⟩
      have e21 : a'.eval (.tmp 21) = .pointer (some ⟨b, off, none⟩) := KS_val (hd.val 8 21 (by decide +kernel)) rfl
      exact wp_load_row 23 _ rfl _ _ e21 (By (nd zh la).1) _ (rangeAt_kept9 hrp hlb9 hg) Tryd.underlying23 rfl (Tryd.sizeH _) (KS_mkv rfl rfl)
    · skip
      have eg : a'.eval (.tmp 19) = .bool true := KS_val (hd.val 6 19 (by decide +kernel)) rfl
      refine ⟨19, true, rfl, eg, fun _ Q => ?_, fun h => absurd rfl h⟩
      have e1 : a'.eval (.tmp 1) = .pointer (some ⟨N, 0, none⟩) := hk.at 1 (by decide +kernel)
      clear hd hk
      exact wp_value (.pointer (some ⟨N, 0, none⟩)) (by simp only [execOp, e1]; go_simp) (KS_mkv rfl rfl)
    · skip
      have eg : a'.eval (.tmp 19) = .bool true := KS_val (hd.val 6 19 (by decide +kernel)) rfl
      refine ⟨19, true, rfl, eg, fun _ Q => ?_, fun h => absurd rfl h⟩
      have e23 : a'.eval (.tmp 23) = .pointer (some ⟨N, 0, none⟩) := KS_val (hd.val 10 23 (by decide +kernel)) rfl
      exact wp_load_row 23 _ rfl _ _ e23 (By (zh).1) _ (rangeAt_kept9 hra hlN hg) Tryd.underlying23 rfl (Tryd.sizeH _) (KS_mkv rfl rfl)
    · skip
      have eg : a'.eval (.tmp 19) = .bool true := KS_val (hd.val 6 19 (by decide +kernel)) rfl
      refine ⟨19, true, rfl, eg, fun _ Q => ?_, fun h => absurd rfl h⟩
      have e1 : a'.eval (.tmp 1) = .pointer (some ⟨N, 0, none⟩) := hk.at 1 (by decide +kernel)
      clear hd hk
      exact wp_value (.pointer (some ⟨N, 32, none⟩)) (by simp only [execOp, e1]; go_simp) (KS_mkv rfl rfl)
    · skip
      have eg : a'.eval (.tmp 19) = .bool true := KS_val (hd.val 6 19 (by decide +kernel)) rfl
      refine ⟨19, true, rfl, eg, fun _ Q => ?_, fun h => absurd rfl h⟩
      have e25 : a'.eval (.tmp 25) = .pointer (some ⟨N, 32, none⟩) := KS_val (hd.val 12 25 (by decide +kernel)) rfl
      exact wp_load_row 23 _ rfl _ _ e25 (By (la).1) _ (rangeAt_kept9 hrb hlN hg) Tryd.underlying23 rfl (Tryd.sizeH _) (KS_mkv rfl rfl)
    · skip
      have eg : a'.eval (.tmp 19) = .bool true := KS_val (hd.val 6 19 (by decide +kernel)) rfl
      refine ⟨19, true, rfl, eg, fun _ Q => ?_, fun h => absurd rfl h⟩
      have e24 : a'.eval (.tmp 24) = HV zh := KS_val (hd.val 11 24 (by decide +kernel)) rfl
      have e26 : a'.eval (.tmp 26) = HV la := KS_val (hd.val 13 26 (by decide +kernel)) rfl
      refine wp_call 10 _ (run_enter 10 _ _ rfl (by kernel_rfl)) ?_
      simp only [List.map_toArray, List.map_nil, List.map_cons, e24, e26]
      refine (rnode_any zh la _).mono ?_
      rintro e w5 ⟨rfl, hb5⟩
      exact ⟨_, rfl, KS_mkv rfl rfl, hb5⟩
    · skip
      have eg : a'.eval (.tmp 19) = .bool true := KS_val (hd.val 6 19 (by decide +kernel)) rfl
      refine ⟨19, true, rfl, eg, fun _ Q => ?_, fun h => absurd rfl h⟩
      have e22 : a'.eval (.tmp 22) = HV (nd zh la) := KS_val (hd.val 9 22 (by decide +kernel)) rfl
      have e27 : a'.eval (.tmp 27) = HV (nd zh la) := KS_val (hd.val 14 27 (by decide +kernel)) rfl
      clear hd hk
      have he := eqA (nd zh la) (nd zh la)
      simp only [decide_true] at he
      exact wp_value (.bool true) (by simp only [execOp, e22, e27, HV]; go_simp) (KS_mkv rfl rfl)
    · skip
      intro Q
      have e19 : a'.eval (.tmp 19) = .bool true := KS_val (hd.val 6 19 (by decide +kernel)) rfl
      have e28 : a'.eval (.tmp 28) = .bool true := KS_val (hd.val 15 28 (by decide +kernel)) rfl
      clear hd hk
      exact wp_value (.bool true) (by simp only [execOp, e19, e28]; go_simp) (KS_mkv rfl rfl)
    · skip
      intro Q
      have e29 : a'.eval (.tmp 29) = .bool true := KS_val (hd.val 16 29 (by decide +kernel)) rfl
      exact wp_value _ (by simp only [execOp, e29]; rfl) (KS_mkv rfl rfl)
  · intro a' w' hsz hdf hk hall hg
    have e0 : a'.eval (.tmp 0) = .bool true := KS_val (hall 17 _ 0 rfl rfl) rfl
    have hd0 : a'.defers = [] := hdf
    have L3 : Below N w w' := L2.out.trans (Below.mono hg (Nat.le_of_lt (Nat.lt_of_le_of_lt (by omega) hlN)))
    clear hall hk hsz hdf
    go_wp2_with fail
    refine bodyPost_ret (results_tmp rfl _ _ _) hd0 ⟨?_, by rw [HNw.out]; exact L3⟩
    have : a'.tmps.getD 0 undef = .bool true := e0
    rw [this]
#print axioms lives_any
end Go.Proofs.YtfclmjfbcmjfbabDoor
