/-
  What is got: a pair, a write, a read's head: what the calls do.
-/
import Derived.Test.YtmicmbjbclkbjaaDoorRcY
namespace Go.Proofs.YtmicmbjbclkbjaaDoor
open Go.RowKit
theorem wp_callP {P : Program} {o : Oper} {a : Act} {w : World} {T : World → Value → Prop} {Q : Exit → Act → World → Prop} (f : FuncId) (args : Array Value) (hrun : (execOp a.eval o).run P w = .ok (.enter f args) w)
    (hc : Calls P f args w fun e w' => ∃ v, e = .returned v ∧ T w' v) : o.wp P a w (fun a' w' => ∃ v, a' = a.put o.dst v ∧ T w' v) Q := by
  unfold Oper.wp
  rw [hrun]
  refine hc.mono ?_
  rintro e w' ⟨v, rfl, hv⟩
  exact ⟨v, rfl, hv⟩
theorem wpSeq_store_blk {P : Program} {w : World} {op : Oper} {rest : List Oper} {a : Act} {Q : Exit → Act → World → Prop} (hgd : op.guard = none) (ty : TypeId) (x y : Operand) (ho : op.op = .store ty x y)
    (b : Nat) (cs ds : List Value) (T : TypeId) (hx : a.eval x = .pointer (some ⟨b, 0, none⟩)) (hy : a.eval y = .agg ds.toArray) (hB : Blk w b T cs) (hl : ds.length = cs.length)
    (hi : (P.info? ty).map (·.size) = some ds.length) (h1 : ∀ u ∈ ds, u.oneCell' = true)
    (h : ∀ w', Blk w' b T ds → But b w w' → wpSeq P Q rest (a.put op.dst undef) w') : wpSeq P Q (op :: rest) a w :=
  ⟨hgd, wp_store_blk ty x y ho b cs ds T hx hy hB hl hi h1 fun w' h2 h3 => ⟨undef, rfl, h w' h2 h3⟩⟩
def pP2 (x : ByteArray) : Pa Pr := fun l => (pS 256 l).map fun t => ((x, t.1, false), t.2)
def pW2 (k : ByteArray) (d : Bool) : Pa Pr := fun l => (pT (!d) 256 l).map fun v => ((k, v.1, d), v.2)
def pW1 (k : ByteArray) : Pa Pr := fun l => (pF l).bind fun d => pW2 k d.1 d.2
def pR3 (b : Bool) (k t : ByteArray) : Pa Rp := fun l => (pL 200 pP l).map fun p => ((b, k, t, p.1), p.2)
def pR2 (b : Bool) (k : ByteArray) : Pa Rp := fun l => (pT b 64 l).bind fun t => pR3 b k t.1 t.2
def pR1 (b : Bool) : Pa Rp := fun l => (pS 64 l).bind fun k => pR2 b k.1 k.2
/-- What is told of a pair that was got. -/
def PrPost (w0 : World) (Bb Br Bt : Nat) (p : Pa Pr) (s : Option (List UInt8)) (w : World) (e : Ending) (w' : World) : Prop := ∃ x, e = .returned (.agg (PC x).toArray) ∧ SrcAt w0 w' Bb Br Bt (aft p s) ∧ (∀ y z, s.bind p = some (y, z) → x = y) ∧ Chg (GF Bb Br) w w'
/-- One behind the other. -/
theorem aft_bind {α β : Type} {p : Pa α} {f : α → Pa β} {P : Pa β} (hP : ∀ l, P l = (p l).bind fun q => f q.1 q.2) (d : α) (s : Option (List UInt8)) : aft P s = aft (f (got p d s)) (aft p s) := by
  cases s with
  | none => rfl
  | some l =>
    cases h : p l with
    | none => rw [aft_no h, aft_no (by rw [hP, h]; rfl)]; rfl
    | some q =>
      obtain ⟨x, z⟩ := q
      rw [aft_some h, got_some h]
      unfold aft
      simp [hP, h]
theorem val_bind {α β : Type} {p : Pa α} {f : α → Pa β} {P : Pa β} (hP : ∀ l, P l = (p l).bind fun q => f q.1 q.2) (d : α) {s : Option (List UInt8)} {y : β} {z : List UInt8} (h : s.bind P = some (y, z)) : (aft p s).bind (f (got p d s)) = some (y, z) := by
  cases s with
  | none => cases h
  | some l =>
    simp only [Option.bind_some] at h
    rw [hP] at h
    cases hp : p l with
    | none => rw [hp] at h; cases h
    | some q =>
      obtain ⟨x, z'⟩ := q
      rw [hp] at h
      rw [aft_some hp, got_some hp]
      exact h
theorem aft_map {α β : Type} {p : Pa α} {g : α → β} {P : Pa β} (hP : ∀ l, P l = (p l).map fun q => (g q.1, q.2)) (s : Option (List UInt8)) : aft P s = aft p s := by
  cases s with
  | none => rfl
  | some l =>
    unfold aft
    simp only [Option.bind_some, hP]
    cases p l <;> rfl
theorem val_map {α β : Type} {p : Pa α} {g : α → β} {P : Pa β} (hP : ∀ l, P l = (p l).map fun q => (g q.1, q.2)) (d : α) {s : Option (List UInt8)} {y : β} {z : List UInt8} (h : s.bind P = some (y, z)) : y = g (got p d s) ∧ aft p s = some z := by
  cases s with
  | none => cases h
  | some l =>
    simp only [Option.bind_some] at h
    rw [hP] at h
    cases hp : p l with
    | none => rw [hp] at h; cases h
    | some q =>
      obtain ⟨x, z'⟩ := q
      rw [hp] at h
      simp only [Option.map_some, Option.some.injEq, Prod.mk.injEq] at h
      rw [aft_some hp, got_some hp, ← h.1, ← h.2]
      exact ⟨rfl, rfl⟩
theorem val_got {α : Type} {p : Pa α} {d : α} {s : Option (List UInt8)} {y : α} {z : List UInt8} (h : s.bind p = some (y, z)) : got p d s = y ∧ aft p s = some z := by
  cases s with
  | none => cases h
  | some l => exact ⟨got_some h, aft_some h⟩
theorem SC6_one (Bb Br Bt : Nat) : ∀ u ∈ SC6 Bb Br Bt, u.oneCell' = true := by
  intro u hu
  simp only [SC6, List.mem_cons, List.not_mem_nil, or_false] at hu
  rcases hu with rfl | rfl | rfl | rfl | rfl <;> rfl
theorem Tryd.size55 : (Tryd.prog.info? 55).map (·.size) = some 5 := by kernel_rfl
theorem SrcAt.neT {w0 w : World} {Bb Br Bt k : Nat} {s : Option (List UInt8)} {T : TypeId} {cs : List Value} (h : SrcAt w0 w Bb Br Bt s) (hk : Blk w k T cs) (h1 : T ≠ 28) (h2 : T ≠ 4) : ¬ GF Bb Br k := fun e => by
  obtain ⟨v, l, hb, -⟩ := h.b
  rcases e with rfl | rfl
  · exact cells_ne hk hb h1 rfl
  · exact cells_ne hk h.r h2 rfl
theorem SrcAt.lt {w0 w : World} {Bb Br Bt : Nat} {s : Option (List UInt8)} (h : SrcAt w0 w Bb Br Bt s) : Bb < w.heap.size ∧ Br < w.heap.size := by
  obtain ⟨v, l, hb, -⟩ := h.b
  exact ⟨hb.lt, h.r.lt⟩
/-- A block that is none of the source's is written. -/
theorem SrcAt.other {w0 w w' : World} {Bb Br Bt k : Nat} {s : Option (List UInt8)} {T : TypeId} {cs : List Value} (h : SrcAt w0 w Bb Br Bt s) (hc : Chg (fun j => j = k) w w') (hk : Blk w k T cs) (h1 : T ≠ 28) (h2 : T ≠ 4) (h3 : T ≠ 72) (h0 : w0.heap.size ≤ k) : SrcAt w0 w' Bb Br Bt s := by
  obtain ⟨v, l, hb, hr⟩ := h.b
  have e1 : Bb ≠ k := fun e => cells_ne hk hb h1 e.symm
  have e2 : Br ≠ k := fun e => cells_ne hk h.r h2 e.symm
  have e3 : Bt ≠ k := fun e => cells_ne hk h.t h3 e.symm
  exact ⟨h.base.trans (hc.below h.base.size fun j hj e => by omega), h.lo, ⟨v, l, hb.chg hc e1, hr⟩, h.r.chg hc e2, h.t.chg hc e3⟩
theorem zeroPr (W : World) : (zeroValue 43).run Tryd.prog W = .ok (.agg #[.string ⟨#[]⟩, .string ⟨#[]⟩, .bool false]) W := by kernel_rfl
theorem ret_pair {fn : Func} {p : Tmp} (h : fn.results = #[.cell p 43]) (tmps : Array Value) (w : World) (g : Nat) (x : Pr) (hp : tmps.getD p undef = .pointer (some ⟨g, 0, none⟩)) (hB : Blk w g 43 (PC x)) :
    (results fn tmps).run Tryd.prog w = .ok (.agg (PC x).toArray) w :=
  results_cell_row h _ _ g 43 _ (0, 0) _ hp hB Tryd.underlying43 rfl Tryd.size43
theorem ret_readc {fn : Func} {p : Tmp} (h : fn.results = #[.cell p 46]) (tmps : Array Value) (w : World) (g : Nat) (x : Rz) (hp : tmps.getD p undef = .pointer (some ⟨g, 0, none⟩)) (hB : Blk w g 46 (XC x)) :
    (results fn tmps).run Tryd.prog w = .ok (.agg (XC x).toArray) w :=
  results_cell_row h _ _ g 46 _ (0, 0) _ hp hB Tryd.underlying46 rfl Tryd.size46
set_option linter.unusedSimpArgs false in
theorem build_kv (k v : ByteArray) : ∀ W : World, (Instr.build 43 #[(0, .string k), (1, .string v)]).run Tryd.prog W = .ok (.agg (PC (k, v, false)).toArray) W := fun W => by kernel_rfl
set_option maxHeartbeats 1000000 in
set_option maxRecDepth 100000 in
theorem spair_any {w0 w : World} {Bb Br Bt : Nat} {s : Option (List UInt8)} (h : SrcAt w0 w Bb Br Bt s) :
    Calls Tryd.prog 73 #[.agg (SC6 Bb Br Bt).toArray] w fun e w' => PrPost w0 Bb Br Bt pP s w e w' := by
  obtain ⟨N, HN⟩ : ∃ N, Hid (w.heap.size = N) := ⟨_, rfl⟩
  obtain ⟨w1, hw1⟩ : ∃ y, y = (w.alloc (.cells (SC6 Bb Br Bt).toArray 55 (0, 0))).alloc (.cells #[.string ⟨#[]⟩, .string ⟨#[]⟩, .bool false] 43 (0, 0)) := ⟨_, rfl⟩
  obtain ⟨bn, bz, l1⟩ := newB2 (A := SC6 Bb Br Bt) (B := [.string ⟨#[]⟩, .string ⟨#[]⟩, .bool false]) HN hw1
  have HW := hide hw1
  have BN := bn
  have BZ := bz
  have S0 := hide (h.kept l1.out)
  have h0s : Hid (w0.heap.size ≤ w.heap.size) := (show _ ≤ _ from h.base.size)
  have HNE := hide (S0.out.neT BN.out (by decide) (by decide))
  have HNZ := hide (S0.out.neT BZ.out (by decide) (by decide))
  have hz := zeroPr
  obtain ⟨k, Hk⟩ : ∃ z, Hid (got (pS 64) em s = z) := ⟨_, rfl⟩
  obtain ⟨s1, Hs1⟩ : ∃ z, Hid (aft (pS 64) s = z) := ⟨_, rfl⟩
  obtain ⟨v, Hv⟩ : ∃ z, Hid (got (pS 256) em s1 = z) := ⟨_, rfl⟩
  obtain ⟨s2, Hs2⟩ : ∃ z, Hid (aft (pS 256) s1 = z) := ⟨_, rfl⟩
  have C1 : Hid (∀ W, SrcAt w0 W Bb Br Bt s → Calls Tryd.prog 51 #[.int .i64 64, PT Bb, PT Bt] W fun e w' => e = .returned (.string k) ∧ SrcAt w0 w' Bb Br Bt s1 ∧ Chg (GF Bb Br) W w') := (show ∀ W, _ from fun W hW => by rw [← Hk.out, ← Hs1.out]; exact sstr_any hW 64 (by decide))
  have C2 : Hid (∀ W, SrcAt w0 W Bb Br Bt s1 → Calls Tryd.prog 51 #[.int .i64 256, PT Bb, PT Bt] W fun e w' => e = .returned (.string v) ∧ SrcAt w0 w' Bb Br Bt s2 ∧ Chg (GF Bb Br) W w') := (show ∀ W, _ from fun W hW => by rw [← Hv.out, ← Hs2.out]; exact sstr_any hW 256 (by decide))
  have HPP : Hid (aft pP s = s2 ∧ ∀ y z, s.bind pP = some (y, z) → (k, v, false) = y) := (show _ ∧ _ from by
    have hP : ∀ l, pP l = (pS 64 l).bind fun q => pP2 q.1 q.2 := fun l => rfl
    refine ⟨?_, fun y z hy => ?_⟩
    · rw [aft_bind (p := pS 64) (f := pP2) hP em s, Hk.out, Hs1.out, aft_map (P := pP2 k) (g := fun t => ((k, t, false) : Pr)) (p := pS 256) (fun l => rfl), Hs2.out]
    · have h1 := val_bind (p := pS 64) (f := pP2) hP em hy
      rw [Hk.out, Hs1.out] at h1
      have h2 := (val_map (P := pP2 k) (g := fun t => ((k, t, false) : Pr)) (p := pS 256) (fun l => rfl) em h1).1
      rw [Hv.out] at h2
      exact h2.symm)
  obtain ⟨SB, HSB⟩ : ∃ f : Nat → Option (List UInt8), f = fun b => if b = 0 then s else if b = 1 then s1 else s2 := ⟨_, rfl⟩
  have HB0 : SB 0 = s := by rw [HSB]; rfl
  have HB1 : SB 1 = s1 := by rw [HSB]; rfl
  have HB2 : SB 2 = s2 := by rw [HSB]; rfl
  clear hw1 bn bz HSB
  go_enter Tryd.func73, Tryd.ntmps73
  go_upto_region 1 with fail
  change Code.wp _ _ _ _ ((w.alloc (.cells (SC6 Bb Br Bt).toArray 55 (0, 0))).alloc (.cells #[.string ⟨#[]⟩, .string ⟨#[]⟩, .bool false] 43 (0, 0)))
  rw [← HW.out, HN.out]
  refine wp_region_chainR (R := Chg (GF Bb Br)) Tryd.mixed (KC (fun i_ => match i_ with | 0 | 3 => .val (.pointer (some ⟨N, 2, none⟩)) | 1 | 4 => .val (.func (.func 51) #[] #[PT Bb, PT Bt]) | 2 => .val (.string k) | 5 => .val (.string v) | 6 => .val (.agg (PC (k, v, false)).toArray) | _ => .free)) (fun b_ w_ => SrcAt w0 w_ Bb Br Bt (SB b_) ∧ Chg (GF Bb Br) w1 w_) [2, 5] 10 rfl (by decide +kernel) 7 (by decide) (by decide) (by decide) (by decide +kernel) (by decide +kernel) (KC_mono _) (KC_monoR (fun i_ h_ => (by split <;> first | rfl | exact absurd rfl h_))) (fun b_ w_ w_2 hg h => ⟨h.1.kept hg, h.2.trans (Chg.of_below hg)⟩) (⟨by rw [HB0]; exact S0.out, Chg.refl _ _⟩) ?_ ?_
  · refine AllFrom.cons ⟨rfl, fun _ a' b' w' hC hk hd Q => ?_, fun j_ hj_ => (pvR_no (by decide) j_ hj_).elim⟩ (AllFrom.cons ⟨rfl, fun _ a' b' w' hC hk hd Q => ?_, fun j_ hj_ => (pvR_no (by decide) j_ hj_).elim⟩ (AllFrom.cons ⟨rfl, fun h => absurd (by decide) h, fun j_ hj_ a' w' hC hk hd Q => ?_⟩ (AllFrom.cons ⟨rfl, fun _ a' b' w' hC hk hd Q => ?_, fun j_ hj_ => (pvR_no (by decide) j_ hj_).elim⟩ (AllFrom.cons ⟨rfl, fun _ a' b' w' hC hk hd Q => ?_, fun j_ hj_ => (pvR_no (by decide) j_ hj_).elim⟩ (AllFrom.cons ⟨rfl, fun h => absurd (by decide) h, fun j_ hj_ a' w' hC hk hd Q => ?_⟩ (AllFrom.cons ⟨rfl, fun _ a' b' w' hC hk hd Q => ?_, fun j_ hj_ => (pvR_no (by decide) j_ hj_).elim⟩ AllFrom.nil))))))
    · skip
      have e1 : a'.eval (.tmp 1) = .pointer (some ⟨N, 0, none⟩) := hk.at 1 (by decide +kernel)
      clear hd hk
      exact wp_value (.pointer (some ⟨N, 2, none⟩)) (by simp only [execOp, e1]; go_simp) (KC_mkv rfl rfl)
    · skip
      have e3 : a'.eval (.tmp 3) = .pointer (some ⟨N, 2, none⟩) := KC_val (hd.val 0 3 (by decide +kernel)) rfl
      have hc := (BN.out.chg hC.2 HNE.out).cell (j := 2) rfl
      clear hd hk
      exact wp_value (.func (.func 51) #[] #[PT Bb, PT Bt]) (by simp only [execOp, e3]; go_simp) (KC_mkv rfl rfl)
    · skip
      obtain rfl : j_ = 0 := pvR_at (by decide) rfl hj_
      have e4 : a'.eval (.tmp 4) = .func (.func 51) #[] #[PT Bb, PT Bt] := KC_val (hd.val 1 4 (by decide +kernel)) rfl
      have hc0 := hC.1
      rw [HB0] at hc0
      refine wp_callP 51 _ (run_enterV 51 _ _ 4 _ rfl e4 (by kernel_rfl)) ?_
      simp only [List.map_toArray, List.map_cons, List.map_nil, List.append_toArray, List.cons_append, List.nil_append, Act.eval]
      refine (C1.out w' hc0).mono ?_
      rintro e w5 ⟨rfl, s5, c5⟩
      rw [← HB1] at s5
      exact ⟨_, rfl, KC_mkv rfl rfl, c5, s5, hC.2.trans c5⟩
    · skip
      have e1 : a'.eval (.tmp 1) = .pointer (some ⟨N, 0, none⟩) := hk.at 1 (by decide +kernel)
      clear hd hk
      exact wp_value (.pointer (some ⟨N, 2, none⟩)) (by simp only [execOp, e1]; go_simp) (KC_mkv rfl rfl)
    · skip
      have e6 : a'.eval (.tmp 6) = .pointer (some ⟨N, 2, none⟩) := KC_val (hd.val 3 6 (by decide +kernel)) rfl
      have hc := (BN.out.chg hC.2 HNE.out).cell (j := 2) rfl
      clear hd hk
      exact wp_value (.func (.func 51) #[] #[PT Bb, PT Bt]) (by simp only [execOp, e6]; go_simp) (KC_mkv rfl rfl)
    · skip
      obtain rfl : j_ = 1 := pvR_at (by decide) rfl hj_
      have e7 : a'.eval (.tmp 7) = .func (.func 51) #[] #[PT Bb, PT Bt] := KC_val (hd.val 4 7 (by decide +kernel)) rfl
      have hc0 := hC.1
      rw [HB1] at hc0
      refine wp_callP 51 _ (run_enterV 51 _ _ 7 _ rfl e7 (by kernel_rfl)) ?_
      simp only [List.map_toArray, List.map_cons, List.map_nil, List.append_toArray, List.cons_append, List.nil_append, Act.eval]
      refine (C2.out w' hc0).mono ?_
      rintro e w5 ⟨rfl, s5, c5⟩
      rw [← HB2] at s5
      exact ⟨_, rfl, KC_mkv rfl rfl, c5, s5, hC.2.trans c5⟩
    · skip
      have e5 : a'.eval (.tmp 5) = .string k := KC_val (hd.val 2 5 (by decide +kernel)) rfl
      have e8 : a'.eval (.tmp 8) = .string v := KC_val (hd.val 5 8 (by decide +kernel)) rfl
      clear hd hk
      exact wp_value (.agg (PC (k, v, false)).toArray) (by simp only [execOp, List.map_toArray, List.map_cons, List.map_nil, e5, e8, Sem.run_bind, Sem.run_pure]; exact congrArg (fun r => Result.andThen r _) (build_kv k v _)) (KC_mkv rfl rfl)
  · intro a' w2 hsz hdf hk hall hC
    have S2 := hide hC.1
    have L2 := hide hC.2
    clear hC
    have e3 : a'.eval (.tmp 3) = .pointer (some ⟨N, 2, none⟩) := KC_val (hall 0 _ 3 (by decide) rfl rfl) rfl
    have e4 : a'.eval (.tmp 4) = .func (.func 51) #[] #[PT Bb, PT Bt] := KC_val (hall 1 _ 4 (by decide) rfl rfl) rfl
    have e5 : a'.eval (.tmp 5) = .string k := KC_val (hall 2 _ 5 (by decide) rfl rfl) rfl
    have e6 : a'.eval (.tmp 6) = .pointer (some ⟨N, 2, none⟩) := KC_val (hall 3 _ 6 (by decide) rfl rfl) rfl
    have e7 : a'.eval (.tmp 7) = .func (.func 51) #[] #[PT Bb, PT Bt] := KC_val (hall 4 _ 7 (by decide) rfl rfl) rfl
    have e8 : a'.eval (.tmp 8) = .string v := KC_val (hall 5 _ 8 (by decide) rfl rfl) rfl
    have e9 : a'.eval (.tmp 9) = .agg (PC (k, v, false)).toArray := KC_val (hall 6 _ 9 (by decide) rfl rfl) rfl
    have ha := act_puts 10 rfl hsz hdf hk [3, 4, 5, 6, 7, 8, 9] (by decide +kernel)
    simp only [puts, List.foldl_cons, List.foldl_nil, e3, e4, e5, e6, e7, e8, e9] at ha
    simp only [Act.put, List.setIfInBounds_toArray, List.set_cons_succ, List.set_cons_zero] at ha
    clear hall hk hsz hdf e3 e4 e5 e6 e7 e8 e9
    subst ha
    refine wpSeq_store_blk rfl 43 _ _ rfl (N + 1) _ (PC (k, v, false)) 43 rfl rfl (BZ.out.chg L2.out HNZ.out) rfl Tryd.size43 (PC_one _) ?_
    intro w3 hb3 hu3
    have C3 : Chg (fun j => j = N + 1) w2 w3 := Chg.of_but hu3 rfl
    have hz2 := BZ.out.chg L2.out HNZ.out
    have S3 : Hid (SrcAt w0 w3 Bb Br Bt s2) := (show SrcAt _ _ _ _ _ _ from by
      have h1 := S2.out
      rw [show ([2, 5] : List Nat).length = 2 from rfl, HB2] at h1
      exact h1.other C3 hz2 (by decide) (by decide) (by decide) (by have := S0.out.base.size; have := l1.out.size; have := HN.out; have := h0s.out; omega))
    simp only [wpSeq]
    go_wp2_with fail
    refine bodyPost_ret (ret_pair rfl _ _ (N + 1) (k, v, false) rfl hb3) rfl (show PrPost _ _ _ _ _ _ _ _ _ from ⟨(k, v, false), rfl, ?_, HPP.out.2, ?_⟩)
    · rw [HPP.out.1]
      exact S3.out
    · refine ((Chg.of_below l1.out).trans L2.out).then C3 (fun i hi e => absurd hi (by have := HN.out; omega))
#print axioms spair_any
theorem build_kd (k : ByteArray) (d : Bool) : ∀ W : World, (Instr.build 43 #[(0, .string k), (2, .bool d)]).run Tryd.prog W = .ok (.agg (PC (k, em, d)).toArray) W := fun W => by kernel_rfl
set_option linter.unusedSimpArgs false in
set_option maxHeartbeats 2000000 in
set_option maxRecDepth 100000 in
theorem swrite_any {w0 w : World} {Bb Br Bt : Nat} {s : Option (List UInt8)} (h : SrcAt w0 w Bb Br Bt s) :
    Calls Tryd.prog 58 #[.agg (SC6 Bb Br Bt).toArray] w fun e w' => PrPost w0 Bb Br Bt pW s w e w' := by
  obtain ⟨N, HN⟩ : ∃ N, Hid (w.heap.size = N) := ⟨_, rfl⟩
  obtain ⟨w1, hw1⟩ : ∃ y, y = (w.alloc (.cells (SC6 Bb Br Bt).toArray 55 (0, 0))).alloc (.cells #[.string ⟨#[]⟩, .string ⟨#[]⟩, .bool false] 43 (0, 0)) := ⟨_, rfl⟩
  obtain ⟨bn, bz, l1⟩ := newB2 (A := SC6 Bb Br Bt) (B := [.string ⟨#[]⟩, .string ⟨#[]⟩, .bool false]) HN hw1
  have HW := hide hw1
  have BN := bn
  have BZ := bz
  have S0 := hide (h.kept l1.out)
  have h0s : Hid (w0.heap.size ≤ w.heap.size) := (show _ ≤ _ from h.base.size)
  have HNE := hide (S0.out.neT BN.out (by decide) (by decide))
  have HNZ := hide (S0.out.neT BZ.out (by decide) (by decide))
  have HLT : Hid (Bb < w1.heap.size ∧ Br < w1.heap.size) := (show _ ∧ _ from S0.out.lt)
  have HN1 : Hid (w1.heap.size = N + 2) := (show _ = _ by rw [hw1]; simp [HN.out])
  obtain ⟨k, Hk⟩ : ∃ z, Hid (got (pS 64) em s = z) := ⟨_, rfl⟩
  obtain ⟨s1, Hs1⟩ : ∃ z, Hid (aft (pS 64) s = z) := ⟨_, rfl⟩
  obtain ⟨d, Hd⟩ : ∃ z, Hid (got pF false s1 = z) := ⟨_, rfl⟩
  obtain ⟨s2, Hs2⟩ : ∃ z, Hid (aft pF s1 = z) := ⟨_, rfl⟩
  have C1 : Hid (∀ W, SrcAt w0 W Bb Br Bt s → Calls Tryd.prog 51 #[.int .i64 64, PT Bb, PT Bt] W fun e w' => e = .returned (.string k) ∧ SrcAt w0 w' Bb Br Bt s1 ∧ Chg (GF Bb Br) W w') := (show ∀ W, _ from fun W hW => by rw [← Hk.out, ← Hs1.out]; exact sstr_any hW 64 (by decide))
  have C2 : Hid (∀ W, SrcAt w0 W Bb Br Bt s1 → Calls Tryd.prog 49 #[PT Bb, PT Bt] W fun e w' => e = .returned (.bool d) ∧ SrcAt w0 w' Bb Br Bt s2 ∧ Chg (GF Bb Br) W w') := (show ∀ W, _ from fun W hW => by rw [← Hd.out, ← Hs2.out]; exact sflag_any hW)
  have HPP : Hid (aft pW s = aft (pT (!d) 256) s2 ∧ ∀ y z, s.bind pW = some (y, z) → (k, got (pT (!d) 256) em s2, d) = y) := (show _ ∧ _ from by
    have hP : ∀ l, pW l = (pS 64 l).bind fun q => pW1 q.1 q.2 := fun l => rfl
    have hP2 : ∀ l, pW1 k l = (pF l).bind fun q => pW2 k q.1 q.2 := fun l => rfl
    refine ⟨?_, fun y z hy => ?_⟩
    · rw [aft_bind (p := pS 64) (f := pW1) hP em s, Hk.out, Hs1.out, aft_bind (p := pF) (f := pW2 k) hP2 false s1, Hd.out, Hs2.out, aft_map (P := pW2 k d) (g := fun t => ((k, t, d) : Pr)) (p := pT (!d) 256) (fun l => rfl)]
    · have h1 := val_bind (p := pS 64) (f := pW1) hP em hy
      rw [Hk.out, Hs1.out] at h1
      have h2 := val_bind (p := pF) (f := pW2 k) hP2 false h1
      rw [Hd.out, Hs2.out] at h2
      exact (val_map (P := pW2 k d) (g := fun t => ((k, t, d) : Pr)) (p := pT (!d) 256) (fun l => rfl) em h2).1.symm)
  obtain ⟨SB, HSB⟩ : ∃ f : Nat → Option (List UInt8), f = fun b => if b = 0 then s else if b = 1 then s1 else s2 := ⟨_, rfl⟩
  have HB0 : SB 0 = s := by rw [HSB]; rfl
  have HB1 : SB 1 = s1 := by rw [HSB]; rfl
  have HB2 : SB 2 = s2 := by rw [HSB]; rfl
  have hz := zeroPr
  clear hw1 bn bz HSB
  go_enter Tryd.func58, Tryd.ntmps58
  go_upto_region 1 with fail
  change Code.wp _ _ _ _ ((w.alloc (.cells (SC6 Bb Br Bt).toArray 55 (0, 0))).alloc (.cells #[.string ⟨#[]⟩, .string ⟨#[]⟩, .bool false] 43 (0, 0)))
  rw [← HW.out, HN.out]
  refine wp_region_chainR (R := Chg (GF Bb Br)) Tryd.mixed (KC (fun i_ => match i_ with | 0 => .val (.pointer (some ⟨N, 2, none⟩)) | 1 => .val (.func (.func 51) #[] #[PT Bb, PT Bt]) | 2 => .val (.string k) | 3 => .val (.pointer (some ⟨N, 1, none⟩)) | 4 => .val (.func (.func 49) #[] #[PT Bb, PT Bt]) | 5 => .val (.bool d) | 6 => .val (.agg (PC (k, em, d)).toArray) | 7 => .of (relChg _) (fun W x => ∃ B, x = PT B ∧ N + 2 ≤ B ∧ Blk W B 43 [.string ⟨#[]⟩, .string ⟨#[]⟩, .bool false]) (fun _ _ _ hr ⟨B, e, h1, h2⟩ => ⟨B, e, h1, h2.chg hr (fun e => by have := HLT.out; have := HN1.out; rcases e with e | e <;> omega)⟩) | _ => .free)) (fun b_ w_ => SrcAt w0 w_ Bb Br Bt (SB b_) ∧ Chg (GF Bb Br) w1 w_) [2, 5] 19 rfl (by decide +kernel) 8 (by decide) (by decide) (by decide) (by decide +kernel) (by decide +kernel) (KC_mono _) (KC_monoR (fun i_ h_ => (by split <;> first | rfl | exact absurd rfl h_))) (fun b_ w_ w_2 hg h => ⟨h.1.kept hg, h.2.trans (Chg.of_below hg)⟩) (⟨by rw [HB0]; exact S0.out, Chg.refl _ _⟩) ?_ ?_
  · refine AllFrom.cons ⟨rfl, fun _ a' b' w' hC hk hd Q => ?_, fun j_ hj_ => (pvR_no (by decide) j_ hj_).elim⟩ (AllFrom.cons ⟨rfl, fun _ a' b' w' hC hk hd Q => ?_, fun j_ hj_ => (pvR_no (by decide) j_ hj_).elim⟩ (AllFrom.cons ⟨rfl, fun h => absurd (by decide) h, fun j_ hj_ a' w' hC hk hd Q => ?_⟩ (AllFrom.cons ⟨rfl, fun _ a' b' w' hC hk hd Q => ?_, fun j_ hj_ => (pvR_no (by decide) j_ hj_).elim⟩ (AllFrom.cons ⟨rfl, fun _ a' b' w' hC hk hd Q => ?_, fun j_ hj_ => (pvR_no (by decide) j_ hj_).elim⟩ (AllFrom.cons ⟨rfl, fun h => absurd (by decide) h, fun j_ hj_ a' w' hC hk hd Q => ?_⟩ (AllFrom.cons ⟨rfl, fun _ a' b' w' hC hk hd Q => ?_, fun j_ hj_ => (pvR_no (by decide) j_ hj_).elim⟩ (AllFrom.cons ⟨rfl, fun _ a' b' w' hC hk hd Q => ?_, fun j_ hj_ => (pvR_no (by decide) j_ hj_).elim⟩ AllFrom.nil)))))))
    · skip
      have e1 : a'.eval (.tmp 1) = .pointer (some ⟨N, 0, none⟩) := hk.at 1 (by decide +kernel)
      clear hd hk
      exact wp_value (.pointer (some ⟨N, 2, none⟩)) (by simp only [execOp, e1]; go_simp) (KC_mkv rfl rfl)
    · skip
      have e4 : a'.eval (.tmp 4) = .pointer (some ⟨N, 2, none⟩) := KC_val (hd.val 0 4 (by decide +kernel)) rfl
      have hc := (BN.out.chg hC.2 HNE.out).cell (j := 2) rfl
      clear hd hk
      exact wp_value (.func (.func 51) #[] #[PT Bb, PT Bt]) (by simp only [execOp, e4]; go_simp) (KC_mkv rfl rfl)
    · skip
      obtain rfl : j_ = 0 := pvR_at (by decide) rfl hj_
      have e5 : a'.eval (.tmp 5) = .func (.func 51) #[] #[PT Bb, PT Bt] := KC_val (hd.val 1 5 (by decide +kernel)) rfl
      have hc0 := hC.1
      rw [HB0] at hc0
      refine wp_callP 51 _ (run_enterV 51 _ _ 5 _ rfl e5 (by kernel_rfl)) ?_
      simp only [List.map_toArray, List.map_cons, List.map_nil, List.append_toArray, List.cons_append, List.nil_append, Act.eval]
      refine (C1.out w' hc0).mono ?_
      rintro e w5 ⟨rfl, s5, c5⟩
      rw [← HB1] at s5
      exact ⟨_, rfl, KC_mkv rfl rfl, c5, s5, hC.2.trans c5⟩
    · skip
      have e1 : a'.eval (.tmp 1) = .pointer (some ⟨N, 0, none⟩) := hk.at 1 (by decide +kernel)
      clear hd hk
      exact wp_value (.pointer (some ⟨N, 1, none⟩)) (by simp only [execOp, e1]; go_simp) (KC_mkv rfl rfl)
    · skip
      have e7 : a'.eval (.tmp 7) = .pointer (some ⟨N, 1, none⟩) := KC_val (hd.val 3 7 (by decide +kernel)) rfl
      have hc := (BN.out.chg hC.2 HNE.out).cell (j := 1) rfl
      clear hd hk
      exact wp_value (.func (.func 49) #[] #[PT Bb, PT Bt]) (by simp only [execOp, e7]; go_simp) (KC_mkv rfl rfl)
    · skip
      obtain rfl : j_ = 1 := pvR_at (by decide) rfl hj_
      have e8 : a'.eval (.tmp 8) = .func (.func 49) #[] #[PT Bb, PT Bt] := KC_val (hd.val 4 8 (by decide +kernel)) rfl
      have hc0 := hC.1
      rw [HB1] at hc0
      refine wp_callP 49 _ (run_enterV 49 _ _ 8 _ rfl e8 (by kernel_rfl)) ?_
      simp only [List.map_toArray, List.map_cons, List.map_nil, List.append_toArray, List.cons_append, List.nil_append, Act.eval]
      refine (C2.out w' hc0).mono ?_
      rintro e w5 ⟨rfl, s5, c5⟩
      rw [← HB2] at s5
      exact ⟨_, rfl, KC_mkv rfl rfl, c5, s5, hC.2.trans c5⟩
    · skip
      have e6 : a'.eval (.tmp 6) = .string k := KC_val (hd.val 2 6 (by decide +kernel)) rfl
      have e9 : a'.eval (.tmp 9) = .bool d := KC_val (hd.val 5 9 (by decide +kernel)) rfl
      clear hd hk
      exact wp_value (.agg (PC (k, em, d)).toArray) (by simp only [execOp, List.map_toArray, List.map_cons, List.map_nil, e6, e9, Sem.run_bind, Sem.run_pure]; exact congrArg (fun r => Result.andThen r _) (build_kd k d _)) (KC_mkv rfl rfl)
    · skip
      have hz := zeroPr w'
      have hsz : N + 2 ≤ w'.heap.size := by have := hC.2.size; have := HN1.out; omega
      clear hd hk
      exact wp_grow (.pointer (some ⟨w'.heap.size, 0, none⟩)) _ (by simp only [execOp]; go_simp) ((Below.refl _ _).alloc (Nat.le_refl _) _) (KC_mko rfl ⟨_, rfl, hsz, Blk.new _ _ _⟩)
  · intro a' w2 hsz hdf hk hall hC
    have S2 := hide hC.1
    have L2 := hide hC.2
    clear hC
    have e4 : a'.eval (.tmp 4) = .pointer (some ⟨N, 2, none⟩) := KC_val (hall 0 _ 4 (by decide) rfl rfl) rfl
    have e5 : a'.eval (.tmp 5) = .func (.func 51) #[] #[PT Bb, PT Bt] := KC_val (hall 1 _ 5 (by decide) rfl rfl) rfl
    have e6 : a'.eval (.tmp 6) = .string k := KC_val (hall 2 _ 6 (by decide) rfl rfl) rfl
    have e7 : a'.eval (.tmp 7) = .pointer (some ⟨N, 1, none⟩) := KC_val (hall 3 _ 7 (by decide) rfl rfl) rfl
    have e8 : a'.eval (.tmp 8) = .func (.func 49) #[] #[PT Bb, PT Bt] := KC_val (hall 4 _ 8 (by decide) rfl rfl) rfl
    have e9 : a'.eval (.tmp 9) = .bool d := KC_val (hall 5 _ 9 (by decide) rfl rfl) rfl
    have e10 : a'.eval (.tmp 10) = .agg (PC (k, em, d)).toArray := KC_val (hall 6 _ 10 (by decide) rfl rfl) rfl
    have r3 := KC_of (hall 7 _ 3 (by decide) rfl rfl) rfl
    obtain ⟨x3, hx3⟩ : ∃ v, a'.eval (.tmp 3) = v := ⟨_, rfl⟩
    rw [hx3] at r3
    have ha := act_puts 19 rfl hsz hdf hk [4, 5, 6, 7, 8, 9, 10, 3] (by decide +kernel)
    simp only [puts, List.foldl_cons, List.foldl_nil, e4, e5, e6, e7, e8, e9, e10, hx3] at ha
    simp only [Act.put, List.setIfInBounds_toArray, List.set_cons_succ, List.set_cons_zero] at ha
    clear hall hk hsz hdf e4 e5 e6 e7 e8 e9 e10 hx3
    subst ha
    obtain ⟨G, e3, hG, hbG⟩ := r3
    subst e3
    refine wpSeq_store_blk rfl 43 _ _ rfl G _ (PC (k, em, d)) 43 rfl rfl hbG rfl Tryd.size43 (PC_one _) ?_
    intro w3 hb3 hu3
    have C3 : Hid (Chg (fun j => j = G) w2 w3) := (show Chg _ _ _ from Chg.of_but hu3 rfl)
    have S2' : Hid (SrcAt w0 w2 Bb Br Bt s2) := (show SrcAt _ _ _ _ _ _ from by
      have h1 := S2.out
      rwa [show ([2, 5] : List Nat).length = 2 from rfl, HB2] at h1)
    have S3 : Hid (SrcAt w0 w3 Bb Br Bt s2) := (show SrcAt _ _ _ _ _ _ from S2'.out.other C3.out hbG (by decide) (by decide) (by decide) (by have := S0.out.base.size; have := l1.out.size; have := HN.out; have := h0s.out; omega))
    have BZ3 : Hid (Blk w3 (N + 1) 43 [.string ⟨#[]⟩, .string ⟨#[]⟩, .bool false]) := (show Blk _ _ _ _ from (BZ.out.chg L2.out HNZ.out).chg C3.out (by omega))
    have B3 := hide hb3
    have HG9 := hide hG
    have W3 : Hid (∀ w4 w5 k2, Chg (GF Bb Br) w3 w4 → Chg (fun j => j = G) w4 w5 → k2 = N + 1 → ∀ w6, Chg (fun j => j = k2) w5 w6 → Chg (GF Bb Br) w w6) := (show ∀ w4 w5 k2, _ from fun w4 w5 k2 h4 h5 hk w6 h6 => by
      have a1 : Chg (GF Bb Br) w w2 := (Chg.of_below l1.out).trans L2.out
      have a2 : Chg (GF Bb Br) w w3 := a1.then C3.out (fun i hi e => absurd hi (by have := HN.out; omega))
      have a3 : Chg (GF Bb Br) w w5 := (a2.trans h4).then h5 (fun i hi e => absurd hi (by have := HN.out; omega))
      exact a3.then h6 (fun i hi e => absurd hi (by have := HN.out; omega)))
    simp only [wpSeq]
    clear hb3 hu3 hG hbG S2 S2'
    have d2 := B3.out.dead
    cases d with
    | true =>
      have rk := B3.out.range0
      go_wp2_with (first
        | (refine wpList_load_mid rfl 43 _ rfl G 0 rfl (PC (k, em, true)) _ rk Tryd.underlying43 rfl Tryd.size43 ?_)
        | (refine wpList_store_blk rfl 43 (.tmp 2) (.tmp 18) rfl (N + 1) _ (PC (k, em, true)) 43 rfl rfl BZ3.out rfl Tryd.size43 (PC_one _) ?_; intro w8 hb8 hu8)
        | fail)
      refine bodyPost_ret (ret_pair rfl _ _ (N + 1) (k, em, true) rfl hb8) rfl (show PrPost _ _ _ _ _ _ _ _ _ from ⟨(k, em, true), rfl, ?_, ?_, ?_⟩)
      · rw [HPP.out.1]
        show SrcAt w0 w8 Bb Br Bt (aft (pT false 256) s2)
        rw [show aft (pT false 256) s2 = s2 from by cases s2 <;> rfl]
        exact S3.out.other (Chg.of_but hu8 rfl) BZ3.out (by decide) (by decide) (by decide) (by have := S0.out.base.size; have := HN.out; have := h0s.out; omega)
      · intro y z hy
        rw [← HPP.out.2 y z hy]
        show (k, em, true) = (k, got (pT false 256) em s2, true)
        rw [show got (pT false 256) em s2 = em from by cases s2 <;> rfl]
      · exact W3.out w3 w3 (N + 1) (Chg.refl _ _) (Chg.refl _ _) rfl w8 (Chg.of_but hu8 rfl)
    | false =>
      have hpt : pT (!false) 256 = pS 256 := by funext l; rfl
      have CS := hide (sstr_any S3.out 256 (by decide))
      obtain ⟨v, Hv⟩ : ∃ z, Hid (got (pS 256) em s2 = z) := ⟨_, rfl⟩
      obtain ⟨s3, Hs3⟩ : ∃ z, Hid (aft (pS 256) s2 = z) := ⟨_, rfl⟩
      have HQ : Hid (aft pW s = s3 ∧ ∀ y z, s.bind pW = some (y, z) → (k, v, false) = y) := (show _ ∧ _ from by
        have h1 := HPP.out
        rwa [hpt, Hv.out, Hs3.out] at h1)
      rw [Hv.out, Hs3.out] at CS
      have BN3 : Hid (Blk w3 N 55 (SC6 Bb Br Bt)) := (show Blk _ _ _ _ from (BN.out.chg L2.out HNE.out).chg C3.out (by have := HG9.out; omega))
      have d1 := BN3.out.cell (j := 2) rfl
      clear hpt
      go_wp2_with fail
      refine CS.out.mono ?_
      rintro e w4 ⟨rfl, s4, c4⟩
      have S4 := hide s4
      have C4 := hide c4
      have B4 : Hid (Blk w4 G 43 (PC (k, em, false))) := (show Blk _ _ _ _ from B3.out.chg c4 (S3.out.neT B3.out (by decide) (by decide)))
      have BZ4 : Hid (Blk w4 (N + 1) 43 [.string ⟨#[]⟩, .string ⟨#[]⟩, .bool false]) := (show Blk _ _ _ _ from BZ3.out.chg c4 (S3.out.neT BZ3.out (by decide) (by decide)))
      clear s4 c4 CS d1 d2
      have hf := B4.out.frozen 1
      have hc9 := B4.out.cell (j := 1) rfl
      obtain ⟨w5, hw5⟩ : ∃ z, z = w4.setCell ⟨G, 1, none⟩ (.string v) := ⟨_, rfl⟩
      have B5 : Hid (Blk w5 G 43 (PC (k, v, false))) := (show Blk _ _ _ _ by rw [hw5]; exact B4.out.set 1 (.string v))
      have C5 : Hid (Chg (fun j => j = G) w4 w5) := (show Chg _ _ _ by rw [hw5]; exact Chg.of_but (But.setCell G w4 1 (.string v)) rfl)
      have HW5 := hide hw5
      clear hw5
      go_upto_region 4 with fail
      try simp only [Act.put]
      change Code.wp _ _ _ _ (w4.setCell ⟨G, 1, none⟩ (.string v))
      rw [← HW5.out]
      have S5 : Hid (SrcAt w0 w5 Bb Br Bt s3) := (show SrcAt _ _ _ _ _ _ from S4.out.other C5.out B4.out (by decide) (by decide) (by decide) (by have := HG9.out; have := S0.out.base.size; have := HN.out; have := h0s.out; omega))
      have BZ5 : Hid (Blk w5 (N + 1) 43 [.string ⟨#[]⟩, .string ⟨#[]⟩, .bool false]) := (show Blk _ _ _ _ from BZ4.out.chg C5.out (by have := HG9.out; omega))
      have rk := B5.out.range0
      clear hf hc9
      go_wp2_with (first
        | (refine wpList_load_mid rfl 43 _ rfl G 0 rfl (PC (k, v, false)) _ rk Tryd.underlying43 rfl Tryd.size43 ?_)
        | (refine wpList_store_blk rfl 43 (.tmp 2) (.tmp 18) rfl (N + 1) _ (PC (k, v, false)) 43 rfl rfl BZ5.out rfl Tryd.size43 (PC_one _) ?_; intro w8 hb8 hu8)
        | fail)
      refine bodyPost_ret (ret_pair rfl _ _ (N + 1) (k, v, false) rfl hb8) rfl (show PrPost _ _ _ _ _ _ _ _ _ from ⟨(k, v, false), rfl, ?_, ?_, ?_⟩)
      · rw [HQ.out.1]
        exact S5.out.other (Chg.of_but hu8 rfl) BZ5.out (by decide) (by decide) (by decide) (by have := S0.out.base.size; have := HN.out; have := h0s.out; omega)
      · exact HQ.out.2
      · exact W3.out w4 w5 (N + 1) C4.out C5.out rfl w8 (Chg.of_but hu8 rfl)
#print axioms swrite_any
end Go.Proofs.YtmicmbjbclkbjaaDoor
