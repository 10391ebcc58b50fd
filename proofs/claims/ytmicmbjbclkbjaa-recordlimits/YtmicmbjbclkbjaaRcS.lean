/-
  What is put: sink's flag, str, nums: what the calls do.
-/
import Derived.Test.YtmicmbjbclkbjaaRegion17
import Derived.Test.YtmicmbjbclkbjaaRcB
import Derived.Test.YtmicmbjbclkbjaaRcP
import Derived.Test.YtmicmbjbclkbjaaPkA
namespace Go.Proofs.Ytmicmbjbclkbjaa
open Go.RowKit
theorem own_chg {w w' : World} {B : Nat} {v : Value} {l : List UInt8} {F : Nat → Prop} (h : Own w B v l) (hc : Chg F w w') (hF : ∀ b, v.ownBlock = some b → ¬ F b) : Own w' B v l := by
  obtain ⟨h1, h2⟩ := h
  refine ⟨h1, ?_⟩
  rcases h2 with h2 | ⟨g, cap, cur, hv, hg, hh, r⟩
  · exact Or.inl h2
  · have hlt : g < w.heap.size := (Array.getElem?_eq_some_iff.1 hh).1
    exact Or.inr ⟨g, cap, cur, hv, hg, by rw [hc.block g hlt (hF g (by rw [hv]; rfl))]; exact hh, r⟩
theorem own_block {w : World} {B : Nat} {v : Value} {l : List UInt8} (h : Own w B v l) {b : Nat} (hb : v.ownBlock = some b) : B ≤ b ∧ b < w.heap.size ∧ ∃ cur, w.heap[b]? = some (.cells cur 5 (0, 0)) := by
  obtain ⟨h1, ⟨rfl, _⟩ | ⟨g, cap, cur, rfl, hg, hh, r⟩⟩ := h
  · cases hb
  · simp only [Value.ownBlock, Option.some.injEq] at hb
    subst hb
    exact ⟨hg, (Array.getElem?_eq_some_iff.1 hh).1, cur, hh⟩
theorem own_form8 {w : World} {B : Nat} {v : Value} {l : List UInt8} (h : Own w B v l) : ∃ p c, v = .slice p l.length c := by
  obtain ⟨h1, ⟨rfl, h2⟩ | ⟨g, cap, cur, rfl, hg, hh, r⟩⟩ := h
  · rw [h2]
    exact ⟨none, 0, rfl⟩
  · exact ⟨_, _, rfl⟩
theorem wp_append_by {P : Program} {o : Oper} {a : Act} {w : World} {K : Act → World → Prop} {Q : Exit → Act → World → Prop} (s x : Operand) (t tx : TypeId)
    (ho : o.op = .call { callee := .builtin .append, args := #[s, x], argTypes := #[t, tx] })
    (base : Nat) (i : TypeInfo) (ht : P.underlying t = some (.slice 5)) (hi : P.info? 5 = some i) (hz : i.zero = some (.int .u8 0)) (hsize : i.size = 1) (hby : i.bytes = 1)
    (v : Value) (l : List UInt8) (hv : a.eval s = v) (hown : Own w base v l)
    (xv : Value) (m : List UInt8) (hx : a.eval x = xv) (hs : Src P 1 tx xv m.length (By m) w)
    (hbytes : l.length + m.length ≤ 140737488355328) (hbase : base ≤ w.heap.size)
    (h : ∀ v' w', Own w' base v' (l ++ m) → w.grownBy w' v.ownBlock → K (a.put o.dst v') w') : o.wp P a w K Q := by
  obtain ⟨v', w', hr, h2, h3⟩ := run_append_mine (P := P) w base t tx o.type 5 i (.int .u8 0) 1 1 ht hi hz hsize hby rfl v l.length (By l) hown xv m.length (By m) hs (by simp only [maxLen]; omega) (by omega) hbase
  unfold Oper.wp execOp
  simp only [ho, resolve, invoke, builtin, Sem.run_bind, Sem.run_pure, Result.andThen_ok, List.map_toArray, List.map_cons, List.map_nil, hv, hx, hr]
  refine h v' w' ?_ h3
  unfold Own
  rw [List.length_append, By_append]
  exact h2
theorem szB : ∀ W : World, (sizeOf 22).run Try.prog W = .ok 1 W := fun W => by kernel_rfl
/-- The blocks that putting may change: bytes and sinks, from B on. -/
def SkF (w : World) (B k : Nat) : Prop := B ≤ k ∧ ∃ cs T, (T = 77 ∨ T = 5) ∧ w.heap[k]? = some (.cells cs T (0, 0))
theorem SkF.trans {w w1 w2 : World} {B : Nat} (h : Chg (SkF w B) w w1) (k : Chg (SkF w1 B) w1 w2) : Chg (SkF w B) w w2 :=
  h.then k fun i hi hF => by
    by_cases hn : SkF w B i
    · exact hn
    · obtain ⟨h1, cs, T, hT, hc⟩ := hF
      rw [h.block i hi hn] at hc
      exact ⟨h1, cs, T, hT, hc⟩
theorem SkF.blk {w : World} {B b : Nat} {T : TypeId} {cs : List Value} (h : Blk w b T cs) (h1 : T ≠ 77) (h2 : T ≠ 5) : ¬ SkF w B b := by
  rintro ⟨_, cs', T', hT, hc⟩
  have h' : w.heap[b]? = some (.cells cs.toArray T (0, 0)) := h
  rw [h'] at hc
  simp only [Option.some.injEq, Obj.cells.injEq] at hc
  rcases hT with rfl | rfl
  · exact h1 hc.2.1
  · exact h2 hc.2.1
theorem Chg.sk {w w1 : World} {B b : Nat} {T : TypeId} {cs : List Value} (h : Chg (SkF w B) w w1) (hb : Blk w b T cs) (h1 : T ≠ 77) (h2 : T ≠ 5) : Blk w1 b T cs := hb.chg h (SkF.blk hb h1 h2)
theorem Chg.skBelow {w w1 : World} {B : Nat} (h : Chg (SkF w B) w w1) (hB : B ≤ w.heap.size) : Below B w w1 := h.below hB fun k hk e => by have := e.1; omega
/-- A sink: its block, what was put. -/
def Snk (w : World) (B D : Nat) (l : List UInt8) : Prop := ∃ v, Blk w D 77 [v] ∧ Own w B v l
theorem Snk.lt {w : World} {B D : Nat} {l : List UInt8} (h : Snk w B D l) : D < w.heap.size := by
  obtain ⟨v, hD, _⟩ := h
  exact hD.lt
theorem Snk.kept {w w' : World} {B D : Nat} {l : List UInt8} (h : Snk w B D l) (hb : Below w.heap.size w w') : Snk w' B D l := by
  obtain ⟨v, hD, ho⟩ := h
  exact ⟨v, hD.kept hb, ho.kept hb⟩
theorem Snk.ne {w : World} {B D : Nat} {v u : Value} {l : List UInt8} (hD : Blk w D 77 [u]) (ho : Own w B v l) : ¬ v.ownBlock = some D := fun e => by
  obtain ⟨_, _, cur, hc⟩ := own_block ho e
  have h' : w.heap[D]? = some (.cells [u].toArray 77 (0, 0)) := hD
  rw [h'] at hc
  cases hc
theorem snk_end {w w1 w2 : World} {B D : Nat} {v v9 : Value} {l l9 : List UInt8} (hB : B ≤ D) (hD : Blk w D 77 [v]) (ho : Own w B v l) (hc : Chg (fun k => v.ownBlock = some k) w w1) (o9 : Own w1 B v9 l9) (hb : Blk w2 D 77 [v9]) (hu : But D w1 w2) : Snk w2 B D l9 ∧ Chg (SkF w B) w w2 := by
  have hD1 : Blk w1 D 77 [v] := hD.chg hc (Snk.ne hD ho)
  have hs : Chg (fun k => k = D) w1 w2 := Chg.of_but hu rfl
  refine ⟨⟨v9, hb, own_chg o9 hs fun k hk e => Snk.ne hD1 o9 (e ▸ hk)⟩, (hc.mono fun k hk e => ?_).then hs fun i hi e => ?_⟩
  · obtain ⟨h1, _, cur, h3⟩ := own_block ho e
    exact ⟨h1, cur, 5, .inr rfl, h3⟩
  · subst e
    exact ⟨hB, _, _, .inl rfl, hD⟩
/-- A number in a cell. -/
def NE : Enc Nat := ⟨fun n => [.int .i64 (n : Int)], 1, fun _ => rfl, fun n u hu => by
  simp only [List.mem_cons, List.not_mem_nil, or_false] at hu
  subst hu
  rfl⟩
theorem wpSeq_val {P : Program} {o : Oper} {rest : List Oper} {a : Act} {w : World} {Q : Exit → Act → World → Prop} (hg : o.guard = none) (v : Value) (hrun : (execOp a.eval o).run P w = .ok (.value v) w) (h : wpSeq P Q rest (a.put o.dst v) w) : wpSeq P Q (o :: rest) a w := by
  refine ⟨hg, ?_⟩
  unfold Oper.wp
  rw [hrun]
  exact ⟨v, rfl, h⟩
theorem wpSeq_store_sl {P : Program} {o : Oper} {rest : List Oper} {a : Act} {w : World} {Q : Exit → Act → World → Prop} (hgd : o.guard = none) (ty : TypeId) (hso : ∀ W, (sizeOf ty).run P W = .ok 1 W) (x y : Operand) (ho : o.op = .store ty x y) (b j : Nat) (T : TypeId) (cs : List Value) (p : Option Addr) (n c : Nat)
    (hx : a.eval x = .pointer (some ⟨b, j, none⟩)) (hy : a.eval y = .slice p n c) (hB : Blk w b T cs) (hj : j < cs.length) (h : ∀ w', Blk w' b T (cs.set j (.slice p n c)) → But b w w' → wpSeq P Q rest (a.put o.dst undef) w') : wpSeq P Q (o :: rest) a w := by
  have hc := hB.cell (j := j) (v := cs[j]) (List.getElem?_eq_getElem hj)
  have hf := hB.frozen j
  have hrun : (execOp a.eval o).run P w = .ok .skip (w.setCell ⟨b, j, none⟩ (.slice p n c)) := by
    simp only [execOp, ho, hx, hy]
    go_simp
  refine ⟨hgd, ?_⟩
  unfold Oper.wp
  rw [hrun]
  exact ⟨undef, rfl, h _ (hB.set j (.slice p n c)) (But.setCell b w j _)⟩
set_option maxHeartbeats 2000000 in
set_option maxRecDepth 100000 in
theorem jflag_any {w : World} {B D : Nat} {L0 : List UInt8} (h : Snk w B D L0) (hB : B ≤ D) (hl : L0.length ≤ 100000000) (f : Bool) : Calls Try.prog 53 #[PT D, .bool f] w fun e w' => e = .returned (.tuple #[]) ∧ Snk w' B D (L0 ++ (fl f)) ∧ Chg (SkF w B) w w' := by
  obtain ⟨v, hD, ho⟩ := h
  obtain ⟨p, c, rfl⟩ := own_form8 ho
  obtain ⟨n, Hn⟩ : ∃ n, Hid (L0.length = n) := ⟨_, rfl⟩
  rw [Hn.out] at hD ho
  obtain ⟨N, HN⟩ : ∃ N, Hid (w.heap.size = N) := ⟨_, rfl⟩
  have HD := hide hD
  have HO := hide ho
  have HDN : Hid (¬ (Value.slice p n c).ownBlock = some D) := (show ¬ _ from Snk.ne hD ho)
  have HNE : Hid (∀ k, N ≤ k → ¬ (Value.slice p n c).ownBlock = some k) := (show ∀ k, _ from fun k hk e => by have := (own_block ho e).2.1; rw [HN.out] at this; omega)
  have HBW : Hid (B ≤ w.heap.size) := (show _ ≤ _ from Nat.le_trans hB (Nat.le_of_lt hD.lt))
  obtain ⟨i0, hi, hz0, hz1, hz2⟩ := info_parts Try.info5S
  clear hD ho
  have HLL : Hid (L0.length + (fl f).length ≤ 140737488355328) := (show _ ≤ _ by simp [fl]; omega)
  have HCF : Hid (∀ W : World, w.heap.size ≤ W.heap.size → Calls Try.prog 70 #[.slice none 0 0, .bool f] W fun e w' => ∃ v', e = .returned v' ∧ Own w' W.heap.size v' (fl f) ∧ Below W.heap.size W w') := (show ∀ W : World, _ from fun W _ => flag_any (.slice none 0 0) [] f W (Rd_nil W) (by simp))
  go_enter Try.func53, Try.ntmps53
  refine wp_region_chainR (R := Chg (fun k => (Value.slice p n c).ownBlock = some k)) Try.mixed (KC (fun i_ => match i_ with | 0 | 1 | 2 | 3 | 8 | 9 => .val (PT D) | 4 => .val (.slice p n c) | 5 => .val (.bool f) | 6 => .of (relChg _) (fun W x => Own W N x ((fl f))) (fun _ _ _ hr h => own_chg h hr (fun k hk e => HNE.out k (own_block h hk).1 e)) | 7 => .last (fun W x => ∃ p9 n9 c9, x = .slice p9 n9 c9 ∧ Own W B x (L0 ++ (fl f))) (fun _ _ _ hg ⟨p9, n9, c9, e, h⟩ => ⟨p9, n9, c9, e, h.kept hg⟩) | _ => .free)) (fun b_ w_ => Chg (fun k => (Value.slice p n c).ownBlock = some k) w w_ ∧ (b_ = 0 → Own w_ B (.slice p n c) L0)) [7] 14 rfl (by decide +kernel) 10 (by decide) (by decide) (by decide) (by decide +kernel) (by decide +kernel) (KC_mono _) (KC_monoR (fun i_ h_ => (by split <;> first | rfl | exact absurd rfl h_))) (fun b_ w_ w_2 hg h => ⟨h.1.trans (Chg.of_below hg), fun e => (h.2 e).kept hg⟩) (⟨Chg.refl _ _, fun _ => HO.out⟩) ?_ ?_
  · refine AllFrom.cons ⟨rfl, fun _ a' b' w' hC hk hd Q => ?_, fun j_ hj_ => (pvR_no (by decide) j_ hj_).elim⟩ (AllFrom.cons ⟨rfl, fun _ a' b' w' hC hk hd Q => ?_, fun j_ hj_ => (pvR_no (by decide) j_ hj_).elim⟩ (AllFrom.cons ⟨rfl, fun _ a' b' w' hC hk hd Q => ?_, fun j_ hj_ => (pvR_no (by decide) j_ hj_).elim⟩ (AllFrom.cons ⟨rfl, fun _ a' b' w' hC hk hd Q => ?_, fun j_ hj_ => (pvR_no (by decide) j_ hj_).elim⟩ (AllFrom.cons ⟨rfl, fun _ a' b' w' hC hk hd Q => ?_, fun j_ hj_ => (pvR_no (by decide) j_ hj_).elim⟩ (AllFrom.cons ⟨rfl, fun _ a' b' w' hC hk hd Q => ?_, fun j_ hj_ => (pvR_no (by decide) j_ hj_).elim⟩ (AllFrom.cons ⟨rfl, fun _ a' b' w' hC hk hd Q => ?_, fun j_ hj_ => (pvR_no (by decide) j_ hj_).elim⟩ (AllFrom.cons ⟨rfl, fun h => absurd (by decide) h, fun j_ hj_ a' w' hC hk hd Q => ?_⟩ (AllFrom.cons ⟨rfl, fun _ a' b' w' hC hk hd Q => ?_, fun j_ hj_ => (pvR_no (by decide) j_ hj_).elim⟩ (AllFrom.cons ⟨rfl, fun _ a' b' w' hC hk hd Q => ?_, fun j_ hj_ => (pvR_no (by decide) j_ hj_).elim⟩ AllFrom.nil)))))))))
    · skip
      have e0 : a'.eval (.tmp 0) = PT D := hk.at 0 (by decide +kernel)
      exact wp_value _ (by simp only [execOp, e0]; rfl) (KC_mkv rfl rfl)
    · skip
      have e0 : a'.eval (.tmp 0) = PT D := hk.at 0 (by decide +kernel)
      exact wp_value _ (by simp only [execOp, e0]; rfl) (KC_mkv rfl rfl)
    · skip
      have e5 : a'.eval (.tmp 5) = PT D := KC_val (hd.val 1 5 (by decide +kernel)) rfl
      clear hd hk
      exact wp_value (PT D) (by simp only [execOp, e5]; go_simp) (KC_mkv rfl rfl)
    · skip
      have e6 : a'.eval (.tmp 6) = PT D := KC_val (hd.val 2 6 (by decide +kernel)) rfl
      clear hd hk
      exact wp_value (PT D) (by simp only [execOp, e6]; go_simp) (KC_mkv rfl rfl)
    · skip
      have e7 : a'.eval (.tmp 7) = PT D := KC_val (hd.val 3 7 (by decide +kernel)) rfl
      have hc := (HD.out.chg hC.1 HDN.out).cell (j := 0) rfl
      clear hd hk
      exact wp_value (.slice p n c) (by simp only [execOp, e7]; go_simp) (KC_mkv rfl rfl)
    · skip
      have e1 : a'.eval (.tmp 1) = .bool f := hk.at 1 (by decide +kernel)
      exact wp_value _ (by simp only [execOp, e1]; rfl) (KC_mkv rfl rfl)
    · skip
      have e9 : a'.eval (.tmp 9) = .bool f := KC_val (hd.val 5 9 (by decide +kernel)) rfl
      refine wp_call 70 _ (run_enter 70 _ _ rfl (by kernel_rfl)) ?_
      simp only [List.map_toArray, List.map_nil, List.map_cons, e9]
      refine (HCF.out w' hC.1.size).mono ?_
      rintro e w5 ⟨v5, rfl, o5, b5⟩
      exact ⟨v5, rfl, KC_mko rfl (o5.mono (by rw [← HN.out]; exact hC.1.size)), b5⟩
    · skip
      obtain rfl : j_ = 0 := pvR_at (by decide) rfl hj_
      have e8 : a'.eval (.tmp 8) = .slice p n c := KC_val (hd.val 4 8 (by decide +kernel)) rfl
      have r10 := KC_of (hd.val 6 10 (by decide +kernel)) rfl
      refine wp_append_by (.tmp 8) (.tmp 10) 22 22 rfl B i0 Try.underlying22 hi hz0 hz1 hz2 (.slice p n c) L0 e8 (hC.2 rfl) _ ((fl f)) rfl (r10.rd.src 22 Try.underlying22) HLL.out (Nat.le_trans HBW.out hC.1.size) ?_
      intro v4 w4 o4 g4
      obtain ⟨p9, c9, hv9⟩ := own_form8 o4
      exact ⟨v4, rfl, KC_mkl rfl ⟨p9, _, c9, hv9, o4⟩, Chg.of_grown g4 (fun k e _ => e), hC.1.trans (Chg.of_grown g4 (fun k e _ => e)), fun h => absurd h (by decide)⟩
    · skip
      have e4 : a'.eval (.tmp 4) = PT D := KC_val (hd.val 0 4 (by decide +kernel)) rfl
      clear hd hk
      exact wp_value (PT D) (by simp only [execOp, e4]; go_simp) (KC_mkv rfl rfl)
    · skip
      have e12 : a'.eval (.tmp 12) = PT D := KC_val (hd.val 8 12 (by decide +kernel)) rfl
      clear hd hk
      exact wp_value (PT D) (by simp only [execOp, e12]; go_simp) (KC_mkv rfl rfl)
  · intro a' w1 hsz hdf hk hall hC
    have L1 := hide hC.1
    clear hC
    have e4 : a'.eval (.tmp 4) = PT D := KC_val (hall 0 _ 4 (by decide) rfl rfl) rfl
    have e5 : a'.eval (.tmp 5) = PT D := KC_val (hall 1 _ 5 (by decide) rfl rfl) rfl
    have e6 : a'.eval (.tmp 6) = PT D := KC_val (hall 2 _ 6 (by decide) rfl rfl) rfl
    have e7 : a'.eval (.tmp 7) = PT D := KC_val (hall 3 _ 7 (by decide) rfl rfl) rfl
    have e8 : a'.eval (.tmp 8) = .slice p n c := KC_val (hall 4 _ 8 (by decide) rfl rfl) rfl
    have e9 : a'.eval (.tmp 9) = .bool f := KC_val (hall 5 _ 9 (by decide) rfl rfl) rfl
    have r10 := KC_of (hall 6 _ 10 (by decide) rfl rfl) rfl
    obtain ⟨x10, hx10⟩ : ∃ v, a'.eval (.tmp 10) = v := ⟨_, rfl⟩
    rw [hx10] at r10
    have r11 := KC_last (hall 7 _ 11 (by decide) rfl rfl) rfl
    obtain ⟨x11, hx11⟩ : ∃ v, a'.eval (.tmp 11) = v := ⟨_, rfl⟩
    rw [hx11] at r11
    have e12 : a'.eval (.tmp 12) = PT D := KC_val (hall 8 _ 12 (by decide) rfl rfl) rfl
    have e13 : a'.eval (.tmp 13) = PT D := KC_val (hall 9 _ 13 (by decide) rfl rfl) rfl
    have ha := act_puts 14 rfl hsz hdf hk [4, 5, 6, 7, 8, 9, 10, 11, 12, 13] (by decide +kernel)
    simp only [puts, List.foldl_cons, List.foldl_nil, e4, e5, e6, e7, e8, e9, hx10, hx11, e12, e13] at ha
    simp only [Act.put, List.setIfInBounds_toArray, List.set_cons_succ, List.set_cons_zero] at ha
    clear hall hk hsz hdf e4 e5 e6 e7 e8 e9 hx10 hx11 e12 e13
    subst ha
    obtain ⟨p9, n9, c9, e9, o9⟩ := r11
    subst e9
    refine wpSeq_store_sl rfl 22 szB _ _ rfl D 0 77 [.slice p n c] _ _ _ rfl rfl (HD.out.chg L1.out HDN.out) (by simp) ?_
    intro w2 hb2 hu2
    have HE := hide (snk_end hB HD.out HO.out L1.out o9 hb2 hu2)
    simp only [wpSeq]
    clear hb2 hu2 o9 r10
    go_end0
    exact ⟨rfl, HE.out⟩
#print axioms jflag_any
set_option maxHeartbeats 2000000 in
set_option maxRecDepth 100000 in
theorem jstr_any {w : World} {B D : Nat} {L0 : List UInt8} (h : Snk w B D L0) (hB : B ≤ D) (hl : L0.length ≤ 100000000) (s : ByteArray) (hs : s.size ≤ 1000000) : Calls Try.prog 71 #[PT D, .string s] w fun e w' => e = .returned (.tuple #[]) ∧ Snk w' B D (L0 ++ (eS s)) ∧ Chg (SkF w B) w w' := by
  obtain ⟨v, hD, ho⟩ := h
  obtain ⟨p, c, rfl⟩ := own_form8 ho
  obtain ⟨n, Hn⟩ : ∃ n, Hid (L0.length = n) := ⟨_, rfl⟩
  rw [Hn.out] at hD ho
  obtain ⟨N, HN⟩ : ∃ N, Hid (w.heap.size = N) := ⟨_, rfl⟩
  have HD := hide hD
  have HO := hide ho
  have HDN : Hid (¬ (Value.slice p n c).ownBlock = some D) := (show ¬ _ from Snk.ne hD ho)
  have HNE : Hid (∀ k, N ≤ k → ¬ (Value.slice p n c).ownBlock = some k) := (show ∀ k, _ from fun k hk e => by have := (own_block ho e).2.1; rw [HN.out] at this; omega)
  have HBW : Hid (B ≤ w.heap.size) := (show _ ≤ _ from Nat.le_trans hB (Nat.le_of_lt hD.lt))
  obtain ⟨i0, hi, hz0, hz1, hz2⟩ := info_parts Try.info5S
  clear hD ho
  have HLL : Hid (L0.length + (eS s).length ≤ 140737488355328) := (show _ ≤ _ by have := eS_length s; omega)
  have HCF : Hid (∀ W : World, w.heap.size ≤ W.heap.size → Calls Try.prog 79 #[.slice none 0 0, .string s] W fun e w' => ∃ v', e = .returned v' ∧ Own w' W.heap.size v' (eS s) ∧ Below W.heap.size W w') := (show ∀ W : World, _ from fun W _ => str_any (.slice none 0 0) [] s W (Rd_nil W) (by simp; omega))
  go_enter Try.func71, Try.ntmps71
  refine wp_region_chainR (R := Chg (fun k => (Value.slice p n c).ownBlock = some k)) Try.mixed (KC (fun i_ => match i_ with | 0 | 1 | 2 | 3 | 8 | 9 => .val (PT D) | 4 => .val (.slice p n c) | 5 => .val (.string s) | 6 => .of (relChg _) (fun W x => Own W N x ((eS s))) (fun _ _ _ hr h => own_chg h hr (fun k hk e => HNE.out k (own_block h hk).1 e)) | 7 => .last (fun W x => ∃ p9 n9 c9, x = .slice p9 n9 c9 ∧ Own W B x (L0 ++ (eS s))) (fun _ _ _ hg ⟨p9, n9, c9, e, h⟩ => ⟨p9, n9, c9, e, h.kept hg⟩) | _ => .free)) (fun b_ w_ => Chg (fun k => (Value.slice p n c).ownBlock = some k) w w_ ∧ (b_ = 0 → Own w_ B (.slice p n c) L0)) [7] 14 rfl (by decide +kernel) 10 (by decide) (by decide) (by decide) (by decide +kernel) (by decide +kernel) (KC_mono _) (KC_monoR (fun i_ h_ => (by split <;> first | rfl | exact absurd rfl h_))) (fun b_ w_ w_2 hg h => ⟨h.1.trans (Chg.of_below hg), fun e => (h.2 e).kept hg⟩) (⟨Chg.refl _ _, fun _ => HO.out⟩) ?_ ?_
  · refine AllFrom.cons ⟨rfl, fun _ a' b' w' hC hk hd Q => ?_, fun j_ hj_ => (pvR_no (by decide) j_ hj_).elim⟩ (AllFrom.cons ⟨rfl, fun _ a' b' w' hC hk hd Q => ?_, fun j_ hj_ => (pvR_no (by decide) j_ hj_).elim⟩ (AllFrom.cons ⟨rfl, fun _ a' b' w' hC hk hd Q => ?_, fun j_ hj_ => (pvR_no (by decide) j_ hj_).elim⟩ (AllFrom.cons ⟨rfl, fun _ a' b' w' hC hk hd Q => ?_, fun j_ hj_ => (pvR_no (by decide) j_ hj_).elim⟩ (AllFrom.cons ⟨rfl, fun _ a' b' w' hC hk hd Q => ?_, fun j_ hj_ => (pvR_no (by decide) j_ hj_).elim⟩ (AllFrom.cons ⟨rfl, fun _ a' b' w' hC hk hd Q => ?_, fun j_ hj_ => (pvR_no (by decide) j_ hj_).elim⟩ (AllFrom.cons ⟨rfl, fun _ a' b' w' hC hk hd Q => ?_, fun j_ hj_ => (pvR_no (by decide) j_ hj_).elim⟩ (AllFrom.cons ⟨rfl, fun h => absurd (by decide) h, fun j_ hj_ a' w' hC hk hd Q => ?_⟩ (AllFrom.cons ⟨rfl, fun _ a' b' w' hC hk hd Q => ?_, fun j_ hj_ => (pvR_no (by decide) j_ hj_).elim⟩ (AllFrom.cons ⟨rfl, fun _ a' b' w' hC hk hd Q => ?_, fun j_ hj_ => (pvR_no (by decide) j_ hj_).elim⟩ AllFrom.nil)))))))))
    · skip
      have e0 : a'.eval (.tmp 0) = PT D := hk.at 0 (by decide +kernel)
      exact wp_value _ (by simp only [execOp, e0]; rfl) (KC_mkv rfl rfl)
    · skip
      have e0 : a'.eval (.tmp 0) = PT D := hk.at 0 (by decide +kernel)
      exact wp_value _ (by simp only [execOp, e0]; rfl) (KC_mkv rfl rfl)
    · skip
      have e5 : a'.eval (.tmp 5) = PT D := KC_val (hd.val 1 5 (by decide +kernel)) rfl
      clear hd hk
      exact wp_value (PT D) (by simp only [execOp, e5]; go_simp) (KC_mkv rfl rfl)
    · skip
      have e6 : a'.eval (.tmp 6) = PT D := KC_val (hd.val 2 6 (by decide +kernel)) rfl
      clear hd hk
      exact wp_value (PT D) (by simp only [execOp, e6]; go_simp) (KC_mkv rfl rfl)
    · skip
      have e7 : a'.eval (.tmp 7) = PT D := KC_val (hd.val 3 7 (by decide +kernel)) rfl
      have hc := (HD.out.chg hC.1 HDN.out).cell (j := 0) rfl
      clear hd hk
      exact wp_value (.slice p n c) (by simp only [execOp, e7]; go_simp) (KC_mkv rfl rfl)
    · skip
      have e1 : a'.eval (.tmp 1) = .string s := hk.at 1 (by decide +kernel)
      exact wp_value _ (by simp only [execOp, e1]; rfl) (KC_mkv rfl rfl)
    · skip
      have e9 : a'.eval (.tmp 9) = .string s := KC_val (hd.val 5 9 (by decide +kernel)) rfl
      refine wp_call 79 _ (run_enter 79 _ _ rfl (by kernel_rfl)) ?_
      simp only [List.map_toArray, List.map_nil, List.map_cons, e9]
      refine (HCF.out w' hC.1.size).mono ?_
      rintro e w5 ⟨v5, rfl, o5, b5⟩
      exact ⟨v5, rfl, KC_mko rfl (o5.mono (by rw [← HN.out]; exact hC.1.size)), b5⟩
    · skip
      obtain rfl : j_ = 0 := pvR_at (by decide) rfl hj_
      have e8 : a'.eval (.tmp 8) = .slice p n c := KC_val (hd.val 4 8 (by decide +kernel)) rfl
      have r10 := KC_of (hd.val 6 10 (by decide +kernel)) rfl
      refine wp_append_by (.tmp 8) (.tmp 10) 22 22 rfl B i0 Try.underlying22 hi hz0 hz1 hz2 (.slice p n c) L0 e8 (hC.2 rfl) _ ((eS s)) rfl (r10.rd.src 22 Try.underlying22) HLL.out (Nat.le_trans HBW.out hC.1.size) ?_
      intro v4 w4 o4 g4
      obtain ⟨p9, c9, hv9⟩ := own_form8 o4
      exact ⟨v4, rfl, KC_mkl rfl ⟨p9, _, c9, hv9, o4⟩, Chg.of_grown g4 (fun k e _ => e), hC.1.trans (Chg.of_grown g4 (fun k e _ => e)), fun h => absurd h (by decide)⟩
    · skip
      have e4 : a'.eval (.tmp 4) = PT D := KC_val (hd.val 0 4 (by decide +kernel)) rfl
      clear hd hk
      exact wp_value (PT D) (by simp only [execOp, e4]; go_simp) (KC_mkv rfl rfl)
    · skip
      have e12 : a'.eval (.tmp 12) = PT D := KC_val (hd.val 8 12 (by decide +kernel)) rfl
      clear hd hk
      exact wp_value (PT D) (by simp only [execOp, e12]; go_simp) (KC_mkv rfl rfl)
  · intro a' w1 hsz hdf hk hall hC
    have L1 := hide hC.1
    clear hC
    have e4 : a'.eval (.tmp 4) = PT D := KC_val (hall 0 _ 4 (by decide) rfl rfl) rfl
    have e5 : a'.eval (.tmp 5) = PT D := KC_val (hall 1 _ 5 (by decide) rfl rfl) rfl
    have e6 : a'.eval (.tmp 6) = PT D := KC_val (hall 2 _ 6 (by decide) rfl rfl) rfl
    have e7 : a'.eval (.tmp 7) = PT D := KC_val (hall 3 _ 7 (by decide) rfl rfl) rfl
    have e8 : a'.eval (.tmp 8) = .slice p n c := KC_val (hall 4 _ 8 (by decide) rfl rfl) rfl
    have e9 : a'.eval (.tmp 9) = .string s := KC_val (hall 5 _ 9 (by decide) rfl rfl) rfl
    have r10 := KC_of (hall 6 _ 10 (by decide) rfl rfl) rfl
    obtain ⟨x10, hx10⟩ : ∃ v, a'.eval (.tmp 10) = v := ⟨_, rfl⟩
    rw [hx10] at r10
    have r11 := KC_last (hall 7 _ 11 (by decide) rfl rfl) rfl
    obtain ⟨x11, hx11⟩ : ∃ v, a'.eval (.tmp 11) = v := ⟨_, rfl⟩
    rw [hx11] at r11
    have e12 : a'.eval (.tmp 12) = PT D := KC_val (hall 8 _ 12 (by decide) rfl rfl) rfl
    have e13 : a'.eval (.tmp 13) = PT D := KC_val (hall 9 _ 13 (by decide) rfl rfl) rfl
    have ha := act_puts 14 rfl hsz hdf hk [4, 5, 6, 7, 8, 9, 10, 11, 12, 13] (by decide +kernel)
    simp only [puts, List.foldl_cons, List.foldl_nil, e4, e5, e6, e7, e8, e9, hx10, hx11, e12, e13] at ha
    simp only [Act.put, List.setIfInBounds_toArray, List.set_cons_succ, List.set_cons_zero] at ha
    clear hall hk hsz hdf e4 e5 e6 e7 e8 e9 hx10 hx11 e12 e13
    subst ha
    obtain ⟨p9, n9, c9, e9, o9⟩ := r11
    subst e9
    refine wpSeq_store_sl rfl 22 szB _ _ rfl D 0 77 [.slice p n c] _ _ _ rfl rfl (HD.out.chg L1.out HDN.out) (by simp) ?_
    intro w2 hb2 hu2
    have HE := hide (snk_end hB HD.out HO.out L1.out o9 hb2 hu2)
    simp only [wpSeq]
    clear hb2 hu2 o9 r10
    go_end0
    exact ⟨rfl, HE.out⟩
#print axioms jstr_any
set_option maxHeartbeats 2000000 in
set_option maxRecDepth 100000 in
theorem jnums_any {w : World} {B D : Nat} {l : List UInt8} (h : Snk w B D l) (hB : B ≤ D) (hl : l.length ≤ 100000000) {g : Nat} {ns : List Nat} (hg : Blk w g 3 (ns.map fun n : Nat => Value.int .i64 (n : Int))) (hns : ∀ n ∈ ns, n ≤ 1099511627776) (hk : ns.length ≤ 2) {k : Nat} (hkn : ns.length = k) :
    Calls Try.prog 52 #[PT D, .slice (some ⟨g, 0, none⟩) k k] w fun e w' => e = .returned (.tuple #[]) ∧ Snk w' B D (l ++ ns.flatMap enc) ∧ Chg (SkF w B) w w' := by
  have HG := hide hg
  have HNS := hide hns
  have HKN := hide hkn
  have HLB := hide hl
  have S0 : Hid (Snk w B D (l ++ (ns.take 0).flatMap enc)) := (show Snk _ _ _ _ by simpa using h)
  have C0 : Hid (Chg (SkF w B) w w) := (show Chg _ _ _ from Chg.refl _ _)
  have hk2 : k ≤ 2 := by omega
  clear h hg hns hk hkn hl
  go_enter Try.func52, Try.ntmps52
  go_wp2_with fail
  go_loopg [8] (k + 1) (fun g_ x wr => ∃ (i : Nat), i ≤ k ∧ g_ + i = k + 1 ∧ x = .int .i64 (i : Int) ∧ Hid (Snk wr B D (l ++ (ns.take i).flatMap enc)) ∧ Hid (Chg (SkF w B) w wr))
  case atStart => exact ⟨0, Nat.zero_le _, by omega, rfl, S0, C0⟩
  case round =>
    clear S0 C0
    obtain ⟨i, hi, hg, rfl, SR, CR⟩ := hrel
    by_cases hlt : i < k
    · have hlt' : (i : Int) < (k : Int) := by omega
      have hlt2 : i < ns.length := by rw [HKN.out]; exact hlt
      obtain ⟨m, Hm⟩ : ∃ m, Hid (ns[i] = m) := ⟨ns[i], (show ns[i] = ns[i] from rfl)⟩
      have hm := HNS.out _ (List.getElem_mem hlt2)
      rw [Hm.out] at hm
      have dm : wr.cell? ⟨g, i, none⟩ = some (.int .i64 (m : Int)) := (CR.out.sk HG.out (by decide) (by decide)).cell (j := i) (by rw [List.getElem?_map, List.getElem?_eq_getElem hlt2, Hm.out]; rfl)
      have HT : Hid ((ns.take (i + 1)).flatMap enc = (ns.take i).flatMap enc ++ enc m) := (show _ = _ by rw [List.take_succ_eq_append_getElem hlt2, Hm.out, List.flatMap_append]; simp)
      have HTL : Hid (((ns.take i).flatMap enc).length ≤ 18) := (show _ ≤ _ by
        have h1 := fm_length (e := enc) (B := 9) (l := ns.take i) (fun x _ => (enc_length x).2)
        rw [List.length_take] at h1
        have : min i ns.length * 9 ≤ 2 * 9 := Nat.mul_le_mul_right _ (by omega)
        omega)
      obtain ⟨L0, HL0⟩ : ∃ z, Hid (l ++ (ns.take i).flatMap enc = z) := ⟨_, rfl⟩
      have SR' := SR.out
      rw [HL0.out] at SR'
      have hl0 : L0.length ≤ 100000018 := by rw [← HL0.out, List.length_append]; have := HLB.out; have := HTL.out; omega
      have HWM : Hid (IntKind.u64.wrap (m : Int) = (m : Int)) := (show _ = _ by rw [IntKind.wrap_u64]; omega)
      clear SR
      go_upto_region 3 with fail
      try simp only [Act.put]
      clear dm
      obtain ⟨v, hD, ho⟩ := SR'
      obtain ⟨p, c, rfl⟩ := own_form8 ho
      obtain ⟨n, Hn⟩ : ∃ n, Hid (L0.length = n) := ⟨_, rfl⟩
      rw [Hn.out] at hD ho
      obtain ⟨N, HN⟩ : ∃ N, Hid (wr.heap.size = N) := ⟨_, rfl⟩
      have HD := hide hD
      have HO := hide ho
      have HDN : Hid (¬ (Value.slice p n c).ownBlock = some D) := (show ¬ _ from Snk.ne hD ho)
      have HNE : Hid (∀ k, N ≤ k → ¬ (Value.slice p n c).ownBlock = some k) := (show ∀ k, _ from fun k hk e => by have := (own_block ho e).2.1; rw [HN.out] at this; omega)
      have HBW : Hid (B ≤ wr.heap.size) := (show _ ≤ _ from Nat.le_trans hB (Nat.le_of_lt hD.lt))
      obtain ⟨i0, hi, hz0, hz1, hz2⟩ := info_parts Try.info5S
      clear hD ho
      have HLL : Hid (L0.length + (enc m).length ≤ 140737488355328) := (show _ ≤ _ by have := enc_length m; omega)
      have HCF : Hid (∀ W : World, wr.heap.size ≤ W.heap.size → Calls Try.prog 69 #[.slice none 0 0, .int .u64 (m : Int)] W fun e w' => ∃ v', e = .returned v' ∧ Own w' W.heap.size v' (enc m) ∧ Below W.heap.size W w') := (show ∀ W : World, _ from fun W _ => num_any (.slice none 0 0) [] m W (Rd_nil W) (show m < 256 ^ 8 by rw [p8]; omega) (by simp))
      refine wp_region_chainR (R := Chg (fun k => (Value.slice p n c).ownBlock = some k)) Try.mixed (KC (fun i_ => match i_ with | 0 | 1 | 2 | 3 | 9 | 10 => .val (PT D) | 4 => .val (.slice p n c) | 5 => .val (.int .i64 (m : Int)) | 6 => .val (.int .u64 (m : Int)) | 7 => .of (relChg _) (fun W x => Own W N x ((enc m))) (fun _ _ _ hr h => own_chg h hr (fun k hk e => HNE.out k (own_block h hk).1 e)) | 8 => .last (fun W x => ∃ p9 n9 c9, x = .slice p9 n9 c9 ∧ Own W B x (L0 ++ (enc m))) (fun _ _ _ hg ⟨p9, n9, c9, e, h⟩ => ⟨p9, n9, c9, e, h.kept hg⟩) | _ => .free)) (fun b_ w_ => Chg (fun k => (Value.slice p n c).ownBlock = some k) wr w_ ∧ (b_ = 0 → Own w_ B (.slice p n c) L0)) [8] 24 rfl (by decide +kernel) 11 (by decide) (by decide) (by decide) (by decide +kernel) (by decide +kernel) (KC_mono _) (KC_monoR (fun i_ h_ => (by split <;> first | rfl | exact absurd rfl h_))) (fun b_ w_ w_2 hg h => ⟨h.1.trans (Chg.of_below hg), fun e => (h.2 e).kept hg⟩) (⟨Chg.refl _ _, fun _ => HO.out⟩) ?_ ?_
      · refine AllFrom.cons ⟨rfl, fun _ a' b' w' hC hk hd Q => ?_, fun j_ hj_ => (pvR_no (by decide) j_ hj_).elim⟩ (AllFrom.cons ⟨rfl, fun _ a' b' w' hC hk hd Q => ?_, fun j_ hj_ => (pvR_no (by decide) j_ hj_).elim⟩ (AllFrom.cons ⟨rfl, fun _ a' b' w' hC hk hd Q => ?_, fun j_ hj_ => (pvR_no (by decide) j_ hj_).elim⟩ (AllFrom.cons ⟨rfl, fun _ a' b' w' hC hk hd Q => ?_, fun j_ hj_ => (pvR_no (by decide) j_ hj_).elim⟩ (AllFrom.cons ⟨rfl, fun _ a' b' w' hC hk hd Q => ?_, fun j_ hj_ => (pvR_no (by decide) j_ hj_).elim⟩ (AllFrom.cons ⟨rfl, fun _ a' b' w' hC hk hd Q => ?_, fun j_ hj_ => (pvR_no (by decide) j_ hj_).elim⟩ (AllFrom.cons ⟨rfl, fun _ a' b' w' hC hk hd Q => ?_, fun j_ hj_ => (pvR_no (by decide) j_ hj_).elim⟩ (AllFrom.cons ⟨rfl, fun _ a' b' w' hC hk hd Q => ?_, fun j_ hj_ => (pvR_no (by decide) j_ hj_).elim⟩ (AllFrom.cons ⟨rfl, fun h => absurd (by decide) h, fun j_ hj_ a' w' hC hk hd Q => ?_⟩ (AllFrom.cons ⟨rfl, fun _ a' b' w' hC hk hd Q => ?_, fun j_ hj_ => (pvR_no (by decide) j_ hj_).elim⟩ (AllFrom.cons ⟨rfl, fun _ a' b' w' hC hk hd Q => ?_, fun j_ hj_ => (pvR_no (by decide) j_ hj_).elim⟩ AllFrom.nil))))))))))
        · skip
          have e0 : a'.eval (.tmp 0) = PT D := hk.at 0 (by decide +kernel)
          exact wp_value _ (by simp only [execOp, e0]; rfl) (KC_mkv rfl rfl)
        · skip
          have e0 : a'.eval (.tmp 0) = PT D := hk.at 0 (by decide +kernel)
          exact wp_value _ (by simp only [execOp, e0]; rfl) (KC_mkv rfl rfl)
        · skip
          have e13 : a'.eval (.tmp 13) = PT D := KC_val (hd.val 1 13 (by decide +kernel)) rfl
          clear hd hk
          exact wp_value (PT D) (by simp only [execOp, e13]; go_simp) (KC_mkv rfl rfl)
        · skip
          have e14 : a'.eval (.tmp 14) = PT D := KC_val (hd.val 2 14 (by decide +kernel)) rfl
          clear hd hk
          exact wp_value (PT D) (by simp only [execOp, e14]; go_simp) (KC_mkv rfl rfl)
        · skip
          have e15 : a'.eval (.tmp 15) = PT D := KC_val (hd.val 3 15 (by decide +kernel)) rfl
          have hc := (HD.out.chg hC.1 HDN.out).cell (j := 0) rfl
          clear hd hk
          exact wp_value (.slice p n c) (by simp only [execOp, e15]; go_simp) (KC_mkv rfl rfl)
        · skip
          have e5 : a'.eval (.tmp 5) = .int .i64 (m : Int) := hk.at 5 (by decide +kernel)
          exact wp_value _ (by simp only [execOp, e5]; rfl) (KC_mkv rfl rfl)
        · skip
          have e17 : a'.eval (.tmp 17) = .int .i64 (m : Int) := KC_val (hd.val 5 17 (by decide +kernel)) rfl
          have hw9 := HWM.out
          clear hd hk
          exact wp_value (.int .u64 (m : Int)) (by simp only [execOp, e17]; go_simp) (KC_mkv rfl rfl)
        · skip
          have e18 : a'.eval (.tmp 18) = .int .u64 (m : Int) := KC_val (hd.val 6 18 (by decide +kernel)) rfl
          refine wp_call 69 _ (run_enter 69 _ _ rfl (by kernel_rfl)) ?_
          simp only [List.map_toArray, List.map_nil, List.map_cons, e18]
          refine (HCF.out w' hC.1.size).mono ?_
          rintro e w5 ⟨v5, rfl, o5, b5⟩
          exact ⟨v5, rfl, KC_mko rfl (o5.mono (by rw [← HN.out]; exact hC.1.size)), b5⟩
        · skip
          obtain rfl : j_ = 0 := pvR_at (by decide) rfl hj_
          have e16 : a'.eval (.tmp 16) = .slice p n c := KC_val (hd.val 4 16 (by decide +kernel)) rfl
          have r19 := KC_of (hd.val 7 19 (by decide +kernel)) rfl
          refine wp_append_by (.tmp 16) (.tmp 19) 22 22 rfl B i0 Try.underlying22 hi hz0 hz1 hz2 (.slice p n c) L0 e16 (hC.2 rfl) _ ((enc m)) rfl (r19.rd.src 22 Try.underlying22) HLL.out (Nat.le_trans HBW.out hC.1.size) ?_
          intro v4 w4 o4 g4
          obtain ⟨p9, c9, hv9⟩ := own_form8 o4
          exact ⟨v4, rfl, KC_mkl rfl ⟨p9, _, c9, hv9, o4⟩, Chg.of_grown g4 (fun k e _ => e), hC.1.trans (Chg.of_grown g4 (fun k e _ => e)), fun h => absurd h (by decide)⟩
        · skip
          have e12 : a'.eval (.tmp 12) = PT D := KC_val (hd.val 0 12 (by decide +kernel)) rfl
          clear hd hk
          exact wp_value (PT D) (by simp only [execOp, e12]; go_simp) (KC_mkv rfl rfl)
        · skip
          have e21 : a'.eval (.tmp 21) = PT D := KC_val (hd.val 9 21 (by decide +kernel)) rfl
          clear hd hk
          exact wp_value (PT D) (by simp only [execOp, e21]; go_simp) (KC_mkv rfl rfl)
      · intro a' w1 hsz hdf hk hall hC
        have L1 := hide hC.1
        clear hC
        have e12 : a'.eval (.tmp 12) = PT D := KC_val (hall 0 _ 12 (by decide) rfl rfl) rfl
        have e13 : a'.eval (.tmp 13) = PT D := KC_val (hall 1 _ 13 (by decide) rfl rfl) rfl
        have e14 : a'.eval (.tmp 14) = PT D := KC_val (hall 2 _ 14 (by decide) rfl rfl) rfl
        have e15 : a'.eval (.tmp 15) = PT D := KC_val (hall 3 _ 15 (by decide) rfl rfl) rfl
        have e16 : a'.eval (.tmp 16) = .slice p n c := KC_val (hall 4 _ 16 (by decide) rfl rfl) rfl
        have e17 : a'.eval (.tmp 17) = .int .i64 (m : Int) := KC_val (hall 5 _ 17 (by decide) rfl rfl) rfl
        have e18 : a'.eval (.tmp 18) = .int .u64 (m : Int) := KC_val (hall 6 _ 18 (by decide) rfl rfl) rfl
        have r19 := KC_of (hall 7 _ 19 (by decide) rfl rfl) rfl
        obtain ⟨x19, hx19⟩ : ∃ v, a'.eval (.tmp 19) = v := ⟨_, rfl⟩
        rw [hx19] at r19
        have r20 := KC_last (hall 8 _ 20 (by decide) rfl rfl) rfl
        obtain ⟨x20, hx20⟩ : ∃ v, a'.eval (.tmp 20) = v := ⟨_, rfl⟩
        rw [hx20] at r20
        have e21 : a'.eval (.tmp 21) = PT D := KC_val (hall 9 _ 21 (by decide) rfl rfl) rfl
        have e22 : a'.eval (.tmp 22) = PT D := KC_val (hall 10 _ 22 (by decide) rfl rfl) rfl
        have ha := act_puts 24 rfl hsz hdf hk [12, 13, 14, 15, 16, 17, 18, 19, 20, 21, 22] (by decide +kernel)
        simp only [puts, List.foldl_cons, List.foldl_nil, e12, e13, e14, e15, e16, e17, e18, hx19, hx20, e21, e22] at ha
        simp only [Act.put, List.setIfInBounds_toArray, List.set_cons_succ, List.set_cons_zero] at ha
        clear hall hk hsz hdf e12 e13 e14 e15 e16 e17 e18 hx19 hx20 e21 e22
        subst ha
        obtain ⟨p9, n9, c9, e9, o9⟩ := r20
        subst e9
        refine wpSeq_store_sl rfl 22 szB _ _ rfl D 0 77 [.slice p n c] _ _ _ rfl rfl (HD.out.chg L1.out HDN.out) (by simp) ?_
        intro w2 hb2 hu2
        have HE := hide (snk_end hB HD.out HO.out L1.out o9 hb2 hu2)
        simp only [wpSeq]
        clear hb2 hu2 o9 r19
        have S9 : Hid (Snk w2 B D (l ++ (ns.take (i + 1)).flatMap enc)) := (show Snk _ _ _ _ by rw [HT.out, ← List.append_assoc, HL0.out]; exact HE.out.1)
        have C9 : Hid (Chg (SkF w B) w w2) := (show Chg _ _ _ from SkF.trans CR.out HE.out.2)
        go_wp2_with fail
        go_roundg (k - i)
        case measure => omega
        case rel => exact ⟨i + 1, by omega, by omega, by go_num, S9, C9⟩
    · obtain rfl : i = k := by omega
      have hlt' : ¬ (i : Int) < i := by omega
      have hfull : ns.take i = ns := List.take_of_length_le (by rw [HKN.out]; exact Nat.le_refl _)
      rw [hfull] at SR
      clear hfull
      go_wp2_with fail
      go_end0
      exact ⟨rfl, SR.out, CR.out⟩
#print axioms jnums_any
end Go.Proofs.Ytmicmbjbclkbjaa
