/-
  What is got: source's closures: what the calls do.
-/
import Derived.Test.YtmicmbjbclkbjaaDoorRcS
import Derived.Test.YtmicmbjbclkbjaaDoorGSc
import Derived.Test.YtmicmbjbclkbjaaDoorRcO
namespace Go.Proofs.YtmicmbjbclkbjaaDoor
open Go.RowKit
theorem run_enterV {P : Program} {o : Oper} {a : Act} {w : World} (f : FuncId) (xs : Array Operand) (ts : Array TypeId) (t : Nat) (cap : Array Value) (ho : o.op = .call { callee := .value (.tmp t), args := xs, argTypes := ts }) (hv : a.eval (.tmp t) = .func (.func f) #[] cap) (hb : bodyB P f = true) :
    (execOp a.eval o).run P w = .ok (.enter f (xs.map a.eval ++ cap)) w := by
  unfold bodyB at hb
  cases hf : P.funcs[f]? with
  | none => rw [hf] at hb; simp at hb
  | some fn =>
    rw [hf] at hb
    simp only [Bool.and_eq_true, Bool.not_eq_true'] at hb
    have h1 : ¬ fn.name = "runtime.NumGoroutine" := by simpa using hb.1
    have h2 : ¬ fn.body = none := by have := hb.2; cases hh : fn.body <;> simp [hh] at this ⊢
    simp [execOp, ho, resolve, hv, Deferred.ofValue, invoke, callFunc, hf, h1, h2, Result.andThen]
theorem slice_B (a : Option Addr) (n cap i : Nat) (hi : i ≤ n) (hn : n ≤ cap) :
    ∃ a', (∀ W, (Instr.sliceAt 28 (.slice a n cap) (some (.int .i64 (i : Int))) none none).run Tryd.prog W = .ok (.slice a' (n - i) (cap - i)) W) ∧
      (∀ w (l : List UInt8), Rd w (.slice a n cap) l → Rd w (.slice a' (n - i) (cap - i)) (l.drop i)) := by
  have e1 : (i : Int) ≤ (n : Int) := by omega
  refine ⟨if cap = i then a else a.map (·.add i), fun W => ?_, fun w l hr => ?_⟩
  · have hsz := Tryd.size5S
    cases hq : Tryd.prog.info? 5 with
    | none => simp [hq] at hsz
    | some k =>
      have hk : k.size = 1 := by simpa [hq] using hsz
      simp [Instr.sliceAt, Instr.slice, run_underlying Tryd.underlying28, Instr.sliceBounds, run_sliceBound, e1, sizeOf, typeInfo, hq, hk]
  · have hr0 := hr
    obtain ⟨a0, cap0, e, h1, h2, h3, h4⟩ := hr
    simp only [Value.slice.injEq] at e
    obtain ⟨rfl, rfl, rfl⟩ := e
    by_cases hp : 0 < l.length
    · obtain ⟨b, off, rfl, hb, hc⟩ := h4 hp
      have e2 : (if cap = i then (some ⟨b, off, none⟩ : Option Addr) else (some ⟨b, off, none⟩ : Option Addr).map (·.add i)) = some ⟨b, if cap = i then off else off + i, none⟩ := by
        split
        · rfl
        · simp [Addr.add_lit]
      rw [e2]
      refine Rd.drop hr0 i hi _ ?_
      by_cases h : cap = i
      · exact .inr (by omega)
      · exact .inl (by rw [if_neg h])
    · have hl : l = [] := List.eq_nil_of_length_eq_zero (by omega)
      subst hl
      obtain rfl : i = 0 := by simpa using hi
      refine ⟨_, _, rfl, by simp, by simpa using h2, fun h => ?_, fun h => by simp at h⟩
      have : a = none := by
        revert h
        split
        · exact id
        · intro h
          cases a with
          | none => rfl
          | some x => simp at h
      simpa using h3 this
/-- The source's closures. -/
def SC6 (Bb Br Bt : Nat) : List Value := [.func (.func 47) #[] #[PT Bb, PT Bt], .func (.func 49) #[] #[PT Bb, PT Bt], .func (.func 51) #[] #[PT Bb, PT Bt], .func (.func 53) #[] #[PT Br], .func (.func 54) #[] #[PT Br, PT Bb]]
def tookV (Bb Br : Nat) : Value := .func (.func 46) #[] #[PT Br, PT Bb]
/-- Where a source lies: the bytes that are left, whether all was right, took; s: what is left, where all was right. -/
structure SrcAt (w0 w : World) (Bb Br Bt : Nat) (s : Option (List UInt8)) : Prop where
  base : Below w0.heap.size w0 w
  lo : w0.heap.size ≤ Bb ∧ w0.heap.size ≤ Br ∧ w0.heap.size ≤ Bt
  b : ∃ v l, Blk w Bb 28 [v] ∧ Rd w0 v l ∧ l.length ≤ 8192 ∧ ∀ z, s = some z → l = z
  r : Blk w Br 4 [.bool s.isSome]
  t : Blk w Bt 72 [tookV Bb Br]
/-- The blocks that getting changes. -/
def GF (Bb Br k : Nat) : Prop := k = Bb ∨ k = Br
theorem SrcAt.ne {w0 w : World} {Bb Br Bt : Nat} {s : Option (List UInt8)} (h : SrcAt w0 w Bb Br Bt s) : Bb ≠ Br ∧ ¬ GF Bb Br Bt := by
  obtain ⟨v, l, hb, -⟩ := h.b
  refine ⟨fun e => cells_ne hb h.r (by decide) e, fun e => ?_⟩
  rcases e with e | e
  · exact cells_ne h.t hb (by decide) e
  · exact cells_ne h.t h.r (by decide) e
theorem SrcAt.kept {w0 w w' : World} {Bb Br Bt : Nat} {s : Option (List UInt8)} (h : SrcAt w0 w Bb Br Bt s) (hb : Below w.heap.size w w') : SrcAt w0 w' Bb Br Bt s := by
  obtain ⟨v, l, h1, h2⟩ := h.b
  exact ⟨h.base.trans (hb.mono h.base.size), h.lo, ⟨v, l, h1.kept hb, h2⟩, h.r.kept hb, h.t.kept hb⟩
theorem SrcAt.below {w0 w w' : World} {Bb Br Bt : Nat} {s : Option (List UInt8)} (h : SrcAt w0 w Bb Br Bt s) (hc : Chg (GF Bb Br) w w') : Below w0.heap.size w w' := hc.below h.base.size fun k hk e => by
  have := h.lo
  rcases e with e | e <;> omega
theorem wpList_store_bo {P : Program} {ops : Array Oper} {rest : List Oper} {o : Oper} {a : Act} {w : World} {Q : Exit → Act → World → Prop} (hgd : o.guard = none) (ty : TypeId) (hso : ∀ W, (sizeOf ty).run P W = .ok 1 W) (x y : Operand) (ho : o.op = .store ty x y) (b j : Nat) (T : TypeId) (cs : List Value) (c : Bool)
    (hx : a.eval x = .pointer (some ⟨b, j, none⟩)) (hy : a.eval y = .bool c) (hB : Blk w b T cs) (hj : j < cs.length) (h : ∀ w', Blk w' b T (cs.set j (.bool c)) → But b w w' → wpList P ops Q rest (a.put o.dst undef) w') : wpList P ops Q (o :: rest) a w := by
  have hc := hB.cell (j := j) (v := cs[j]) (List.getElem?_eq_getElem hj)
  have hf := hB.frozen j
  have hrun : (execOp a.eval o).run P w = .ok .skip (w.setCell ⟨b, j, none⟩ (.bool c)) := by
    simp only [execOp, ho, hx, hy]
    go_simp
  refine wpList_plain hgd fun K hK => ?_
  unfold Oper.wp
  rw [hrun]
  exact hK _ _ (h _ (hB.set j (.bool c)) (But.setCell b w j _))
/-- What is left behind a value of k bytes. -/
def tk (s : Option (List UInt8)) (ok : Bool) (k : Nat) : Option (List UInt8) := s.bind fun l => if ok = true then some (l.drop k) else none
set_option maxHeartbeats 1000000 in
set_option maxRecDepth 100000 in
theorem took_any {w0 w : World} {Bb Br Bt : Nat} {s : Option (List UInt8)} (h : SrcAt w0 w Bb Br Bt s) (ok : Bool) (k : Nat) (hk : ∀ l, s = some l → ok = true → k ≤ l.length) :
    Calls Tryd.prog 46 #[.int .i64 (k : Int), .bool ok, PT Br, PT Bb] w fun e w' => e = .returned (.bool (tk s ok k).isSome) ∧ SrcAt w0 w' Bb Br Bt (tk s ok k) ∧ Chg (GF Bb Br) w w' := by
  obtain ⟨v, l, hb, hrd, hl, hs⟩ := h.b
  obtain ⟨hne, hnt⟩ := h.ne
  have H := hide h
  have HRd := hide hrd
  obtain ⟨a, cap, rfl⟩ := hrd.slice
  have BB := hide hb
  have BR := hide h.r
  have d1 := h.r.cell (j := 0) rfl
  -- the bytes that are left, whatever
  have fin : ∀ w1, Blk w1 Br 4 [.bool false] → But Br w w1 → tk s ok k = none → SrcAt w0 w1 Bb Br Bt (tk s ok k) ∧ Chg (GF Bb Br) w w1 := fun w1 h1 h2 h3 => by
    have hC : Chg (GF Bb Br) w w1 := Chg.of_but h2 (.inr rfl)
    have hR : Chg (fun k => k = Br) w w1 := Chg.of_but h2 rfl
    rw [h3]
    exact ⟨⟨h.base.trans (h.below hC), h.lo, ⟨_, l, hb.chg hR hne, hrd, hl, fun z e => by cases e⟩, h1, h.t.chg hC hnt⟩, hC⟩
  have FN := hide fin
  clear fin
  cases s with
  | none =>
    have BR2 : Hid (Blk w Br 4 [.bool false]) := BR
    have d1 : w.cell? ⟨Br, 0, none⟩ = some (.bool false) := d1
    clear h hb hrd hs hne hnt BR
    go_enter Tryd.func46, Tryd.ntmps46
    have hf := BR2.out.frozen 0
    have F := hide (FN.out _ (BR2.out.set 0 (.bool false)) (But.setCell Br w 0 (.bool false)) rfl)
    have d2 := F.out.1.r.cell (j := 0) rfl
    go_wp2_with fail
    go_ret
    exact ⟨rfl, F.out⟩
  | some l' =>
    obtain rfl : l = l' := hs l' rfl
    have d1 : w.cell? ⟨Br, 0, none⟩ = some (.bool true) := d1
    have BR2 : Hid (Blk w Br 4 [.bool true]) := BR
    cases ok with
    | false =>
      clear h hb hrd hs hne hnt BR
      go_enter Tryd.func46, Tryd.ntmps46
      have hf := BR2.out.frozen 0
      have F := hide (FN.out _ (BR2.out.set 0 (.bool false)) (But.setCell Br w 0 (.bool false)) rfl)
      have d2 := F.out.1.r.cell (j := 0) rfl
      go_wp2_with fail
      go_ret
      exact ⟨rfl, F.out⟩
    | true =>
      have hkl : k ≤ l.length := hk l rfl rfl
      obtain ⟨n, Hn⟩ : ∃ z, Hid (l.length = z) := ⟨_, rfl⟩
      have hcap : l.length ≤ cap := by
        obtain ⟨_, _, e, g1, _⟩ := hrd
        simp only [Value.slice.injEq] at e
        omega
      obtain ⟨a', hsl, hrs⟩ := slice_B a l.length cap k hkl hcap
      have HRS := hide (hrs w0 l hrd)
      have HS2 : Hid (∀ w1 w2, Blk w1 Br 4 [.bool true] → But Br w w1 → Blk w2 Bb 28 [.slice a' (l.length - k) (cap - k)] → But Bb w1 w2 → SrcAt w0 w2 Bb Br Bt (some (l.drop k)) ∧ Chg (GF Bb Br) w w2) := (show ∀ w1 w2, _ from fun w1 w2 h1 h2 h3 h4 => by
        have hC1 : Chg (GF Bb Br) w w1 := Chg.of_but h2 (.inr rfl)
        have hC2 : Chg (GF Bb Br) w1 w2 := Chg.of_but h4 (.inl rfl)
        have hB2 : Chg (fun k => k = Bb) w1 w2 := Chg.of_but h4 rfl
        refine ⟨⟨h.base.trans (h.below (hC1.trans hC2)), h.lo, ⟨_, l.drop k, h3, hrs w0 l hrd, by rw [List.length_drop]; omega, fun z e => Option.some.inj e⟩, h1.chg hB2 (fun e => hne e.symm), h.t.chg (hC1.trans hC2) hnt⟩, hC1.trans hC2⟩)
      have HB1 : Hid (∀ w1, But Br w w1 → Blk w1 Bb 28 [.slice a l.length cap]) := (show ∀ w1, _ from fun w1 h2 => hb.chg (Chg.of_but (F := fun k => k = Br) h2 rfl) hne)
      rw [Hn.out] at hsl HS2 HB1 BB
      clear h hb hrd hs hne hnt hk hrs hcap BR hkl
      go_enter Tryd.func46, Tryd.ntmps46
      have hf := BR2.out.frozen 0
      obtain ⟨w1, hw1⟩ : ∃ z, z = w.setCell ⟨Br, 0, none⟩ (.bool true) := ⟨_, rfl⟩
      have R1 : Hid (Blk w1 Br 4 [.bool true]) := (show Blk _ _ _ _ by rw [hw1]; exact BR2.out.set 0 (.bool true))
      have U1 : Hid (But Br w w1) := (show But _ _ _ by rw [hw1]; exact But.setCell Br w 0 (.bool true))
      have K1 := hide (HB1.out w1 U1.out)
      have d2 := R1.out.cell (j := 0) rfl
      have d3 := K1.out.cell (j := 0) rfl
      have HW1 := hide hw1
      clear hw1
      go_upto_region 2 with fail
      change Code.wp _ _ _ _ (w.setCell ⟨Br, 0, none⟩ (.bool true))
      rw [← HW1.out]
      have hf2 := K1.out.frozen 0
      have F := hide (HS2.out w1 _ R1.out U1.out (K1.out.set 0 (.slice a' (n - k) (cap - k))) (But.setCell Bb w1 0 _))
      have d4 := F.out.1.r.cell (j := 0) rfl
      clear d1 hf
      go_wp2_with fail
      go_ret
      exact ⟨rfl, F.out⟩
#print axioms took_any
end Go.Proofs.YtmicmbjbclkbjaaDoor
