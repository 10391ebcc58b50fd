/-
  Texts that ride together: RcX RcY RcZ RcA RcD RcE RcF.
-/
import Derived.Test.YtmicmbjbclkbjaaRcS
import Derived.Test.YtmicmbjbclkbjaaPkG
import Derived.Test.YtmicmbjbclkbjaaRcO
import Derived.Test.YtmicmbjbclkbjaaRcK
/-
  What is got: source's closures: what the calls do.
-/
namespace Go.Proofs.Ytmicmbjbclkbjaa
open Go.RowKit
theorem run_enterV {P : Program} {o : Oper} {a : Act} {w : World} (f : FuncId) (xs : Array Operand) (ts : Array TypeId) (t : Nat) (cap : Array Value) (ho : o.op = .call { callee := .value (.tmp t), args := xs, argTypes := ts }) (hv : a.eval (.tmp t) = .func (.func f) #[] cap) (hb : bodyB P f = true) :
    (execOp a.eval o).run P w = .ok (.enter f (xs.map a.eval ++ cap)) w := by
  unfold bodyB at hb
  cases hf : P.funcs[f]? with
  | none => rw [hf] at hb; simp at hb
  | some fn =>
    rw [hf] at hb
    simp only [Bool.and_eq_true, Bool.not_eq_true'] at hb
    have h1 : ¬ fn.name = "runtime.NumGoroutine" := by simpa using hb.1
    have h2 : ¬ fn.body = none := by have := hb.2; cases hh : fn.body <;> simp [hh] at this ⊢
    simp [execOp, ho, resolve, hv, Deferred.ofValue, invoke, callFunc, hf, h1, h2, Result.andThen]
theorem slice_B (a : Option Addr) (n cap i : Nat) (hi : i ≤ n) (hn : n ≤ cap) :
    ∃ a', (∀ W, (Instr.sliceAt 22 (.slice a n cap) (some (.int .i64 (i : Int))) none none).run Try.prog W = .ok (.slice a' (n - i) (cap - i)) W) ∧
      (∀ w (l : List UInt8), Rd w (.slice a n cap) l → Rd w (.slice a' (n - i) (cap - i)) (l.drop i)) := by
  have e1 : (i : Int) ≤ (n : Int) := by omega
  refine ⟨if cap = i then a else a.map (·.add i), fun W => ?_, fun w l hr => ?_⟩
  · have hsz := Try.size5S
    cases hq : Try.prog.info? 5 with
    | none => simp [hq] at hsz
    | some k =>
      have hk : k.size = 1 := by simpa [hq] using hsz
      simp [Instr.sliceAt, Instr.slice, run_underlying Try.underlying22, Instr.sliceBounds, run_sliceBound, e1, sizeOf, typeInfo, hq, hk]
  · have hr0 := hr
    obtain ⟨a0, cap0, e, h1, h2, h3, h4⟩ := hr
    simp only [Value.slice.injEq] at e
    obtain ⟨rfl, rfl, rfl⟩ := e
    by_cases hp : 0 < l.length
    · obtain ⟨b, off, rfl, hb, hc⟩ := h4 hp
      have e2 : (if cap = i then (some ⟨b, off, none⟩ : Option Addr) else (some ⟨b, off, none⟩ : Option Addr).map (·.add i)) = some ⟨b, if cap = i then off else off + i, none⟩ := by
        split
        · rfl
        · simp [Addr.add_lit]
      rw [e2]
      refine Rd.drop hr0 i hi _ ?_
      by_cases h : cap = i
      · exact .inr (by omega)
      · exact .inl (by rw [if_neg h])
    · have hl : l = [] := List.eq_nil_of_length_eq_zero (by omega)
      subst hl
      obtain rfl : i = 0 := by simpa using hi
      refine ⟨_, _, rfl, by simp, by simpa using h2, fun h => ?_, fun h => by simp at h⟩
      have : a = none := by
        revert h
        split
        · exact id
        · intro h
          cases a with
          | none => rfl
          | some x => simp at h
      simpa using h3 this
/-- The source's closures. -/
def SC6 (Bb Br Bt : Nat) : List Value := [.func (.func 33) #[] #[PT Bb, PT Bt], .func (.func 35) #[] #[PT Bb, PT Bt], .func (.func 37) #[] #[PT Bb, PT Bt], .func (.func 39) #[] #[PT Br], .func (.func 40) #[] #[PT Br, PT Bb]]
def tookV (Bb Br : Nat) : Value := .func (.func 32) #[] #[PT Br, PT Bb]
/-- Where a source lies: the bytes that are left, whether all was right, took; s: what is left, where all was right. -/
structure SrcAt (w0 w : World) (Bb Br Bt : Nat) (s : Option (List UInt8)) : Prop where
  base : Below w0.heap.size w0 w
  lo : w0.heap.size ≤ Bb ∧ w0.heap.size ≤ Br ∧ w0.heap.size ≤ Bt
  b : ∃ v l, Blk w Bb 22 [v] ∧ Rd w0 v l ∧ l.length ≤ 8192 ∧ ∀ z, s = some z → l = z
  r : Blk w Br 4 [.bool s.isSome]
  t : Blk w Bt 61 [tookV Bb Br]
/-- The blocks that getting changes. -/
def GF (Bb Br k : Nat) : Prop := k = Bb ∨ k = Br
theorem SrcAt.ne {w0 w : World} {Bb Br Bt : Nat} {s : Option (List UInt8)} (h : SrcAt w0 w Bb Br Bt s) : Bb ≠ Br ∧ ¬ GF Bb Br Bt := by
  obtain ⟨v, l, hb, -⟩ := h.b
  refine ⟨fun e => cells_ne hb h.r (by decide) e, fun e => ?_⟩
  rcases e with e | e
  · exact cells_ne h.t hb (by decide) e
  · exact cells_ne h.t h.r (by decide) e
theorem SrcAt.kept {w0 w w' : World} {Bb Br Bt : Nat} {s : Option (List UInt8)} (h : SrcAt w0 w Bb Br Bt s) (hb : Below w.heap.size w w') : SrcAt w0 w' Bb Br Bt s := by
  obtain ⟨v, l, h1, h2⟩ := h.b
  exact ⟨h.base.trans (hb.mono h.base.size), h.lo, ⟨v, l, h1.kept hb, h2⟩, h.r.kept hb, h.t.kept hb⟩
theorem SrcAt.below {w0 w w' : World} {Bb Br Bt : Nat} {s : Option (List UInt8)} (h : SrcAt w0 w Bb Br Bt s) (hc : Chg (GF Bb Br) w w') : Below w0.heap.size w w' := hc.below h.base.size fun k hk e => by
  have := h.lo
  rcases e with e | e <;> omega
theorem wpList_store_bo {P : Program} {ops : Array Oper} {rest : List Oper} {o : Oper} {a : Act} {w : World} {Q : Exit → Act → World → Prop} (hgd : o.guard = none) (ty : TypeId) (hso : ∀ W, (sizeOf ty).run P W = .ok 1 W) (x y : Operand) (ho : o.op = .store ty x y) (b j : Nat) (T : TypeId) (cs : List Value) (c : Bool)
    (hx : a.eval x = .pointer (some ⟨b, j, none⟩)) (hy : a.eval y = .bool c) (hB : Blk w b T cs) (hj : j < cs.length) (h : ∀ w', Blk w' b T (cs.set j (.bool c)) → But b w w' → wpList P ops Q rest (a.put o.dst undef) w') : wpList P ops Q (o :: rest) a w := by
  have hc := hB.cell (j := j) (v := cs[j]) (List.getElem?_eq_getElem hj)
  have hf := hB.frozen j
  have hrun : (execOp a.eval o).run P w = .ok .skip (w.setCell ⟨b, j, none⟩ (.bool c)) := by
    simp only [execOp, ho, hx, hy]
    go_simp
  refine wpList_plain hgd fun K hK => ?_
  unfold Oper.wp
  rw [hrun]
  exact hK _ _ (h _ (hB.set j (.bool c)) (But.setCell b w j _))
/-- What is left behind a value of k bytes. -/
def tk (s : Option (List UInt8)) (ok : Bool) (k : Nat) : Option (List UInt8) := s.bind fun l => if ok = true then some (l.drop k) else none
set_option maxHeartbeats 1000000 in
set_option maxRecDepth 100000 in
theorem took_any {w0 w : World} {Bb Br Bt : Nat} {s : Option (List UInt8)} (h : SrcAt w0 w Bb Br Bt s) (ok : Bool) (k : Nat) (hk : ∀ l, s = some l → ok = true → k ≤ l.length) :
    Calls Try.prog 32 #[.int .i64 (k : Int), .bool ok, PT Br, PT Bb] w fun e w' => e = .returned (.bool (tk s ok k).isSome) ∧ SrcAt w0 w' Bb Br Bt (tk s ok k) ∧ Chg (GF Bb Br) w w' := by
  obtain ⟨v, l, hb, hrd, hl, hs⟩ := h.b
  obtain ⟨hne, hnt⟩ := h.ne
  have H := hide h
  have HRd := hide hrd
  obtain ⟨a, cap, rfl⟩ := hrd.slice
  have BB := hide hb
  have BR := hide h.r
  have d1 := h.r.cell (j := 0) rfl
  -- the bytes that are left, whatever
  have fin : ∀ w1, Blk w1 Br 4 [.bool false] → But Br w w1 → tk s ok k = none → SrcAt w0 w1 Bb Br Bt (tk s ok k) ∧ Chg (GF Bb Br) w w1 := fun w1 h1 h2 h3 => by
    have hC : Chg (GF Bb Br) w w1 := Chg.of_but h2 (.inr rfl)
    have hR : Chg (fun k => k = Br) w w1 := Chg.of_but h2 rfl
    rw [h3]
    exact ⟨⟨h.base.trans (h.below hC), h.lo, ⟨_, l, hb.chg hR hne, hrd, hl, fun z e => by cases e⟩, h1, h.t.chg hC hnt⟩, hC⟩
  have FN := hide fin
  clear fin
  cases s with
  | none =>
    have BR2 : Hid (Blk w Br 4 [.bool false]) := BR
    have d1 : w.cell? ⟨Br, 0, none⟩ = some (.bool false) := d1
    clear h hb hrd hs hne hnt BR
    go_enter Try.func32, Try.ntmps32
    have hf := BR2.out.frozen 0
    have F := hide (FN.out _ (BR2.out.set 0 (.bool false)) (But.setCell Br w 0 (.bool false)) rfl)
    have d2 := F.out.1.r.cell (j := 0) rfl
    go_wp2_with fail
    go_ret
    exact ⟨rfl, F.out⟩
  | some l' =>
    obtain rfl : l = l' := hs l' rfl
    have d1 : w.cell? ⟨Br, 0, none⟩ = some (.bool true) := d1
    have BR2 : Hid (Blk w Br 4 [.bool true]) := BR
    cases ok with
    | false =>
      clear h hb hrd hs hne hnt BR
      go_enter Try.func32, Try.ntmps32
      have hf := BR2.out.frozen 0
      have F := hide (FN.out _ (BR2.out.set 0 (.bool false)) (But.setCell Br w 0 (.bool false)) rfl)
      have d2 := F.out.1.r.cell (j := 0) rfl
      go_wp2_with fail
      go_ret
      exact ⟨rfl, F.out⟩
    | true =>
      have hkl : k ≤ l.length := hk l rfl rfl
      obtain ⟨n, Hn⟩ : ∃ z, Hid (l.length = z) := ⟨_, rfl⟩
      have hcap : l.length ≤ cap := by
        obtain ⟨_, _, e, g1, _⟩ := hrd
        simp only [Value.slice.injEq] at e
        omega
      obtain ⟨a', hsl, hrs⟩ := slice_B a l.length cap k hkl hcap
      have HRS := hide (hrs w0 l hrd)
      have HS2 : Hid (∀ w1 w2, Blk w1 Br 4 [.bool true] → But Br w w1 → Blk w2 Bb 22 [.slice a' (l.length - k) (cap - k)] → But Bb w1 w2 → SrcAt w0 w2 Bb Br Bt (some (l.drop k)) ∧ Chg (GF Bb Br) w w2) := (show ∀ w1 w2, _ from fun w1 w2 h1 h2 h3 h4 => by
        have hC1 : Chg (GF Bb Br) w w1 := Chg.of_but h2 (.inr rfl)
        have hC2 : Chg (GF Bb Br) w1 w2 := Chg.of_but h4 (.inl rfl)
        have hB2 : Chg (fun k => k = Bb) w1 w2 := Chg.of_but h4 rfl
        refine ⟨⟨h.base.trans (h.below (hC1.trans hC2)), h.lo, ⟨_, l.drop k, h3, hrs w0 l hrd, by rw [List.length_drop]; omega, fun z e => Option.some.inj e⟩, h1.chg hB2 (fun e => hne e.symm), h.t.chg (hC1.trans hC2) hnt⟩, hC1.trans hC2⟩)
      have HB1 : Hid (∀ w1, But Br w w1 → Blk w1 Bb 22 [.slice a l.length cap]) := (show ∀ w1, _ from fun w1 h2 => hb.chg (Chg.of_but (F := fun k => k = Br) h2 rfl) hne)
      rw [Hn.out] at hsl HS2 HB1 BB
      clear h hb hrd hs hne hnt hk hrs hcap BR hkl
      go_enter Try.func32, Try.ntmps32
      have hf := BR2.out.frozen 0
      obtain ⟨w1, hw1⟩ : ∃ z, z = w.setCell ⟨Br, 0, none⟩ (.bool true) := ⟨_, rfl⟩
      have R1 : Hid (Blk w1 Br 4 [.bool true]) := (show Blk _ _ _ _ by rw [hw1]; exact BR2.out.set 0 (.bool true))
      have U1 : Hid (But Br w w1) := (show But _ _ _ by rw [hw1]; exact But.setCell Br w 0 (.bool true))
      have K1 := hide (HB1.out w1 U1.out)
      have d2 := R1.out.cell (j := 0) rfl
      have d3 := K1.out.cell (j := 0) rfl
      have HW1 := hide hw1
      clear hw1
      go_upto_region 2 with fail
      change Code.wp _ _ _ _ (w.setCell ⟨Br, 0, none⟩ (.bool true))
      rw [← HW1.out]
      have hf2 := K1.out.frozen 0
      have F := hide (HS2.out w1 _ R1.out U1.out (K1.out.set 0 (.slice a' (n - k) (cap - k))) (But.setCell Bb w1 0 _))
      have d4 := F.out.1.r.cell (j := 0) rfl
      clear d1 hf
      go_wp2_with fail
      go_ret
      exact ⟨rfl, F.out⟩
#print axioms took_any
end Go.Proofs.Ytmicmbjbclkbjaa

/-
  What is got: num, flag, str, isOver, isDone, sourceOf: what the calls do.
-/
namespace Go.Proofs.Ytmicmbjbclkbjaa
open Go.RowKit
/-- What is got of what is left; what is left then. -/
def got {α : Type} (p : Pa α) (d : α) (s : Option (List UInt8)) : α := ((s.bind p).map Prod.fst).getD d
def aft {α : Type} (p : Pa α) (s : Option (List UInt8)) : Option (List UInt8) := (s.bind p).map Prod.snd
theorem aft_none {α : Type} (p : Pa α) : aft p none = none := rfl
theorem got_none {α : Type} (p : Pa α) (d : α) : got p d none = d := rfl
theorem aft_some {α : Type} {p : Pa α} {l z : List UInt8} {x : α} (h : p l = some (x, z)) : aft p (some l) = some z := by
  unfold aft; simp [h]
theorem got_some {α : Type} {p : Pa α} {d : α} {l z : List UInt8} {x : α} (h : p l = some (x, z)) : got p d (some l) = x := by
  unfold got; simp [h]
theorem aft_no {α : Type} {p : Pa α} {l : List UInt8} (h : p l = none) : aft p (some l) = none := by
  unfold aft; simp [h]
theorem got_no {α : Type} {p : Pa α} {d : α} {l : List UInt8} (h : p l = none) : got p d (some l) = d := by
  unfold got; simp [h]
theorem tk_none (ok : Bool) (k : Nat) : tk none ok k = none := rfl
theorem tk_no (s : Option (List UInt8)) (k : Nat) : tk s false k = none := by cases s <;> rfl
theorem tk_yes (l : List UInt8) (k : Nat) : tk (some l) true k = some (l.drop k) := rfl
set_option maxHeartbeats 1000000 in
set_option maxRecDepth 100000 in
theorem snum_any {w0 w : World} {Bb Br Bt : Nat} {s : Option (List UInt8)} (h : SrcAt w0 w Bb Br Bt s) (m : Nat) (hm : m ≤ 1099511627776) :
    Calls Try.prog 33 #[.int .u64 (m : Int), PT Bb, PT Bt] w fun e w' => e = .returned (.int .i64 ((got (pN m) 0 s : Nat) : Int)) ∧ SrcAt w0 w' Bb Br Bt (aft (pN m) s) ∧ Chg (GF Bb Br) w w' := by
  obtain ⟨v, l, hb, hrd, hl, hs⟩ := h.b
  have H := hide h
  have HRd := hide hrd
  have d1 := hb.cell (j := 0) rfl
  obtain ⟨a, cap, rfl⟩ := hrd.slice
  obtain ⟨n0, Hn0⟩ : ∃ z, Hid (l.length = z) := ⟨_, rfl⟩
  have HRW := hide (hrd.kept h.base)
  have CG := hide (getNum_any _ l w HRW.out (by omega))
  rw [Hn0.out] at CG d1
  rcases gn_cases l with hg | ⟨n, k, hg⟩
  · have HA : Hid (aft (pN m) s = none ∧ got (pN m) 0 s = 0) := (show _ ∧ _ from by
      cases s with
      | none => exact ⟨rfl, rfl⟩
      | some z =>
        obtain rfl := hs z rfl
        have : pN m l = none := by unfold pN; rw [hg]; simp
        exact ⟨aft_no this, got_no this⟩)
    rw [hg] at CG
    clear h hb hrd hs
    go_enter Try.func33, Try.ntmps33
    go_wp2_with fail
    refine CG.out.mono ?_
    rintro e w1 ⟨rfl, hb1⟩
    have H1 := hide (H.out.kept hb1)
    have HB1 := hide hb1
    have CT := hide (took_any H1.out false 0 (fun _ _ h => by cases h))
    rw [tk_no] at CT
    have d2 := H1.out.t.cell (j := 0) rfl
    unfold tookV at d2
    clear hb1 CG d1
    go_wp2_with fail
    refine CT.out.mono ?_
    rintro e w2 ⟨rfl, s2, c2⟩
    have S2 := hide s2
    have C2 : Hid (Chg (GF Bb Br) w w2) := (show Chg _ _ _ from (Chg.of_below HB1.out).trans c2)
    clear s2 c2 CT d2
    go_wp2_with fail
    go_ret
    rw [HA.out.1, HA.out.2]
    exact ⟨rfl, S2.out, C2.out⟩
  · obtain ⟨hk1, hk9, hkl, hn8, -⟩ := gn_ok hg
    rw [hg] at CG
    by_cases hnm : n ≤ m
    · have q1 : decide ((n : Int) ≤ (m : Int)) = true := by simp; omega
      have HA : Hid (aft (pN m) s = tk s true k ∧ got (pN m) 0 s = if s.isSome = true then n else 0) := (show _ ∧ _ from by
        cases s with
        | none => exact ⟨rfl, rfl⟩
        | some z =>
          obtain rfl := hs z rfl
          have : pN m l = some (n, l.drop k) := by unfold pN; rw [hg]; simp [hnm]
          exact ⟨aft_some this, got_some this⟩)
      have HKL : Hid (∀ z, s = some z → true = true → k ≤ z.length) := (show ∀ z, _ from fun z e _ => by rw [← hs z e]; exact hkl)
      have HIS : Hid ((tk s true k).isSome = s.isSome) := (show _ = _ by cases s <;> rfl)
      have hwn : IntKind.i64.wrap (n : Int) = (n : Int) := wr64 (by omega) (by omega)
      obtain ⟨b, Hb⟩ : ∃ z, Hid (s.isSome = z) := ⟨_, rfl⟩
      rw [Hb.out] at HA HIS
      clear h hb hrd hs hn8 hk1 hk9 hkl
      go_enter Try.func33, Try.ntmps33
      go_wp2_with fail
      refine CG.out.mono ?_
      rintro e w1 ⟨rfl, hb1⟩
      have H1 := hide (H.out.kept hb1)
      have HB1 := hide hb1
      have CT := hide (took_any H1.out true k (fun z e _ => HKL.out z e trivial))
      rw [HIS.out] at CT
      have d2 := H1.out.t.cell (j := 0) rfl
      unfold tookV at d2
      clear hb1 CG d1
      go_wp2_with fail
      refine CT.out.mono ?_
      rintro e w2 ⟨rfl, s2, c2⟩
      have S2 := hide s2
      have C2 : Hid (Chg (GF Bb Br) w w2) := (show Chg _ _ _ from (Chg.of_below HB1.out).trans c2)
      clear s2 c2 CT d2
      cases b with
      | false =>
        go_wp2_with fail
        go_ret
        rw [HA.out.1, HA.out.2]
        exact ⟨rfl, S2.out, C2.out⟩
      | true =>
        go_wp2_with fail
        go_ret
        rw [HA.out.1, HA.out.2]
        exact ⟨rfl, S2.out, C2.out⟩
    · have q1 : decide ((n : Int) ≤ (m : Int)) = false := by simp; omega
      have HA : Hid (aft (pN m) s = none ∧ got (pN m) 0 s = 0) := (show _ ∧ _ from by
        cases s with
        | none => exact ⟨rfl, rfl⟩
        | some z =>
          obtain rfl := hs z rfl
          have : pN m l = none := by unfold pN; rw [hg]; simp [hnm]
          exact ⟨aft_no this, got_no this⟩)
      clear h hb hrd hs hn8 hk1 hk9 hkl
      go_enter Try.func33, Try.ntmps33
      go_wp2_with fail
      refine CG.out.mono ?_
      rintro e w1 ⟨rfl, hb1⟩
      have H1 := hide (H.out.kept hb1)
      have HB1 := hide hb1
      have CT := hide (took_any H1.out false k (fun _ _ h => by cases h))
      rw [tk_no] at CT
      have d2 := H1.out.t.cell (j := 0) rfl
      unfold tookV at d2
      clear hb1 CG d1
      go_wp2_with fail
      refine CT.out.mono ?_
      rintro e w2 ⟨rfl, s2, c2⟩
      have S2 := hide s2
      have C2 : Hid (Chg (GF Bb Br) w w2) := (show Chg _ _ _ from (Chg.of_below HB1.out).trans c2)
      clear s2 c2 CT d2
      go_wp2_with fail
      go_ret
      rw [HA.out.1, HA.out.2]
      exact ⟨rfl, S2.out, C2.out⟩
#print axioms snum_any
theorem gf_cases (l : List UInt8) : gf l = (false, 0, false) ∨ ∃ b, gf l = (b, 1, true) ∧ 1 ≤ l.length := by
  cases l with
  | nil => exact .inl rfl
  | cons x r =>
    by_cases h : 1 < x.toNat
    · exact .inl (by simp [gf, h])
    · exact .inr ⟨decide (x.toNat = 1), by simp only [gf, if_neg h], by simp⟩
set_option maxHeartbeats 1000000 in
set_option maxRecDepth 100000 in
theorem sflag_any {w0 w : World} {Bb Br Bt : Nat} {s : Option (List UInt8)} (h : SrcAt w0 w Bb Br Bt s) :
    Calls Try.prog 35 #[PT Bb, PT Bt] w fun e w' => e = .returned (.bool (got pF false s)) ∧ SrcAt w0 w' Bb Br Bt (aft pF s) ∧ Chg (GF Bb Br) w w' := by
  obtain ⟨v, l, hb, hrd, hl, hs⟩ := h.b
  have H := hide h
  have HRd := hide hrd
  have d1 := hb.cell (j := 0) rfl
  obtain ⟨a, cap, rfl⟩ := hrd.slice
  obtain ⟨n0, Hn0⟩ : ∃ z, Hid (l.length = z) := ⟨_, rfl⟩
  have HRW := hide (hrd.kept h.base)
  have CG := hide (getFlag_any _ l w HRW.out)
  rw [Hn0.out] at CG d1
  rcases gf_cases l with hg | ⟨f, hg, hl1⟩
  · have HA : Hid (aft pF s = none ∧ got pF false s = false) := (show _ ∧ _ from by
      cases s with
      | none => exact ⟨rfl, rfl⟩
      | some z =>
        obtain rfl := hs z rfl
        have : pF l = none := by unfold pF; rw [hg]; simp
        exact ⟨aft_no this, got_no this⟩)
    rw [hg] at CG
    have CT := hide (took_any H.out false 0 (fun _ _ h => by cases h))
    rw [tk_no] at CT
    have d2 := h.t.cell (j := 0) rfl
    unfold tookV at d2
    clear h hb hrd hs
    go_enter Try.func35, Try.ntmps35
    go_wp2_with fail
    refine CG.out.mono ?_
    rintro e w_ ⟨rfl, hw⟩
    subst w_
    clear CG d1
    go_wp2_with fail
    refine CT.out.mono ?_
    rintro e w2 ⟨rfl, s2, c2⟩
    have S2 := hide s2
    have C2 := hide c2
    clear s2 c2 CT d2
    go_wp2_with fail
    go_ret
    rw [HA.out.1, HA.out.2]
    exact ⟨rfl, S2.out, C2.out⟩
  · have HA : Hid (aft pF s = tk s true 1 ∧ got pF false s = (s.isSome && f)) := (show _ ∧ _ from by
      cases s with
      | none => exact ⟨rfl, rfl⟩
      | some z =>
        obtain rfl := hs z rfl
        have : pF l = some (f, l.drop 1) := by unfold pF; rw [hg]; simp
        exact ⟨aft_some this, (got_some this).trans (by simp)⟩)
    have HIS : Hid ((tk s true 1).isSome = s.isSome) := (show _ = _ by cases s <;> rfl)
    rw [hg] at CG
    have CT := hide (took_any H.out true 1 (fun z e _ => by rw [← hs z e]; exact hl1))
    rw [HIS.out] at CT
    obtain ⟨b, Hb⟩ : ∃ z, Hid (s.isSome = z) := ⟨_, rfl⟩
    rw [Hb.out] at HA CT
    have d2 := h.t.cell (j := 0) rfl
    unfold tookV at d2
    clear h hb hrd hs
    go_enter Try.func35, Try.ntmps35
    go_wp2_with fail
    refine CG.out.mono ?_
    rintro e w_ ⟨rfl, hw⟩
    subst w_
    clear CG d1
    go_wp2_with fail
    refine CT.out.mono ?_
    rintro e w2 ⟨rfl, s2, c2⟩
    have S2 := hide s2
    have C2 := hide c2
    clear s2 c2 CT d2
    cases b with
    | false =>
      go_wp2_with fail
      go_ret
      rw [HA.out.1, HA.out.2]
      exact ⟨rfl, S2.out, C2.out⟩
    | true =>
      go_wp2_with fail
      go_ret
      rw [HA.out.1, HA.out.2]
      exact ⟨rfl, S2.out, C2.out⟩
#print axioms sflag_any
set_option maxHeartbeats 1000000 in
set_option maxRecDepth 100000 in
theorem sstr_any {w0 w : World} {Bb Br Bt : Nat} {s : Option (List UInt8)} (h : SrcAt w0 w Bb Br Bt s) (m : Nat) (hm : (Lit.int .i64 (m : Int)).wf = true) :
    Calls Try.prog 37 #[.int .i64 (m : Int), PT Bb, PT Bt] w fun e w' => e = .returned (.string (got (pS m) em s)) ∧ SrcAt w0 w' Bb Br Bt (aft (pS m) s) ∧ Chg (GF Bb Br) w w' := by
  obtain ⟨v, l, hb, hrd, hl, hs⟩ := h.b
  have H := hide h
  have HRd := hide hrd
  have d1 := hb.cell (j := 0) rfl
  obtain ⟨a, cap, rfl⟩ := hrd.slice
  obtain ⟨n0, Hn0⟩ : ∃ z, Hid (l.length = z) := ⟨_, rfl⟩
  have HRW := hide (hrd.kept h.base)
  have CG := hide (getStr_any _ l (m : Int) w HRW.out (by omega) hm)
  rw [Int.toNat_natCast, Hn0.out] at CG
  rw [Hn0.out] at d1
  rcases gs_cases l m with hg | ⟨t, k, hg, hkl, hk1, ht, htm⟩
  · have HA : Hid (aft (pS m) s = none ∧ got (pS m) em s = em) := (show _ ∧ _ from by
      cases s with
      | none => exact ⟨rfl, rfl⟩
      | some z =>
        obtain rfl := hs z rfl
        have : pS m l = none := by unfold pS; rw [hg]; simp
        exact ⟨aft_no this, got_no this⟩)
    rw [hg] at CG
    clear h hb hrd hs
    go_enter Try.func37, Try.ntmps37
    go_wp2_with fail
    refine CG.out.mono ?_
    rintro e w1 ⟨rfl, hb1⟩
    have H1 := hide (H.out.kept hb1)
    have HB1 := hide hb1
    have CT := hide (took_any H1.out false 0 (fun _ _ h => by cases h))
    rw [tk_no] at CT
    have d2 := H1.out.t.cell (j := 0) rfl
    unfold tookV at d2
    clear hb1 CG d1
    go_wp2_with fail
    refine CT.out.mono ?_
    rintro e w2 ⟨rfl, s2, c2⟩
    have S2 := hide s2
    have C2 : Hid (Chg (GF Bb Br) w w2) := (show Chg _ _ _ from (Chg.of_below HB1.out).trans c2)
    clear s2 c2 CT d2
    go_wp2_with fail
    go_ret
    rw [HA.out.1, HA.out.2]
    exact ⟨rfl, S2.out, C2.out⟩
  · have HA : Hid (aft (pS m) s = tk s true k ∧ got (pS m) em s = if s.isSome = true then ⟨t.toArray⟩ else em) := (show _ ∧ _ from by
      cases s with
      | none => exact ⟨rfl, rfl⟩
      | some z =>
        obtain rfl := hs z rfl
        have : pS m l = some (⟨t.toArray⟩, l.drop k) := by unfold pS; rw [hg]; simp
        exact ⟨aft_some this, got_some this⟩)
    have HIS : Hid ((tk s true k).isSome = s.isSome) := (show _ = _ by cases s <;> rfl)
    have HKL : Hid (∀ z, s = some z → true = true → k ≤ z.length) := (show ∀ z, _ from fun z e _ => by rw [← hs z e]; exact hkl)
    rw [hg] at CG
    obtain ⟨b, Hb⟩ : ∃ z, Hid (s.isSome = z) := ⟨_, rfl⟩
    rw [Hb.out] at HA HIS
    obtain ⟨ts, Hts⟩ : ∃ z : ByteArray, Hid ((⟨t.toArray⟩ : ByteArray) = z) := ⟨_, rfl⟩
    rw [Hts.out] at HA CG
    clear h hb hrd hs ht
    go_enter Try.func37, Try.ntmps37
    go_wp2_with fail
    refine CG.out.mono ?_
    rintro e w1 ⟨rfl, hb1⟩
    have H1 := hide (H.out.kept hb1)
    have HB1 := hide hb1
    have CT := hide (took_any H1.out true k (fun z e _ => HKL.out z e trivial))
    rw [HIS.out] at CT
    have d2 := H1.out.t.cell (j := 0) rfl
    unfold tookV at d2
    clear hb1 CG d1
    go_wp2_with fail
    refine CT.out.mono ?_
    rintro e w2 ⟨rfl, s2, c2⟩
    have S2 := hide s2
    have C2 : Hid (Chg (GF Bb Br) w w2) := (show Chg _ _ _ from (Chg.of_below HB1.out).trans c2)
    clear s2 c2 CT d2
    cases b with
    | false =>
      go_wp2_with fail
      go_ret
      rw [HA.out.1, HA.out.2]
      exact ⟨rfl, S2.out, C2.out⟩
    | true =>
      go_wp2_with fail
      go_ret
      rw [HA.out.1, HA.out.2]
      exact ⟨rfl, S2.out, C2.out⟩
#print axioms sstr_any
set_option maxRecDepth 100000 in
theorem sover_any {w0 w : World} {Bb Br Bt : Nat} {s : Option (List UInt8)} (h : SrcAt w0 w Bb Br Bt s) :
    Calls Try.prog 39 #[PT Br] w fun e w' => e = .returned (.bool (!s.isSome)) ∧ w' = w := by
  have d1 := h.r.cell (j := 0) rfl
  obtain ⟨b, Hb⟩ : ∃ z, Hid (s.isSome = z) := ⟨_, rfl⟩
  rw [Hb.out] at d1 ⊢
  clear h
  go_enter Try.func39, Try.ntmps39
  go_wp2_with fail
  go_ret
  exact ⟨rfl, rfl⟩
set_option maxRecDepth 100000 in
theorem sdone_any {w0 w : World} {Bb Br Bt : Nat} {s : Option (List UInt8)} (h : SrcAt w0 w Bb Br Bt s) :
    Calls Try.prog 40 #[PT Br, PT Bb] w fun e w' => e = .returned (.bool (decide (s = some []))) ∧ w' = w := by
  obtain ⟨v, l, hb, hrd, hl, hs⟩ := h.b
  have d1 := h.r.cell (j := 0) rfl
  have d2 := hb.cell (j := 0) rfl
  obtain ⟨a, cap, rfl⟩ := hrd.slice
  cases s with
  | none =>
    have d1 : w.cell? ⟨Br, 0, none⟩ = some (.bool false) := d1
    clear h hb hrd hs
    go_enter Try.func40, Try.ntmps40
    go_wp2_with fail
    go_ret
    exact ⟨rfl, rfl⟩
  | some z =>
    obtain rfl := hs z rfl
    have d1 : w.cell? ⟨Br, 0, none⟩ = some (.bool true) := d1
    have HD : Hid (decide (some l = some []) = decide (l.length = 0)) := (show _ = _ by cases l <;> simp)
    rw [HD.out]
    obtain ⟨n, Hn⟩ : ∃ z, Hid (l.length = z) := ⟨_, rfl⟩
    rw [Hn.out] at d2 ⊢
    clear h hb hrd hs HD
    by_cases h0 : n = 0
    · subst h0
      go_enter Try.func40, Try.ntmps40
      go_wp2_with fail
      go_ret
      exact ⟨by simp, rfl⟩
    · have q : ((n : Int) == 0) = false := by simp; omega
      go_enter Try.func40, Try.ntmps40
      go_wp2_with fail
      go_ret
      exact ⟨by simp [h0], rfl⟩
#print axioms sdone_any
end Go.Proofs.Ytmicmbjbclkbjaa

/-
  What is got: a pair, a write, a read's head: what the calls do.
-/
namespace Go.Proofs.Ytmicmbjbclkbjaa
open Go.RowKit
theorem wp_callP {P : Program} {o : Oper} {a : Act} {w : World} {T : World → Value → Prop} {Q : Exit → Act → World → Prop} (f : FuncId) (args : Array Value) (hrun : (execOp a.eval o).run P w = .ok (.enter f args) w)
    (hc : Calls P f args w fun e w' => ∃ v, e = .returned v ∧ T w' v) : o.wp P a w (fun a' w' => ∃ v, a' = a.put o.dst v ∧ T w' v) Q := by
  unfold Oper.wp
  rw [hrun]
  refine hc.mono ?_
  rintro e w' ⟨v, rfl, hv⟩
  exact ⟨v, rfl, hv⟩
theorem wpSeq_store_blk {P : Program} {w : World} {op : Oper} {rest : List Oper} {a : Act} {Q : Exit → Act → World → Prop} (hgd : op.guard = none) (ty : TypeId) (x y : Operand) (ho : op.op = .store ty x y)
    (b : Nat) (cs ds : List Value) (T : TypeId) (hx : a.eval x = .pointer (some ⟨b, 0, none⟩)) (hy : a.eval y = .agg ds.toArray) (hB : Blk w b T cs) (hl : ds.length = cs.length)
    (hi : (P.info? ty).map (·.size) = some ds.length) (h1 : ∀ u ∈ ds, u.oneCell' = true)
    (h : ∀ w', Blk w' b T ds → But b w w' → wpSeq P Q rest (a.put op.dst undef) w') : wpSeq P Q (op :: rest) a w :=
  ⟨hgd, wp_store_blk ty x y ho b cs ds T hx hy hB hl hi h1 fun w' h2 h3 => ⟨undef, rfl, h w' h2 h3⟩⟩
def pP2 (x : ByteArray) : Pa Pr := fun l => (pS 256 l).map fun t => ((x, t.1, false), t.2)
def pW2 (k : ByteArray) (d : Bool) : Pa Pr := fun l => (pT (!d) 256 l).map fun v => ((k, v.1, d), v.2)
def pW1 (k : ByteArray) : Pa Pr := fun l => (pF l).bind fun d => pW2 k d.1 d.2
def pR3 (b : Bool) (k t : ByteArray) : Pa Rp := fun l => (pL 200 pP l).map fun p => ((b, k, t, p.1), p.2)
def pR2 (b : Bool) (k : ByteArray) : Pa Rp := fun l => (pT b 64 l).bind fun t => pR3 b k t.1 t.2
def pR1 (b : Bool) : Pa Rp := fun l => (pS 64 l).bind fun k => pR2 b k.1 k.2
/-- What is told of a pair that was got. -/
def PrPost (w0 : World) (Bb Br Bt : Nat) (p : Pa Pr) (s : Option (List UInt8)) (w : World) (e : Ending) (w' : World) : Prop := ∃ x, e = .returned (.agg (PC x).toArray) ∧ SrcAt w0 w' Bb Br Bt (aft p s) ∧ (∀ y z, s.bind p = some (y, z) → x = y) ∧ Chg (GF Bb Br) w w'
/-- One behind the other. -/
theorem aft_bind {α β : Type} {p : Pa α} {f : α → Pa β} {P : Pa β} (hP : ∀ l, P l = (p l).bind fun q => f q.1 q.2) (d : α) (s : Option (List UInt8)) : aft P s = aft (f (got p d s)) (aft p s) := by
  cases s with
  | none => rfl
  | some l =>
    cases h : p l with
    | none => rw [aft_no h, aft_no (by rw [hP, h]; rfl)]; rfl
    | some q =>
      obtain ⟨x, z⟩ := q
      rw [aft_some h, got_some h]
      unfold aft
      simp [hP, h]
theorem val_bind {α β : Type} {p : Pa α} {f : α → Pa β} {P : Pa β} (hP : ∀ l, P l = (p l).bind fun q => f q.1 q.2) (d : α) {s : Option (List UInt8)} {y : β} {z : List UInt8} (h : s.bind P = some (y, z)) : (aft p s).bind (f (got p d s)) = some (y, z) := by
  cases s with
  | none => cases h
  | some l =>
    simp only [Option.bind_some] at h
    rw [hP] at h
    cases hp : p l with
    | none => rw [hp] at h; cases h
    | some q =>
      obtain ⟨x, z'⟩ := q
      rw [hp] at h
      rw [aft_some hp, got_some hp]
      exact h
theorem aft_map {α β : Type} {p : Pa α} {g : α → β} {P : Pa β} (hP : ∀ l, P l = (p l).map fun q => (g q.1, q.2)) (s : Option (List UInt8)) : aft P s = aft p s := by
  cases s with
  | none => rfl
  | some l =>
    unfold aft
    simp only [Option.bind_some, hP]
    cases p l <;> rfl
theorem val_map {α β : Type} {p : Pa α} {g : α → β} {P : Pa β} (hP : ∀ l, P l = (p l).map fun q => (g q.1, q.2)) (d : α) {s : Option (List UInt8)} {y : β} {z : List UInt8} (h : s.bind P = some (y, z)) : y = g (got p d s) ∧ aft p s = some z := by
  cases s with
  | none => cases h
  | some l =>
    simp only [Option.bind_some] at h
    rw [hP] at h
    cases hp : p l with
    | none => rw [hp] at h; cases h
    | some q =>
      obtain ⟨x, z'⟩ := q
      rw [hp] at h
      simp only [Option.map_some, Option.some.injEq, Prod.mk.injEq] at h
      rw [aft_some hp, got_some hp, ← h.1, ← h.2]
      exact ⟨rfl, rfl⟩
theorem val_got {α : Type} {p : Pa α} {d : α} {s : Option (List UInt8)} {y : α} {z : List UInt8} (h : s.bind p = some (y, z)) : got p d s = y ∧ aft p s = some z := by
  cases s with
  | none => cases h
  | some l => exact ⟨got_some h, aft_some h⟩
theorem SC6_one (Bb Br Bt : Nat) : ∀ u ∈ SC6 Bb Br Bt, u.oneCell' = true := by
  intro u hu
  simp only [SC6, List.mem_cons, List.not_mem_nil, or_false] at hu
  rcases hu with rfl | rfl | rfl | rfl | rfl <;> rfl
theorem Try.size47 : (Try.prog.info? 47).map (·.size) = some 5 := by kernel_rfl
theorem SrcAt.neT {w0 w : World} {Bb Br Bt k : Nat} {s : Option (List UInt8)} {T : TypeId} {cs : List Value} (h : SrcAt w0 w Bb Br Bt s) (hk : Blk w k T cs) (h1 : T ≠ 22) (h2 : T ≠ 4) : ¬ GF Bb Br k := fun e => by
  obtain ⟨v, l, hb, -⟩ := h.b
  rcases e with rfl | rfl
  · exact cells_ne hk hb h1 rfl
  · exact cells_ne hk h.r h2 rfl
theorem SrcAt.lt {w0 w : World} {Bb Br Bt : Nat} {s : Option (List UInt8)} (h : SrcAt w0 w Bb Br Bt s) : Bb < w.heap.size ∧ Br < w.heap.size := by
  obtain ⟨v, l, hb, -⟩ := h.b
  exact ⟨hb.lt, h.r.lt⟩
/-- A block that is none of the source's is written. -/
theorem SrcAt.other {w0 w w' : World} {Bb Br Bt k : Nat} {s : Option (List UInt8)} {T : TypeId} {cs : List Value} (h : SrcAt w0 w Bb Br Bt s) (hc : Chg (fun j => j = k) w w') (hk : Blk w k T cs) (h1 : T ≠ 22) (h2 : T ≠ 4) (h3 : T ≠ 61) (h0 : w0.heap.size ≤ k) : SrcAt w0 w' Bb Br Bt s := by
  obtain ⟨v, l, hb, hr⟩ := h.b
  have e1 : Bb ≠ k := fun e => cells_ne hk hb h1 e.symm
  have e2 : Br ≠ k := fun e => cells_ne hk h.r h2 e.symm
  have e3 : Bt ≠ k := fun e => cells_ne hk h.t h3 e.symm
  exact ⟨h.base.trans (hc.below h.base.size fun j hj e => by omega), h.lo, ⟨v, l, hb.chg hc e1, hr⟩, h.r.chg hc e2, h.t.chg hc e3⟩
theorem zeroPr (W : World) : (zeroValue 41).run Try.prog W = .ok (.agg #[.string ⟨#[]⟩, .string ⟨#[]⟩, .bool false]) W := by kernel_rfl
theorem ret_pair {fn : Func} {p : Tmp} (h : fn.results = #[.cell p 41]) (tmps : Array Value) (w : World) (g : Nat) (x : Pr) (hp : tmps.getD p undef = .pointer (some ⟨g, 0, none⟩)) (hB : Blk w g 41 (PC x)) :
    (results fn tmps).run Try.prog w = .ok (.agg (PC x).toArray) w :=
  results_cell_row h _ _ g 41 _ (0, 0) _ hp hB Try.underlying41 rfl Try.size41
theorem ret_readc {fn : Func} {p : Tmp} (h : fn.results = #[.cell p 39]) (tmps : Array Value) (w : World) (g : Nat) (x : Rz) (hp : tmps.getD p undef = .pointer (some ⟨g, 0, none⟩)) (hB : Blk w g 39 (XC x)) :
    (results fn tmps).run Try.prog w = .ok (.agg (XC x).toArray) w :=
  results_cell_row h _ _ g 39 _ (0, 0) _ hp hB Try.underlying39 rfl Try.size39
set_option linter.unusedSimpArgs false in
theorem build_kv (k v : ByteArray) : ∀ W : World, (Instr.build 41 #[(0, .string k), (1, .string v)]).run Try.prog W = .ok (.agg (PC (k, v, false)).toArray) W := fun W => by kernel_rfl
set_option maxHeartbeats 1000000 in
set_option maxRecDepth 100000 in
theorem spair_any {w0 w : World} {Bb Br Bt : Nat} {s : Option (List UInt8)} (h : SrcAt w0 w Bb Br Bt s) :
    Calls Try.prog 59 #[.agg (SC6 Bb Br Bt).toArray] w fun e w' => PrPost w0 Bb Br Bt pP s w e w' := by
  obtain ⟨N, HN⟩ : ∃ N, Hid (w.heap.size = N) := ⟨_, rfl⟩
  obtain ⟨w1, hw1⟩ : ∃ y, y = (w.alloc (.cells (SC6 Bb Br Bt).toArray 47 (0, 0))).alloc (.cells #[.string ⟨#[]⟩, .string ⟨#[]⟩, .bool false] 41 (0, 0)) := ⟨_, rfl⟩
  obtain ⟨bn, bz, l1⟩ := newB2 (A := SC6 Bb Br Bt) (B := [.string ⟨#[]⟩, .string ⟨#[]⟩, .bool false]) HN hw1
  have HW := hide hw1
  have BN := bn
  have BZ := bz
  have S0 := hide (h.kept l1.out)
  have h0s : Hid (w0.heap.size ≤ w.heap.size) := (show _ ≤ _ from h.base.size)
  have HNE := hide (S0.out.neT BN.out (by decide) (by decide))
  have HNZ := hide (S0.out.neT BZ.out (by decide) (by decide))
  have hz := zeroPr
  obtain ⟨k, Hk⟩ : ∃ z, Hid (got (pS 64) em s = z) := ⟨_, rfl⟩
  obtain ⟨s1, Hs1⟩ : ∃ z, Hid (aft (pS 64) s = z) := ⟨_, rfl⟩
  obtain ⟨v, Hv⟩ : ∃ z, Hid (got (pS 256) em s1 = z) := ⟨_, rfl⟩
  obtain ⟨s2, Hs2⟩ : ∃ z, Hid (aft (pS 256) s1 = z) := ⟨_, rfl⟩
  have C1 : Hid (∀ W, SrcAt w0 W Bb Br Bt s → Calls Try.prog 37 #[.int .i64 64, PT Bb, PT Bt] W fun e w' => e = .returned (.string k) ∧ SrcAt w0 w' Bb Br Bt s1 ∧ Chg (GF Bb Br) W w') := (show ∀ W, _ from fun W hW => by rw [← Hk.out, ← Hs1.out]; exact sstr_any hW 64 (by decide))
  have C2 : Hid (∀ W, SrcAt w0 W Bb Br Bt s1 → Calls Try.prog 37 #[.int .i64 256, PT Bb, PT Bt] W fun e w' => e = .returned (.string v) ∧ SrcAt w0 w' Bb Br Bt s2 ∧ Chg (GF Bb Br) W w') := (show ∀ W, _ from fun W hW => by rw [← Hv.out, ← Hs2.out]; exact sstr_any hW 256 (by decide))
  have HPP : Hid (aft pP s = s2 ∧ ∀ y z, s.bind pP = some (y, z) → (k, v, false) = y) := (show _ ∧ _ from by
    have hP : ∀ l, pP l = (pS 64 l).bind fun q => pP2 q.1 q.2 := fun l => rfl
    refine ⟨?_, fun y z hy => ?_⟩
    · rw [aft_bind (p := pS 64) (f := pP2) hP em s, Hk.out, Hs1.out, aft_map (P := pP2 k) (g := fun t => ((k, t, false) : Pr)) (p := pS 256) (fun l => rfl), Hs2.out]
    · have h1 := val_bind (p := pS 64) (f := pP2) hP em hy
      rw [Hk.out, Hs1.out] at h1
      have h2 := (val_map (P := pP2 k) (g := fun t => ((k, t, false) : Pr)) (p := pS 256) (fun l => rfl) em h1).1
      rw [Hv.out] at h2
      exact h2.symm)
  obtain ⟨SB, HSB⟩ : ∃ f : Nat → Option (List UInt8), f = fun b => if b = 0 then s else if b = 1 then s1 else s2 := ⟨_, rfl⟩
  have HB0 : SB 0 = s := by rw [HSB]; rfl
  have HB1 : SB 1 = s1 := by rw [HSB]; rfl
  have HB2 : SB 2 = s2 := by rw [HSB]; rfl
  clear hw1 bn bz HSB
  go_enter Try.func59, Try.ntmps59
  go_upto_region 1 with fail
  change Code.wp _ _ _ _ ((w.alloc (.cells (SC6 Bb Br Bt).toArray 47 (0, 0))).alloc (.cells #[.string ⟨#[]⟩, .string ⟨#[]⟩, .bool false] 41 (0, 0)))
  rw [← HW.out, HN.out]
  refine wp_region_chainR (R := Chg (GF Bb Br)) Try.mixed (KC (fun i_ => match i_ with | 0 | 3 => .val (.pointer (some ⟨N, 2, none⟩)) | 1 | 4 => .val (.func (.func 37) #[] #[PT Bb, PT Bt]) | 2 => .val (.string k) | 5 => .val (.string v) | 6 => .val (.agg (PC (k, v, false)).toArray) | _ => .free)) (fun b_ w_ => SrcAt w0 w_ Bb Br Bt (SB b_) ∧ Chg (GF Bb Br) w1 w_) [2, 5] 10 rfl (by decide +kernel) 7 (by decide) (by decide) (by decide) (by decide +kernel) (by decide +kernel) (KC_mono _) (KC_monoR (fun i_ h_ => (by split <;> first | rfl | exact absurd rfl h_))) (fun b_ w_ w_2 hg h => ⟨h.1.kept hg, h.2.trans (Chg.of_below hg)⟩) (⟨by rw [HB0]; exact S0.out, Chg.refl _ _⟩) ?_ ?_
  · refine AllFrom.cons ⟨rfl, fun _ a' b' w' hC hk hd Q => ?_, fun j_ hj_ => (pvR_no (by decide) j_ hj_).elim⟩ (AllFrom.cons ⟨rfl, fun _ a' b' w' hC hk hd Q => ?_, fun j_ hj_ => (pvR_no (by decide) j_ hj_).elim⟩ (AllFrom.cons ⟨rfl, fun h => absurd (by decide) h, fun j_ hj_ a' w' hC hk hd Q => ?_⟩ (AllFrom.cons ⟨rfl, fun _ a' b' w' hC hk hd Q => ?_, fun j_ hj_ => (pvR_no (by decide) j_ hj_).elim⟩ (AllFrom.cons ⟨rfl, fun _ a' b' w' hC hk hd Q => ?_, fun j_ hj_ => (pvR_no (by decide) j_ hj_).elim⟩ (AllFrom.cons ⟨rfl, fun h => absurd (by decide) h, fun j_ hj_ a' w' hC hk hd Q => ?_⟩ (AllFrom.cons ⟨rfl, fun _ a' b' w' hC hk hd Q => ?_, fun j_ hj_ => (pvR_no (by decide) j_ hj_).elim⟩ AllFrom.nil))))))
    · skip
      have e1 : a'.eval (.tmp 1) = .pointer (some ⟨N, 0, none⟩) := hk.at 1 (by decide +kernel)
      clear hd hk
      exact wp_value (.pointer (some ⟨N, 2, none⟩)) (by simp only [execOp, e1]; go_simp) (KC_mkv rfl rfl)
    · skip
      have e3 : a'.eval (.tmp 3) = .pointer (some ⟨N, 2, none⟩) := KC_val (hd.val 0 3 (by decide +kernel)) rfl
      have hc := (BN.out.chg hC.2 HNE.out).cell (j := 2) rfl
      clear hd hk
      exact wp_value (.func (.func 37) #[] #[PT Bb, PT Bt]) (by simp only [execOp, e3]; go_simp) (KC_mkv rfl rfl)
    · skip
      obtain rfl : j_ = 0 := pvR_at (by decide) rfl hj_
      have e4 : a'.eval (.tmp 4) = .func (.func 37) #[] #[PT Bb, PT Bt] := KC_val (hd.val 1 4 (by decide +kernel)) rfl
      have hc0 := hC.1
      rw [HB0] at hc0
      refine wp_callP 37 _ (run_enterV 37 _ _ 4 _ rfl e4 (by kernel_rfl)) ?_
      simp only [List.map_toArray, List.map_cons, List.map_nil, List.append_toArray, List.cons_append, List.nil_append, Act.eval]
      refine (C1.out w' hc0).mono ?_
      rintro e w5 ⟨rfl, s5, c5⟩
      rw [← HB1] at s5
      exact ⟨_, rfl, KC_mkv rfl rfl, c5, s5, hC.2.trans c5⟩
    · skip
      have e1 : a'.eval (.tmp 1) = .pointer (some ⟨N, 0, none⟩) := hk.at 1 (by decide +kernel)
      clear hd hk
      exact wp_value (.pointer (some ⟨N, 2, none⟩)) (by simp only [execOp, e1]; go_simp) (KC_mkv rfl rfl)
    · skip
      have e6 : a'.eval (.tmp 6) = .pointer (some ⟨N, 2, none⟩) := KC_val (hd.val 3 6 (by decide +kernel)) rfl
      have hc := (BN.out.chg hC.2 HNE.out).cell (j := 2) rfl
      clear hd hk
      exact wp_value (.func (.func 37) #[] #[PT Bb, PT Bt]) (by simp only [execOp, e6]; go_simp) (KC_mkv rfl rfl)
    · skip
      obtain rfl : j_ = 1 := pvR_at (by decide) rfl hj_
      have e7 : a'.eval (.tmp 7) = .func (.func 37) #[] #[PT Bb, PT Bt] := KC_val (hd.val 4 7 (by decide +kernel)) rfl
      have hc0 := hC.1
      rw [HB1] at hc0
      refine wp_callP 37 _ (run_enterV 37 _ _ 7 _ rfl e7 (by kernel_rfl)) ?_
      simp only [List.map_toArray, List.map_cons, List.map_nil, List.append_toArray, List.cons_append, List.nil_append, Act.eval]
      refine (C2.out w' hc0).mono ?_
      rintro e w5 ⟨rfl, s5, c5⟩
      rw [← HB2] at s5
      exact ⟨_, rfl, KC_mkv rfl rfl, c5, s5, hC.2.trans c5⟩
    · skip
      have e5 : a'.eval (.tmp 5) = .string k := KC_val (hd.val 2 5 (by decide +kernel)) rfl
      have e8 : a'.eval (.tmp 8) = .string v := KC_val (hd.val 5 8 (by decide +kernel)) rfl
      clear hd hk
      exact wp_value (.agg (PC (k, v, false)).toArray) (by simp only [execOp, List.map_toArray, List.map_cons, List.map_nil, e5, e8, Sem.run_bind, Sem.run_pure]; exact congrArg (fun r => Result.andThen r _) (build_kv k v _)) (KC_mkv rfl rfl)
  · intro a' w2 hsz hdf hk hall hC
    have S2 := hide hC.1
    have L2 := hide hC.2
    clear hC
    have e3 : a'.eval (.tmp 3) = .pointer (some ⟨N, 2, none⟩) := KC_val (hall 0 _ 3 (by decide) rfl rfl) rfl
    have e4 : a'.eval (.tmp 4) = .func (.func 37) #[] #[PT Bb, PT Bt] := KC_val (hall 1 _ 4 (by decide) rfl rfl) rfl
    have e5 : a'.eval (.tmp 5) = .string k := KC_val (hall 2 _ 5 (by decide) rfl rfl) rfl
    have e6 : a'.eval (.tmp 6) = .pointer (some ⟨N, 2, none⟩) := KC_val (hall 3 _ 6 (by decide) rfl rfl) rfl
    have e7 : a'.eval (.tmp 7) = .func (.func 37) #[] #[PT Bb, PT Bt] := KC_val (hall 4 _ 7 (by decide) rfl rfl) rfl
    have e8 : a'.eval (.tmp 8) = .string v := KC_val (hall 5 _ 8 (by decide) rfl rfl) rfl
    have e9 : a'.eval (.tmp 9) = .agg (PC (k, v, false)).toArray := KC_val (hall 6 _ 9 (by decide) rfl rfl) rfl
    have ha := act_puts 10 rfl hsz hdf hk [3, 4, 5, 6, 7, 8, 9] (by decide +kernel)
    simp only [puts, List.foldl_cons, List.foldl_nil, e3, e4, e5, e6, e7, e8, e9] at ha
    simp only [Act.put, List.setIfInBounds_toArray, List.set_cons_succ, List.set_cons_zero] at ha
    clear hall hk hsz hdf e3 e4 e5 e6 e7 e8 e9
    subst ha
    refine wpSeq_store_blk rfl 41 _ _ rfl (N + 1) _ (PC (k, v, false)) 41 rfl rfl (BZ.out.chg L2.out HNZ.out) rfl Try.size41 (PC_one _) ?_
    intro w3 hb3 hu3
    have C3 : Chg (fun j => j = N + 1) w2 w3 := Chg.of_but hu3 rfl
    have hz2 := BZ.out.chg L2.out HNZ.out
    have S3 : Hid (SrcAt w0 w3 Bb Br Bt s2) := (show SrcAt _ _ _ _ _ _ from by
      have h1 := S2.out
      rw [show ([2, 5] : List Nat).length = 2 from rfl, HB2] at h1
      exact h1.other C3 hz2 (by decide) (by decide) (by decide) (by have := S0.out.base.size; have := l1.out.size; have := HN.out; have := h0s.out; omega))
    simp only [wpSeq]
    go_wp2_with fail
    refine bodyPost_ret (ret_pair rfl _ _ (N + 1) (k, v, false) rfl hb3) rfl (show PrPost _ _ _ _ _ _ _ _ _ from ⟨(k, v, false), rfl, ?_, HPP.out.2, ?_⟩)
    · rw [HPP.out.1]
      exact S3.out
    · refine ((Chg.of_below l1.out).trans L2.out).then C3 (fun i hi e => absurd hi (by have := HN.out; omega))
#print axioms spair_any
theorem build_kd (k : ByteArray) (d : Bool) : ∀ W : World, (Instr.build 41 #[(0, .string k), (2, .bool d)]).run Try.prog W = .ok (.agg (PC (k, em, d)).toArray) W := fun W => by kernel_rfl
set_option linter.unusedSimpArgs false in
set_option maxHeartbeats 2000000 in
set_option maxRecDepth 100000 in
theorem swrite_any {w0 w : World} {Bb Br Bt : Nat} {s : Option (List UInt8)} (h : SrcAt w0 w Bb Br Bt s) :
    Calls Try.prog 44 #[.agg (SC6 Bb Br Bt).toArray] w fun e w' => PrPost w0 Bb Br Bt pW s w e w' := by
  obtain ⟨N, HN⟩ : ∃ N, Hid (w.heap.size = N) := ⟨_, rfl⟩
  obtain ⟨w1, hw1⟩ : ∃ y, y = (w.alloc (.cells (SC6 Bb Br Bt).toArray 47 (0, 0))).alloc (.cells #[.string ⟨#[]⟩, .string ⟨#[]⟩, .bool false] 41 (0, 0)) := ⟨_, rfl⟩
  obtain ⟨bn, bz, l1⟩ := newB2 (A := SC6 Bb Br Bt) (B := [.string ⟨#[]⟩, .string ⟨#[]⟩, .bool false]) HN hw1
  have HW := hide hw1
  have BN := bn
  have BZ := bz
  have S0 := hide (h.kept l1.out)
  have h0s : Hid (w0.heap.size ≤ w.heap.size) := (show _ ≤ _ from h.base.size)
  have HNE := hide (S0.out.neT BN.out (by decide) (by decide))
  have HNZ := hide (S0.out.neT BZ.out (by decide) (by decide))
  have HLT : Hid (Bb < w1.heap.size ∧ Br < w1.heap.size) := (show _ ∧ _ from S0.out.lt)
  have HN1 : Hid (w1.heap.size = N + 2) := (show _ = _ by rw [hw1]; simp [HN.out])
  obtain ⟨k, Hk⟩ : ∃ z, Hid (got (pS 64) em s = z) := ⟨_, rfl⟩
  obtain ⟨s1, Hs1⟩ : ∃ z, Hid (aft (pS 64) s = z) := ⟨_, rfl⟩
  obtain ⟨d, Hd⟩ : ∃ z, Hid (got pF false s1 = z) := ⟨_, rfl⟩
  obtain ⟨s2, Hs2⟩ : ∃ z, Hid (aft pF s1 = z) := ⟨_, rfl⟩
  have C1 : Hid (∀ W, SrcAt w0 W Bb Br Bt s → Calls Try.prog 37 #[.int .i64 64, PT Bb, PT Bt] W fun e w' => e = .returned (.string k) ∧ SrcAt w0 w' Bb Br Bt s1 ∧ Chg (GF Bb Br) W w') := (show ∀ W, _ from fun W hW => by rw [← Hk.out, ← Hs1.out]; exact sstr_any hW 64 (by decide))
  have C2 : Hid (∀ W, SrcAt w0 W Bb Br Bt s1 → Calls Try.prog 35 #[PT Bb, PT Bt] W fun e w' => e = .returned (.bool d) ∧ SrcAt w0 w' Bb Br Bt s2 ∧ Chg (GF Bb Br) W w') := (show ∀ W, _ from fun W hW => by rw [← Hd.out, ← Hs2.out]; exact sflag_any hW)
  have HPP : Hid (aft pW s = aft (pT (!d) 256) s2 ∧ ∀ y z, s.bind pW = some (y, z) → (k, got (pT (!d) 256) em s2, d) = y) := (show _ ∧ _ from by
    have hP : ∀ l, pW l = (pS 64 l).bind fun q => pW1 q.1 q.2 := fun l => rfl
    have hP2 : ∀ l, pW1 k l = (pF l).bind fun q => pW2 k q.1 q.2 := fun l => rfl
    refine ⟨?_, fun y z hy => ?_⟩
    · rw [aft_bind (p := pS 64) (f := pW1) hP em s, Hk.out, Hs1.out, aft_bind (p := pF) (f := pW2 k) hP2 false s1, Hd.out, Hs2.out, aft_map (P := pW2 k d) (g := fun t => ((k, t, d) : Pr)) (p := pT (!d) 256) (fun l => rfl)]
    · have h1 := val_bind (p := pS 64) (f := pW1) hP em hy
      rw [Hk.out, Hs1.out] at h1
      have h2 := val_bind (p := pF) (f := pW2 k) hP2 false h1
      rw [Hd.out, Hs2.out] at h2
      exact (val_map (P := pW2 k d) (g := fun t => ((k, t, d) : Pr)) (p := pT (!d) 256) (fun l => rfl) em h2).1.symm)
  obtain ⟨SB, HSB⟩ : ∃ f : Nat → Option (List UInt8), f = fun b => if b = 0 then s else if b = 1 then s1 else s2 := ⟨_, rfl⟩
  have HB0 : SB 0 = s := by rw [HSB]; rfl
  have HB1 : SB 1 = s1 := by rw [HSB]; rfl
  have HB2 : SB 2 = s2 := by rw [HSB]; rfl
  have hz := zeroPr
  clear hw1 bn bz HSB
  go_enter Try.func44, Try.ntmps44
  go_upto_region 1 with fail
  change Code.wp _ _ _ _ ((w.alloc (.cells (SC6 Bb Br Bt).toArray 47 (0, 0))).alloc (.cells #[.string ⟨#[]⟩, .string ⟨#[]⟩, .bool false] 41 (0, 0)))
  rw [← HW.out, HN.out]
  refine wp_region_chainR (R := Chg (GF Bb Br)) Try.mixed (KC (fun i_ => match i_ with | 0 => .val (.pointer (some ⟨N, 2, none⟩)) | 1 => .val (.func (.func 37) #[] #[PT Bb, PT Bt]) | 2 => .val (.string k) | 3 => .val (.pointer (some ⟨N, 1, none⟩)) | 4 => .val (.func (.func 35) #[] #[PT Bb, PT Bt]) | 5 => .val (.bool d) | 6 => .val (.agg (PC (k, em, d)).toArray) | 7 => .of (relChg _) (fun W x => ∃ B, x = PT B ∧ N + 2 ≤ B ∧ Blk W B 41 [.string ⟨#[]⟩, .string ⟨#[]⟩, .bool false]) (fun _ _ _ hr ⟨B, e, h1, h2⟩ => ⟨B, e, h1, h2.chg hr (fun e => by have := HLT.out; have := HN1.out; rcases e with e | e <;> omega)⟩) | _ => .free)) (fun b_ w_ => SrcAt w0 w_ Bb Br Bt (SB b_) ∧ Chg (GF Bb Br) w1 w_) [2, 5] 19 rfl (by decide +kernel) 8 (by decide) (by decide) (by decide) (by decide +kernel) (by decide +kernel) (KC_mono _) (KC_monoR (fun i_ h_ => (by split <;> first | rfl | exact absurd rfl h_))) (fun b_ w_ w_2 hg h => ⟨h.1.kept hg, h.2.trans (Chg.of_below hg)⟩) (⟨by rw [HB0]; exact S0.out, Chg.refl _ _⟩) ?_ ?_
  · refine AllFrom.cons ⟨rfl, fun _ a' b' w' hC hk hd Q => ?_, fun j_ hj_ => (pvR_no (by decide) j_ hj_).elim⟩ (AllFrom.cons ⟨rfl, fun _ a' b' w' hC hk hd Q => ?_, fun j_ hj_ => (pvR_no (by decide) j_ hj_).elim⟩ (AllFrom.cons ⟨rfl, fun h => absurd (by decide) h, fun j_ hj_ a' w' hC hk hd Q => ?_⟩ (AllFrom.cons ⟨rfl, fun _ a' b' w' hC hk hd Q => ?_, fun j_ hj_ => (pvR_no (by decide) j_ hj_).elim⟩ (AllFrom.cons ⟨rfl, fun _ a' b' w' hC hk hd Q => ?_, fun j_ hj_ => (pvR_no (by decide) j_ hj_).elim⟩ (AllFrom.cons ⟨rfl, fun h => absurd (by decide) h, fun j_ hj_ a' w' hC hk hd Q => ?_⟩ (AllFrom.cons ⟨rfl, fun _ a' b' w' hC hk hd Q => ?_, fun j_ hj_ => (pvR_no (by decide) j_ hj_).elim⟩ (AllFrom.cons ⟨rfl, fun _ a' b' w' hC hk hd Q => ?_, fun j_ hj_ => (pvR_no (by decide) j_ hj_).elim⟩ AllFrom.nil)))))))
    · skip
      have e1 : a'.eval (.tmp 1) = .pointer (some ⟨N, 0, none⟩) := hk.at 1 (by decide +kernel)
      clear hd hk
      exact wp_value (.pointer (some ⟨N, 2, none⟩)) (by simp only [execOp, e1]; go_simp) (KC_mkv rfl rfl)
    · skip
      have e4 : a'.eval (.tmp 4) = .pointer (some ⟨N, 2, none⟩) := KC_val (hd.val 0 4 (by decide +kernel)) rfl
      have hc := (BN.out.chg hC.2 HNE.out).cell (j := 2) rfl
      clear hd hk
      exact wp_value (.func (.func 37) #[] #[PT Bb, PT Bt]) (by simp only [execOp, e4]; go_simp) (KC_mkv rfl rfl)
    · skip
      obtain rfl : j_ = 0 := pvR_at (by decide) rfl hj_
      have e5 : a'.eval (.tmp 5) = .func (.func 37) #[] #[PT Bb, PT Bt] := KC_val (hd.val 1 5 (by decide +kernel)) rfl
      have hc0 := hC.1
      rw [HB0] at hc0
      refine wp_callP 37 _ (run_enterV 37 _ _ 5 _ rfl e5 (by kernel_rfl)) ?_
      simp only [List.map_toArray, List.map_cons, List.map_nil, List.append_toArray, List.cons_append, List.nil_append, Act.eval]
      refine (C1.out w' hc0).mono ?_
      rintro e w5 ⟨rfl, s5, c5⟩
      rw [← HB1] at s5
      exact ⟨_, rfl, KC_mkv rfl rfl, c5, s5, hC.2.trans c5⟩
    · skip
      have e1 : a'.eval (.tmp 1) = .pointer (some ⟨N, 0, none⟩) := hk.at 1 (by decide +kernel)
      clear hd hk
      exact wp_value (.pointer (some ⟨N, 1, none⟩)) (by simp only [execOp, e1]; go_simp) (KC_mkv rfl rfl)
    · skip
      have e7 : a'.eval (.tmp 7) = .pointer (some ⟨N, 1, none⟩) := KC_val (hd.val 3 7 (by decide +kernel)) rfl
      have hc := (BN.out.chg hC.2 HNE.out).cell (j := 1) rfl
      clear hd hk
      exact wp_value (.func (.func 35) #[] #[PT Bb, PT Bt]) (by simp only [execOp, e7]; go_simp) (KC_mkv rfl rfl)
    · skip
      obtain rfl : j_ = 1 := pvR_at (by decide) rfl hj_
      have e8 : a'.eval (.tmp 8) = .func (.func 35) #[] #[PT Bb, PT Bt] := KC_val (hd.val 4 8 (by decide +kernel)) rfl
      have hc0 := hC.1
      rw [HB1] at hc0
      refine wp_callP 35 _ (run_enterV 35 _ _ 8 _ rfl e8 (by kernel_rfl)) ?_
      simp only [List.map_toArray, List.map_cons, List.map_nil, List.append_toArray, List.cons_append, List.nil_append, Act.eval]
      refine (C2.out w' hc0).mono ?_
      rintro e w5 ⟨rfl, s5, c5⟩
      rw [← HB2] at s5
      exact ⟨_, rfl, KC_mkv rfl rfl, c5, s5, hC.2.trans c5⟩
    · skip
      have e6 : a'.eval (.tmp 6) = .string k := KC_val (hd.val 2 6 (by decide +kernel)) rfl
      have e9 : a'.eval (.tmp 9) = .bool d := KC_val (hd.val 5 9 (by decide +kernel)) rfl
      clear hd hk
      exact wp_value (.agg (PC (k, em, d)).toArray) (by simp only [execOp, List.map_toArray, List.map_cons, List.map_nil, e6, e9, Sem.run_bind, Sem.run_pure]; exact congrArg (fun r => Result.andThen r _) (build_kd k d _)) (KC_mkv rfl rfl)
    · skip
      have hz := zeroPr w'
      have hsz : N + 2 ≤ w'.heap.size := by have := hC.2.size; have := HN1.out; omega
      clear hd hk
      exact wp_grow (.pointer (some ⟨w'.heap.size, 0, none⟩)) _ (by simp only [execOp]; go_simp) ((Below.refl _ _).alloc (Nat.le_refl _) _) (KC_mko rfl ⟨_, rfl, hsz, Blk.new _ _ _⟩)
  · intro a' w2 hsz hdf hk hall hC
    have S2 := hide hC.1
    have L2 := hide hC.2
    clear hC
    have e4 : a'.eval (.tmp 4) = .pointer (some ⟨N, 2, none⟩) := KC_val (hall 0 _ 4 (by decide) rfl rfl) rfl
    have e5 : a'.eval (.tmp 5) = .func (.func 37) #[] #[PT Bb, PT Bt] := KC_val (hall 1 _ 5 (by decide) rfl rfl) rfl
    have e6 : a'.eval (.tmp 6) = .string k := KC_val (hall 2 _ 6 (by decide) rfl rfl) rfl
    have e7 : a'.eval (.tmp 7) = .pointer (some ⟨N, 1, none⟩) := KC_val (hall 3 _ 7 (by decide) rfl rfl) rfl
    have e8 : a'.eval (.tmp 8) = .func (.func 35) #[] #[PT Bb, PT Bt] := KC_val (hall 4 _ 8 (by decide) rfl rfl) rfl
    have e9 : a'.eval (.tmp 9) = .bool d := KC_val (hall 5 _ 9 (by decide) rfl rfl) rfl
    have e10 : a'.eval (.tmp 10) = .agg (PC (k, em, d)).toArray := KC_val (hall 6 _ 10 (by decide) rfl rfl) rfl
    have r3 := KC_of (hall 7 _ 3 (by decide) rfl rfl) rfl
    obtain ⟨x3, hx3⟩ : ∃ v, a'.eval (.tmp 3) = v := ⟨_, rfl⟩
    rw [hx3] at r3
    have ha := act_puts 19 rfl hsz hdf hk [4, 5, 6, 7, 8, 9, 10, 3] (by decide +kernel)
    simp only [puts, List.foldl_cons, List.foldl_nil, e4, e5, e6, e7, e8, e9, e10, hx3] at ha
    simp only [Act.put, List.setIfInBounds_toArray, List.set_cons_succ, List.set_cons_zero] at ha
    clear hall hk hsz hdf e4 e5 e6 e7 e8 e9 e10 hx3
    subst ha
    obtain ⟨G, e3, hG, hbG⟩ := r3
    subst e3
    refine wpSeq_store_blk rfl 41 _ _ rfl G _ (PC (k, em, d)) 41 rfl rfl hbG rfl Try.size41 (PC_one _) ?_
    intro w3 hb3 hu3
    have C3 : Hid (Chg (fun j => j = G) w2 w3) := (show Chg _ _ _ from Chg.of_but hu3 rfl)
    have S2' : Hid (SrcAt w0 w2 Bb Br Bt s2) := (show SrcAt _ _ _ _ _ _ from by
      have h1 := S2.out
      rwa [show ([2, 5] : List Nat).length = 2 from rfl, HB2] at h1)
    have S3 : Hid (SrcAt w0 w3 Bb Br Bt s2) := (show SrcAt _ _ _ _ _ _ from S2'.out.other C3.out hbG (by decide) (by decide) (by decide) (by have := S0.out.base.size; have := l1.out.size; have := HN.out; have := h0s.out; omega))
    have BZ3 : Hid (Blk w3 (N + 1) 41 [.string ⟨#[]⟩, .string ⟨#[]⟩, .bool false]) := (show Blk _ _ _ _ from (BZ.out.chg L2.out HNZ.out).chg C3.out (by omega))
    have B3 := hide hb3
    have HG9 := hide hG
    have W3 : Hid (∀ w4 w5 k2, Chg (GF Bb Br) w3 w4 → Chg (fun j => j = G) w4 w5 → k2 = N + 1 → ∀ w6, Chg (fun j => j = k2) w5 w6 → Chg (GF Bb Br) w w6) := (show ∀ w4 w5 k2, _ from fun w4 w5 k2 h4 h5 hk w6 h6 => by
      have a1 : Chg (GF Bb Br) w w2 := (Chg.of_below l1.out).trans L2.out
      have a2 : Chg (GF Bb Br) w w3 := a1.then C3.out (fun i hi e => absurd hi (by have := HN.out; omega))
      have a3 : Chg (GF Bb Br) w w5 := (a2.trans h4).then h5 (fun i hi e => absurd hi (by have := HN.out; omega))
      exact a3.then h6 (fun i hi e => absurd hi (by have := HN.out; omega)))
    simp only [wpSeq]
    clear hb3 hu3 hG hbG S2 S2'
    have d2 := B3.out.dead
    cases d with
    | true =>
      have rk := B3.out.range0
      go_wp2_with (first
        | (refine wpList_load_mid rfl 41 _ rfl G 0 rfl (PC (k, em, true)) _ rk Try.underlying41 rfl Try.size41 ?_)
        | (refine wpList_store_blk rfl 41 (.tmp 2) (.tmp 18) rfl (N + 1) _ (PC (k, em, true)) 41 rfl rfl BZ3.out rfl Try.size41 (PC_one _) ?_; intro w8 hb8 hu8)
        | fail)
      refine bodyPost_ret (ret_pair rfl _ _ (N + 1) (k, em, true) rfl hb8) rfl (show PrPost _ _ _ _ _ _ _ _ _ from ⟨(k, em, true), rfl, ?_, ?_, ?_⟩)
      · rw [HPP.out.1]
        show SrcAt w0 w8 Bb Br Bt (aft (pT false 256) s2)
        rw [show aft (pT false 256) s2 = s2 from by cases s2 <;> rfl]
        exact S3.out.other (Chg.of_but hu8 rfl) BZ3.out (by decide) (by decide) (by decide) (by have := S0.out.base.size; have := HN.out; have := h0s.out; omega)
      · intro y z hy
        rw [← HPP.out.2 y z hy]
        show (k, em, true) = (k, got (pT false 256) em s2, true)
        rw [show got (pT false 256) em s2 = em from by cases s2 <;> rfl]
      · exact W3.out w3 w3 (N + 1) (Chg.refl _ _) (Chg.refl _ _) rfl w8 (Chg.of_but hu8 rfl)
    | false =>
      have hpt : pT (!false) 256 = pS 256 := by funext l; rfl
      have CS := hide (sstr_any S3.out 256 (by decide))
      obtain ⟨v, Hv⟩ : ∃ z, Hid (got (pS 256) em s2 = z) := ⟨_, rfl⟩
      obtain ⟨s3, Hs3⟩ : ∃ z, Hid (aft (pS 256) s2 = z) := ⟨_, rfl⟩
      have HQ : Hid (aft pW s = s3 ∧ ∀ y z, s.bind pW = some (y, z) → (k, v, false) = y) := (show _ ∧ _ from by
        have h1 := HPP.out
        rwa [hpt, Hv.out, Hs3.out] at h1)
      rw [Hv.out, Hs3.out] at CS
      have BN3 : Hid (Blk w3 N 47 (SC6 Bb Br Bt)) := (show Blk _ _ _ _ from (BN.out.chg L2.out HNE.out).chg C3.out (by have := HG9.out; omega))
      have d1 := BN3.out.cell (j := 2) rfl
      clear hpt
      go_wp2_with fail
      refine CS.out.mono ?_
      rintro e w4 ⟨rfl, s4, c4⟩
      have S4 := hide s4
      have C4 := hide c4
      have B4 : Hid (Blk w4 G 41 (PC (k, em, false))) := (show Blk _ _ _ _ from B3.out.chg c4 (S3.out.neT B3.out (by decide) (by decide)))
      have BZ4 : Hid (Blk w4 (N + 1) 41 [.string ⟨#[]⟩, .string ⟨#[]⟩, .bool false]) := (show Blk _ _ _ _ from BZ3.out.chg c4 (S3.out.neT BZ3.out (by decide) (by decide)))
      clear s4 c4 CS d1 d2
      have hf := B4.out.frozen 1
      have hc9 := B4.out.cell (j := 1) rfl
      obtain ⟨w5, hw5⟩ : ∃ z, z = w4.setCell ⟨G, 1, none⟩ (.string v) := ⟨_, rfl⟩
      have B5 : Hid (Blk w5 G 41 (PC (k, v, false))) := (show Blk _ _ _ _ by rw [hw5]; exact B4.out.set 1 (.string v))
      have C5 : Hid (Chg (fun j => j = G) w4 w5) := (show Chg _ _ _ by rw [hw5]; exact Chg.of_but (But.setCell G w4 1 (.string v)) rfl)
      have HW5 := hide hw5
      clear hw5
      go_upto_region 4 with fail
      try simp only [Act.put]
      change Code.wp _ _ _ _ (w4.setCell ⟨G, 1, none⟩ (.string v))
      rw [← HW5.out]
      have S5 : Hid (SrcAt w0 w5 Bb Br Bt s3) := (show SrcAt _ _ _ _ _ _ from S4.out.other C5.out B4.out (by decide) (by decide) (by decide) (by have := HG9.out; have := S0.out.base.size; have := HN.out; have := h0s.out; omega))
      have BZ5 : Hid (Blk w5 (N + 1) 41 [.string ⟨#[]⟩, .string ⟨#[]⟩, .bool false]) := (show Blk _ _ _ _ from BZ4.out.chg C5.out (by have := HG9.out; omega))
      have rk := B5.out.range0
      clear hf hc9
      go_wp2_with (first
        | (refine wpList_load_mid rfl 41 _ rfl G 0 rfl (PC (k, v, false)) _ rk Try.underlying41 rfl Try.size41 ?_)
        | (refine wpList_store_blk rfl 41 (.tmp 2) (.tmp 18) rfl (N + 1) _ (PC (k, v, false)) 41 rfl rfl BZ5.out rfl Try.size41 (PC_one _) ?_; intro w8 hb8 hu8)
        | fail)
      refine bodyPost_ret (ret_pair rfl _ _ (N + 1) (k, v, false) rfl hb8) rfl (show PrPost _ _ _ _ _ _ _ _ _ from ⟨(k, v, false), rfl, ?_, ?_, ?_⟩)
      · rw [HQ.out.1]
        exact S5.out.other (Chg.of_but hu8 rfl) BZ5.out (by decide) (by decide) (by decide) (by have := S0.out.base.size; have := HN.out; have := h0s.out; omega)
      · exact HQ.out.2
      · exact W3.out w4 w5 (N + 1) C4.out C5.out rfl w8 (Chg.of_but hu8 rfl)
#print axioms swrite_any
end Go.Proofs.Ytmicmbjbclkbjaa

/-
  What is got: lists of pairs, of writes: what the calls do.
-/
namespace Go.Proofs.Ytmicmbjbclkbjaa
open Go.RowKit
theorem got_le (m : Nat) (s : Option (List UInt8)) : got (pN m) 0 s ≤ m := by
  cases s with
  | none => exact Nat.zero_le _
  | some l =>
    cases h : pN m l with
    | none => rw [got_no h]; exact Nat.zero_le _
    | some q =>
      obtain ⟨n, z⟩ := q
      rw [got_some h]
      exact (pN_ok h).2
theorem pK_aft {α : Type} (p : Pa α) (j : Nat) (s : Option (List UInt8)) : aft (pK p (j + 1)) s = aft (pK p j) (aft p s) := by
  cases s with
  | none => rfl
  | some l =>
    cases h : p l with
    | none => rw [aft_no h, aft_no (by simp [pK, h])]; rfl
    | some q =>
      obtain ⟨x, z⟩ := q
      rw [aft_some h]
      unfold aft
      simp only [Option.bind_some, pK, h]
      cases pK p j z <;> rfl
theorem pK_val {α : Type} {p : Pa α} {j : Nat} {s : Option (List UInt8)} {ys : List α} {z : List UInt8} (h : s.bind (pK p (j + 1)) = some (ys, z)) : ∃ x xs z1, ys = x :: xs ∧ s.bind p = some (x, z1) ∧ (aft p s).bind (pK p j) = some (xs, z) := by
  cases s with
  | none => cases h
  | some l =>
    simp only [Option.bind_some, pK] at h
    cases hp : p l with
    | none => rw [hp] at h; cases h
    | some q =>
      obtain ⟨x, z1⟩ := q
      rw [hp] at h
      simp only [Option.bind_some, Option.map_eq_some_iff, Prod.mk.injEq] at h
      obtain ⟨t, h1, h2, h3⟩ := h
      refine ⟨x, t.1, z1, h2.symm, by simp [hp], ?_⟩
      rw [aft_some hp, ← h3]
      exact h1
theorem pL_aft {α : Type} (m : Nat) (p : Pa α) (s : Option (List UInt8)) : aft (pL m p) s = aft (pK p (got (pN m) 0 s)) (aft (pN m) s) := aft_bind (p := pN m) (f := pK p) (fun _ => rfl) 0 s
theorem pL_val {α : Type} {m : Nat} {p : Pa α} {s : Option (List UInt8)} {ys : List α} {z : List UInt8} (h : s.bind (pL m p) = some (ys, z)) : (aft (pN m) s).bind (pK p (got (pN m) 0 s)) = some (ys, z) := val_bind (p := pN m) (f := pK p) (fun _ => rfl) 0 h
theorem pK_zero {α : Type} {p : Pa α} (s : Option (List UInt8)) : aft (pK p 0) s = s := by cases s <;> rfl
theorem pK_nil {α : Type} {p : Pa α} {s : Option (List UInt8)} {xs : List α} {z : List UInt8} (h : s.bind (pK p 0) = some (xs, z)) : xs = [] := by
  cases s with
  | none => cases h
  | some l =>
    simp only [Option.bind_some, pK, Option.some.injEq, Prod.mk.injEq] at h
    exact h.1.symm
theorem SrcAt.grow {α : Type} {E : Enc α} {w0 w w' : World} {Bb Br Bt B : Nat} {s : Option (List UInt8)} {T : TypeId} {v : Value} {L : List α} (h : SrcAt w0 w Bb Br Bt s) (hc : Chg (fun j => v.ownBlock = some j) w w') (ho : OwnG E w B T v L) (h1 : T ≠ 22) (h2 : T ≠ 4) (h3 : T ≠ 61) (h0 : w0.heap.size ≤ B) : SrcAt w0 w' Bb Br Bt s := by
  cases hv : v.ownBlock with
  | none =>
    rw [hv] at hc
    exact h.kept (hc.below (Nat.le_refl _) fun k _ e => by cases e)
  | some g =>
    obtain ⟨h4, _, cu, h5⟩ := ho.block hv
    rw [hv] at hc
    exact h.other (hc.mono fun k _ e => (Option.some.inj e).symm) (show Blk w g T cu.toList from h5) h1 h2 h3 (Nat.le_trans h0 h4)
/-- What is told of a list of pairs that was got. -/
def LsPost (w0 : World) (Bb Br Bt m : Nat) (p : Pa Pr) (s : Option (List UInt8)) (w : World) (e : Ending) (w' : World) : Prop := ∃ v L, e = .returned v ∧ OwnG PE w' w.heap.size 41 v L ∧ L.length ≤ m ∧ SrcAt w0 w' Bb Br Bt (aft (pL m p) s) ∧ (∀ ys z, s.bind (pL m p) = some (ys, z) → L = ys) ∧ Chg (GF Bb Br) w w'
set_option maxHeartbeats 2000000 in
set_option maxRecDepth 100000 in
theorem slistP_any {w0 w : World} {Bb Br Bt : Nat} {s : Option (List UInt8)} (h : SrcAt w0 w Bb Br Bt s) (m : Nat) (hm : m ≤ 1000) :
    Calls Try.prog 43 #[.agg (SC6 Bb Br Bt).toArray, .int .u64 (m : Int), .func (.func 59) #[] #[]] w fun e w' => LsPost w0 Bb Br Bt m pP s w e w' := by
  obtain ⟨M, HM⟩ : ∃ N, Hid (w.heap.size = N) := ⟨_, rfl⟩
  obtain ⟨w1, hw1⟩ : ∃ y, y = w.alloc (.cells (SC6 Bb Br Bt).toArray 47 (0, 0)) := ⟨_, rfl⟩
  obtain ⟨bn, l1⟩ := newB (A := SC6 Bb Br Bt) HM hw1
  have HW := hide hw1
  have S1 := hide (h.kept l1.out)
  have HLT : Hid (Bb < M ∧ Br < M) := (show _ ∧ _ by rw [← HM.out]; exact h.lt)
  have h0M : Hid (w0.heap.size ≤ M) := (show _ ≤ _ by rw [← HM.out]; exact h.base.size)
  have HS1 : Hid (w1.heap.size = M + 1) := (show _ = _ by rw [hw1, World.size_alloc, HM.out])
  have hM1 : Hid (M ≤ w1.heap.size) := (show _ ≤ _ from Nat.le_of_lt bn.out.lt)
  have HNE := hide (S1.out.neT bn.out (by decide) (by decide))
  obtain ⟨n, Hn⟩ : ∃ z, Hid (got (pN m) 0 s = z) := ⟨_, rfl⟩
  obtain ⟨s1, Hs1⟩ : ∃ z, Hid (aft (pN m) s = z) := ⟨_, rfl⟩
  have hnm : n ≤ m := by rw [← Hn.out]; exact got_le m s
  have CN := hide (snum_any S1.out m (by omega))
  rw [Hn.out, Hs1.out] at CN
  have HPA : Hid (aft (pK pP n) s1 = aft (pL m pP) s) := (show _ = _ by rw [pL_aft, Hn.out, Hs1.out])
  have HPV : Hid (∀ ys z, s.bind (pL m pP) = some (ys, z) → s1.bind (pK pP n) = some (ys, z)) := (show ∀ ys z, _ from fun ys z hy => by have := pL_val hy; rwa [Hn.out, Hs1.out] at this)
  have d0 := bn.out.cell (j := 0) rfl
  clear h hw1
  go_enter Try.func43, Try.ntmps43
  go_upto_region 1 with fail
  change Code.wp _ _ _ _ (w.alloc (.cells (SC6 Bb Br Bt).toArray 47 (0, 0)))
  rw [← HW.out, HM.out]
  go_wp2_with fail
  refine CN.out.mono ?_
  rintro e w2 ⟨rfl, s2, c2⟩
  have S0 : Hid (SrcAt w0 w2 Bb Br Bt s1) := (show SrcAt _ _ _ _ _ _ from s2)
  have C0 : Hid (Chg (GF Bb Br) w1 w2) := (show Chg _ _ _ from c2)
  have O0 : Hid (OwnG PE w2 M 41 (.slice none 0 0) []) := (show _ from ownG_nil _ _ _)
  have A0 : Hid (aft (pK pP (n - 0)) s1 = aft (pL m pP) s) := (show _ = _ from HPA.out)
  have V0 : Hid (∀ ys z, s.bind (pL m pP) = some (ys, z) → ∃ xs, ys = ([] : List Pr) ++ xs ∧ s1.bind (pK pP (n - 0)) = some (xs, z)) := (show ∀ ys z, _ from fun ys z hy => ⟨ys, rfl, HPV.out ys z hy⟩)
  clear s2 c2 CN d0
  go_wp2_with fail
  go_loopg [7, 12] (n + 1) (fun g x z wr => ∃ (i : Nat) (L : List Pr) (a : Option Addr) (q c : Nat) (si : Option (List UInt8)), i ≤ n ∧ g + i = n + 1 ∧ x = .slice a q c ∧ z = .int .i64 (i : Int) ∧ Hid (L.length = q) ∧ q ≤ i ∧ Hid (OwnG PE wr M 41 (.slice a q c) L) ∧ Hid (SrcAt w0 wr Bb Br Bt si) ∧ Hid (aft (pK pP (n - i)) si = aft (pL m pP) s) ∧ Hid (∀ ys z, s.bind (pL m pP) = some (ys, z) → ∃ xs, ys = L ++ xs ∧ si.bind (pK pP (n - i)) = some (xs, z)) ∧ Hid (Chg (GF Bb Br) w1 wr))
  case atStart => exact ⟨0, [], none, 0, 0, s1, Nat.zero_le _, by omega, rfl, rfl, (show _ = _ from rfl), Nat.le_refl _, O0, S0, A0, V0, C0⟩
  case round =>
    clear S0 C0 O0 A0 V0 HPA HPV
    obtain ⟨i, L, a, q, c, si, hi, hg, rfl, rfl, HQ, hqi, OR, SR, AR, VR, CR⟩ := hrel
    by_cases hlt : i < n
    · have hlt' : (i : Int) < (n : Int) := by omega
      have CG := hide (spair_any SR.out)
      have rk := (bn.out.chg CR.out HNE.out).range0
      obtain ⟨W, HWr⟩ : ∃ z, Hid (wr.heap.size = z) := ⟨_, rfl⟩
      have hMW : M ≤ W := by have h1 := CR.out.size; have h2 := hM1.out; have h3 := HWr.out; omega
      have HGK : Hid (∀ k, M ≤ k → ¬ GF Bb Br k) := (show ∀ k, _ from fun k hk e => by have := HLT.out; rcases e with e | e <;> omega)
      go_wp2_with (first
        | (refine wpList_load_mid rfl 47 _ rfl M 0 rfl (SC6 Bb Br Bt) _ rk Try.underlying47 rfl Try.size47 ?_)
        | fail)
      refine CG.out.mono ?_
      rintro e w3 ⟨x, rfl, S3, V3, C3⟩
      have S3 := hide S3
      have V3 := hide V3
      have C3 := hide C3
      obtain ⟨s3, Hs3⟩ : ∃ z, Hid (aft pP si = z) := ⟨_, rfl⟩
      rw [Hs3.out] at S3
      have hWs : wr.heap.size ≤ w3.heap.size := C3.out.size
      have O3 : Hid (OwnG PE w3 M 41 (.slice a q c) L) := (show _ from OR.out.chg C3.out (fun k hk e => HGK.out k (OR.out.block hk).1 e))
      obtain ⟨w4, hw4⟩ : ∃ y, y = w3.alloc (.cells (PE.c x).toArray 41 (0, 0)) := ⟨_, rfl⟩
      have l4 : Hid (Below w3.heap.size w3 w4) := (show Below _ _ _ by rw [hw4]; exact (Below.refl _ _).alloc (Nat.le_refl _) _)
      have R4 : Hid (RdG PE w4 (.slice (some ⟨w3.heap.size, 0, none⟩) 1 1) [x]) := (show RdG _ _ _ _ by rw [hw4]; exact rdG_one (E := PE) w3 41 x)
      have O4 : Hid (OwnG PE w4 M 41 (.slice a q c) L) := (show OwnG _ _ _ _ _ _ from O3.out.kept l4.out)
      have HL9 : Hid (L.length + [x].length ≤ 10000000) := (show _ ≤ _ by rw [List.length_singleton, HQ.out]; omega)
      have HL8 : Hid (M ≤ w4.heap.size) := (show _ ≤ _ by have h1 := l4.out.size; have h2 := HWr.out; omega)
      have HW4 := hide hw4
      clear hw4 CG rk
      go_wp2_with (first
        | (refine wpList_build1E (E := PE) build_pairs1 rfl _ rfl x rfl ?_; change wpList _ _ _ _ _ (w3.alloc (.cells (PE.c x).toArray 41 (0, 0))); rw [← HW4.out])
        | (refine wpList_append_E (E := PE) Try.underlying25 infoP9 (by decide) rfl (.tmp 14) (.tmp 18) rfl M (.slice a q c) L rfl O4.out (.slice (some ⟨w3.heap.size, 0, none⟩) 1 1) [x] rfl R4.out HL9.out HL8.out ?_; intro v9 w9 o9 g9 q9; obtain ⟨p9, c9, hv9⟩ := o9.form; have hn9 : (L ++ [x]).length = q + 1 := (by rw [List.length_append, List.length_singleton, HQ.out]); rw [hn9] at hv9; subst hv9; have O9 := hide o9; have G9 := hide g9; have HN9 := hide hn9; clear o9 g9 q9 hn9; have K9 : Hid (Chg (fun b => (Value.slice a q c).ownBlock = some b) w3 w9) := (show Chg _ _ _ from (Chg.of_below l4.out).trans (Chg.of_grown G9.out (fun k e _ => e))); have S9 := hide (S3.out.grow K9.out O3.out (by decide) (by decide) (by decide) h0M.out); have B9 : Hid (Blk w9 M 47 (SC6 Bb Br Bt)) := (show Blk _ _ _ _ from ((bn.out.chg CR.out HNE.out).chg C3.out HNE.out).chg K9.out (fun e => by obtain ⟨_, _, cu, h5⟩ := O3.out.block e; exact cells_ne h5 ((bn.out.chg CR.out HNE.out).chg C3.out HNE.out) (by decide) rfl)); have d3 := B9.out.cell (j := 3) rfl; have CO := hide (sover_any S9.out))
        | fail)
      refine CO.out.mono ?_
      rintro e w_ ⟨rfl, hw_⟩
      subst w_
      have C9 : Hid (Chg (GF Bb Br) w1 w9) := (show Chg _ _ _ from (CR.out.trans C3.out).then K9.out (fun k hk e => by
        obtain ⟨h1, _, cu, h5⟩ := O3.out.block e
        obtain rfl : k = M := by have := HS1.out; omega
        exact absurd rfl (cells_ne h5 ((bn.out.chg CR.out HNE.out).chg C3.out HNE.out) (by decide))))
      have ON : Hid (OwnG PE w9 M 41 (.slice p9 (q + 1) c9) (L ++ [x])) := (show _ from O9.out)
      obtain ⟨j, Hj⟩ : ∃ j, Hid (n - i = j + 1) := ⟨n - i - 1, (show _ = _ by omega)⟩
      have hj2 : n - (i + 1) = j := by have := Hj.out; omega
      have AN : Hid (aft (pK pP (n - (i + 1))) s3 = aft (pL m pP) s) := (show _ = _ by rw [hj2, ← AR.out, Hj.out, pK_aft, Hs3.out])
      have VN : Hid (∀ ys z, s.bind (pL m pP) = some (ys, z) → ∃ xs, ys = (L ++ [x]) ++ xs ∧ s3.bind (pK pP (n - (i + 1))) = some (xs, z)) := (show ∀ ys z, _ from fun ys z hy => by
        obtain ⟨xs, h1, h2⟩ := VR.out ys z hy
        rw [Hj.out] at h2
        obtain ⟨x0, xs0, z1, h3, h4, h5⟩ := pK_val h2
        rw [Hs3.out] at h5
        refine ⟨xs0, ?_, by rw [hj2]; exact h5⟩
        rw [h1, h3, ← V3.out x0 z1 h4]
        simp)
      obtain ⟨ov, Hov⟩ : ∃ z, Hid ((!s3.isSome) = z) := ⟨_, rfl⟩
      rw [Hov.out]
      clear CO d3
      cases ov with
      | true =>
        have h3n : s3 = none := by
          have := Hov.out
          cases s3 with
          | none => rfl
          | some z => cases this
        subst h3n
        have PN : Hid (LsPost w0 Bb Br Bt m pP s w (.returned (.slice p9 (q + 1) c9)) w9) := (show _ from ⟨_, L ++ [x], rfl, (show _ by rw [HM.out]; exact ON.out), by have := HN9.out; omega, by rw [← AN.out, aft_none]; exact S9.out, (fun ys z hy => by
          obtain ⟨xs, -, h2⟩ := VN.out ys z hy
          cases h2), (Chg.of_below l1.out).trans C9.out⟩)
        go_wp2_with fail
        go_ret
        exact PN.out
      | false =>
        go_wp2_with fail
        go_roundg (n - i)
        case measure => omega
        case rel => exact ⟨i + 1, L ++ [x], p9, q + 1, c9, s3, by omega, by omega, rfl, by go_num, HN9, by omega, ON, S9, AN, VN, C9⟩
    · obtain rfl : i = n := by omega
      have hlt' : ¬ (i : Int) < i := by omega
      have PN : Hid (LsPost w0 Bb Br Bt m pP s w (.returned (.slice a q c)) wr) := (show _ from ⟨_, L, rfl, (show _ by rw [HM.out]; exact OR.out), by have := HQ.out; omega, by
        rw [← AR.out, Nat.sub_self, show aft (pK pP 0) si = si from pK_zero si]
        exact SR.out, fun ys z hy => by
        obtain ⟨xs, h1, h2⟩ := VR.out ys z hy
        rw [Nat.sub_self] at h2
        rw [h1, pK_nil h2, List.append_nil], (Chg.of_below l1.out).trans CR.out⟩)
      go_wp2_with fail
      go_ret
      exact PN.out
#print axioms slistP_any
set_option maxHeartbeats 2000000 in
set_option maxRecDepth 100000 in
theorem slistW_any {w0 w : World} {Bb Br Bt : Nat} {s : Option (List UInt8)} (h : SrcAt w0 w Bb Br Bt s) (m : Nat) (hm : m ≤ 1000) :
    Calls Try.prog 43 #[.agg (SC6 Bb Br Bt).toArray, .int .u64 (m : Int), .func (.func 44) #[] #[]] w fun e w' => LsPost w0 Bb Br Bt m pW s w e w' := by
  obtain ⟨M, HM⟩ : ∃ N, Hid (w.heap.size = N) := ⟨_, rfl⟩
  obtain ⟨w1, hw1⟩ : ∃ y, y = w.alloc (.cells (SC6 Bb Br Bt).toArray 47 (0, 0)) := ⟨_, rfl⟩
  obtain ⟨bn, l1⟩ := newB (A := SC6 Bb Br Bt) HM hw1
  have HW := hide hw1
  have S1 := hide (h.kept l1.out)
  have HLT : Hid (Bb < M ∧ Br < M) := (show _ ∧ _ by rw [← HM.out]; exact h.lt)
  have h0M : Hid (w0.heap.size ≤ M) := (show _ ≤ _ by rw [← HM.out]; exact h.base.size)
  have HS1 : Hid (w1.heap.size = M + 1) := (show _ = _ by rw [hw1, World.size_alloc, HM.out])
  have hM1 : Hid (M ≤ w1.heap.size) := (show _ ≤ _ from Nat.le_of_lt bn.out.lt)
  have HNE := hide (S1.out.neT bn.out (by decide) (by decide))
  obtain ⟨n, Hn⟩ : ∃ z, Hid (got (pN m) 0 s = z) := ⟨_, rfl⟩
  obtain ⟨s1, Hs1⟩ : ∃ z, Hid (aft (pN m) s = z) := ⟨_, rfl⟩
  have hnm : n ≤ m := by rw [← Hn.out]; exact got_le m s
  have CN := hide (snum_any S1.out m (by omega))
  rw [Hn.out, Hs1.out] at CN
  have HPA : Hid (aft (pK pW n) s1 = aft (pL m pW) s) := (show _ = _ by rw [pL_aft, Hn.out, Hs1.out])
  have HPV : Hid (∀ ys z, s.bind (pL m pW) = some (ys, z) → s1.bind (pK pW n) = some (ys, z)) := (show ∀ ys z, _ from fun ys z hy => by have := pL_val hy; rwa [Hn.out, Hs1.out] at this)
  have d0 := bn.out.cell (j := 0) rfl
  clear h hw1
  go_enter Try.func43, Try.ntmps43
  go_upto_region 1 with fail
  change Code.wp _ _ _ _ (w.alloc (.cells (SC6 Bb Br Bt).toArray 47 (0, 0)))
  rw [← HW.out, HM.out]
  go_wp2_with fail
  refine CN.out.mono ?_
  rintro e w2 ⟨rfl, s2, c2⟩
  have S0 : Hid (SrcAt w0 w2 Bb Br Bt s1) := (show SrcAt _ _ _ _ _ _ from s2)
  have C0 : Hid (Chg (GF Bb Br) w1 w2) := (show Chg _ _ _ from c2)
  have O0 : Hid (OwnG PE w2 M 41 (.slice none 0 0) []) := (show _ from ownG_nil _ _ _)
  have A0 : Hid (aft (pK pW (n - 0)) s1 = aft (pL m pW) s) := (show _ = _ from HPA.out)
  have V0 : Hid (∀ ys z, s.bind (pL m pW) = some (ys, z) → ∃ xs, ys = ([] : List Pr) ++ xs ∧ s1.bind (pK pW (n - 0)) = some (xs, z)) := (show ∀ ys z, _ from fun ys z hy => ⟨ys, rfl, HPV.out ys z hy⟩)
  clear s2 c2 CN d0
  go_wp2_with fail
  go_loopg [7, 12] (n + 1) (fun g x z wr => ∃ (i : Nat) (L : List Pr) (a : Option Addr) (q c : Nat) (si : Option (List UInt8)), i ≤ n ∧ g + i = n + 1 ∧ x = .slice a q c ∧ z = .int .i64 (i : Int) ∧ Hid (L.length = q) ∧ q ≤ i ∧ Hid (OwnG PE wr M 41 (.slice a q c) L) ∧ Hid (SrcAt w0 wr Bb Br Bt si) ∧ Hid (aft (pK pW (n - i)) si = aft (pL m pW) s) ∧ Hid (∀ ys z, s.bind (pL m pW) = some (ys, z) → ∃ xs, ys = L ++ xs ∧ si.bind (pK pW (n - i)) = some (xs, z)) ∧ Hid (Chg (GF Bb Br) w1 wr))
  case atStart => exact ⟨0, [], none, 0, 0, s1, Nat.zero_le _, by omega, rfl, rfl, (show _ = _ from rfl), Nat.le_refl _, O0, S0, A0, V0, C0⟩
  case round =>
    clear S0 C0 O0 A0 V0 HPA HPV
    obtain ⟨i, L, a, q, c, si, hi, hg, rfl, rfl, HQ, hqi, OR, SR, AR, VR, CR⟩ := hrel
    by_cases hlt : i < n
    · have hlt' : (i : Int) < (n : Int) := by omega
      have CG := hide (swrite_any SR.out)
      have rk := (bn.out.chg CR.out HNE.out).range0
      obtain ⟨W, HWr⟩ : ∃ z, Hid (wr.heap.size = z) := ⟨_, rfl⟩
      have hMW : M ≤ W := by have h1 := CR.out.size; have h2 := hM1.out; have h3 := HWr.out; omega
      have HGK : Hid (∀ k, M ≤ k → ¬ GF Bb Br k) := (show ∀ k, _ from fun k hk e => by have := HLT.out; rcases e with e | e <;> omega)
      go_wp2_with (first
        | (refine wpList_load_mid rfl 47 _ rfl M 0 rfl (SC6 Bb Br Bt) _ rk Try.underlying47 rfl Try.size47 ?_)
        | fail)
      refine CG.out.mono ?_
      rintro e w3 ⟨x, rfl, S3, V3, C3⟩
      have S3 := hide S3
      have V3 := hide V3
      have C3 := hide C3
      obtain ⟨s3, Hs3⟩ : ∃ z, Hid (aft pW si = z) := ⟨_, rfl⟩
      rw [Hs3.out] at S3
      have hWs : wr.heap.size ≤ w3.heap.size := C3.out.size
      have O3 : Hid (OwnG PE w3 M 41 (.slice a q c) L) := (show _ from OR.out.chg C3.out (fun k hk e => HGK.out k (OR.out.block hk).1 e))
      obtain ⟨w4, hw4⟩ : ∃ y, y = w3.alloc (.cells (PE.c x).toArray 41 (0, 0)) := ⟨_, rfl⟩
      have l4 : Hid (Below w3.heap.size w3 w4) := (show Below _ _ _ by rw [hw4]; exact (Below.refl _ _).alloc (Nat.le_refl _) _)
      have R4 : Hid (RdG PE w4 (.slice (some ⟨w3.heap.size, 0, none⟩) 1 1) [x]) := (show RdG _ _ _ _ by rw [hw4]; exact rdG_one (E := PE) w3 41 x)
      have O4 : Hid (OwnG PE w4 M 41 (.slice a q c) L) := (show OwnG _ _ _ _ _ _ from O3.out.kept l4.out)
      have HL9 : Hid (L.length + [x].length ≤ 10000000) := (show _ ≤ _ by rw [List.length_singleton, HQ.out]; omega)
      have HL8 : Hid (M ≤ w4.heap.size) := (show _ ≤ _ by have h1 := l4.out.size; have h2 := HWr.out; omega)
      have HW4 := hide hw4
      clear hw4 CG rk
      go_wp2_with (first
        | (refine wpList_build1E (E := PE) build_pairs1 rfl _ rfl x rfl ?_; change wpList _ _ _ _ _ (w3.alloc (.cells (PE.c x).toArray 41 (0, 0))); rw [← HW4.out])
        | (refine wpList_append_E (E := PE) Try.underlying25 infoP9 (by decide) rfl (.tmp 14) (.tmp 18) rfl M (.slice a q c) L rfl O4.out (.slice (some ⟨w3.heap.size, 0, none⟩) 1 1) [x] rfl R4.out HL9.out HL8.out ?_; intro v9 w9 o9 g9 q9; obtain ⟨p9, c9, hv9⟩ := o9.form; have hn9 : (L ++ [x]).length = q + 1 := (by rw [List.length_append, List.length_singleton, HQ.out]); rw [hn9] at hv9; subst hv9; have O9 := hide o9; have G9 := hide g9; have HN9 := hide hn9; clear o9 g9 q9 hn9; have K9 : Hid (Chg (fun b => (Value.slice a q c).ownBlock = some b) w3 w9) := (show Chg _ _ _ from (Chg.of_below l4.out).trans (Chg.of_grown G9.out (fun k e _ => e))); have S9 := hide (S3.out.grow K9.out O3.out (by decide) (by decide) (by decide) h0M.out); have B9 : Hid (Blk w9 M 47 (SC6 Bb Br Bt)) := (show Blk _ _ _ _ from ((bn.out.chg CR.out HNE.out).chg C3.out HNE.out).chg K9.out (fun e => by obtain ⟨_, _, cu, h5⟩ := O3.out.block e; exact cells_ne h5 ((bn.out.chg CR.out HNE.out).chg C3.out HNE.out) (by decide) rfl)); have d3 := B9.out.cell (j := 3) rfl; have CO := hide (sover_any S9.out))
        | fail)
      refine CO.out.mono ?_
      rintro e w_ ⟨rfl, hw_⟩
      subst w_
      have C9 : Hid (Chg (GF Bb Br) w1 w9) := (show Chg _ _ _ from (CR.out.trans C3.out).then K9.out (fun k hk e => by
        obtain ⟨h1, _, cu, h5⟩ := O3.out.block e
        obtain rfl : k = M := by have := HS1.out; omega
        exact absurd rfl (cells_ne h5 ((bn.out.chg CR.out HNE.out).chg C3.out HNE.out) (by decide))))
      have ON : Hid (OwnG PE w9 M 41 (.slice p9 (q + 1) c9) (L ++ [x])) := (show _ from O9.out)
      obtain ⟨j, Hj⟩ : ∃ j, Hid (n - i = j + 1) := ⟨n - i - 1, (show _ = _ by omega)⟩
      have hj2 : n - (i + 1) = j := by have := Hj.out; omega
      have AN : Hid (aft (pK pW (n - (i + 1))) s3 = aft (pL m pW) s) := (show _ = _ by rw [hj2, ← AR.out, Hj.out, pK_aft, Hs3.out])
      have VN : Hid (∀ ys z, s.bind (pL m pW) = some (ys, z) → ∃ xs, ys = (L ++ [x]) ++ xs ∧ s3.bind (pK pW (n - (i + 1))) = some (xs, z)) := (show ∀ ys z, _ from fun ys z hy => by
        obtain ⟨xs, h1, h2⟩ := VR.out ys z hy
        rw [Hj.out] at h2
        obtain ⟨x0, xs0, z1, h3, h4, h5⟩ := pK_val h2
        rw [Hs3.out] at h5
        refine ⟨xs0, ?_, by rw [hj2]; exact h5⟩
        rw [h1, h3, ← V3.out x0 z1 h4]
        simp)
      obtain ⟨ov, Hov⟩ : ∃ z, Hid ((!s3.isSome) = z) := ⟨_, rfl⟩
      rw [Hov.out]
      clear CO d3
      cases ov with
      | true =>
        have h3n : s3 = none := by
          have := Hov.out
          cases s3 with
          | none => rfl
          | some z => cases this
        subst h3n
        have PN : Hid (LsPost w0 Bb Br Bt m pW s w (.returned (.slice p9 (q + 1) c9)) w9) := (show _ from ⟨_, L ++ [x], rfl, (show _ by rw [HM.out]; exact ON.out), by have := HN9.out; omega, by rw [← AN.out, aft_none]; exact S9.out, (fun ys z hy => by
          obtain ⟨xs, -, h2⟩ := VN.out ys z hy
          cases h2), (Chg.of_below l1.out).trans C9.out⟩)
        go_wp2_with fail
        go_ret
        exact PN.out
      | false =>
        go_wp2_with fail
        go_roundg (n - i)
        case measure => omega
        case rel => exact ⟨i + 1, L ++ [x], p9, q + 1, c9, s3, by omega, by omega, rfl, by go_num, HN9, by omega, ON, S9, AN, VN, C9⟩
    · obtain rfl : i = n := by omega
      have hlt' : ¬ (i : Int) < i := by omega
      have PN : Hid (LsPost w0 Bb Br Bt m pW s w (.returned (.slice a q c)) wr) := (show _ from ⟨_, L, rfl, (show _ by rw [HM.out]; exact OR.out), by have := HQ.out; omega, by
        rw [← AR.out, Nat.sub_self, show aft (pK pW 0) si = si from pK_zero si]
        exact SR.out, fun ys z hy => by
        obtain ⟨xs, h1, h2⟩ := VR.out ys z hy
        rw [Nat.sub_self] at h2
        rw [h1, pK_nil h2, List.append_nil], (Chg.of_below l1.out).trans CR.out⟩)
      go_wp2_with fail
      go_ret
      exact PN.out
#print axioms slistW_any
end Go.Proofs.Ytmicmbjbclkbjaa

/-
  What is got: a read, lists of reads: what the calls do.
-/
namespace Go.Proofs.Ytmicmbjbclkbjaa
open Go.RowKit
/-- What is told of a read that was got. -/
def RzPost (w0 : World) (Bb Br Bt : Nat) (p : Pa Rp) (s : Option (List UInt8)) (w : World) (e : Ending) (w' : World) : Prop := ∃ x, e = .returned (.agg (XC x).toArray) ∧ OwnG PE w' w.heap.size 41 (xv x) x.ps ∧ SrcAt w0 w' Bb Br Bt (aft p s) ∧ (∀ y z, s.bind p = some (y, z) → plR x = y) ∧ Chg (GF Bb Br) w w'
/-- What is told of a list of reads that was got. -/
def LrPost (w0 : World) (Bb Br Bt m : Nat) (p : Pa Rp) (s : Option (List UInt8)) (w : World) (e : Ending) (w' : World) : Prop := ∃ v L, e = .returned v ∧ OwnR9 w' w.heap.size v L ∧ L.length ≤ m ∧ SrcAt w0 w' Bb Br Bt (aft (pL m p) s) ∧ (∀ ys z, s.bind (pL m p) = some (ys, z) → L.map plR = ys) ∧ Chg (GF Bb Br) w w'
theorem build_fk (b : Bool) (k : ByteArray) : ∀ W : World, (Instr.build 39 #[(0, .bool b), (1, .string k)]).run Try.prog W = .ok (.agg #[.bool b, .string k, .string ⟨#[]⟩, .slice none 0 0]) W := fun W => by kernel_rfl
theorem zeroXr (W : World) : (zeroValue 39).run Try.prog W = .ok (.agg #[.bool false, .string ⟨#[]⟩, .string ⟨#[]⟩, .slice none 0 0]) W := by kernel_rfl
set_option linter.unusedSimpArgs false in
set_option maxHeartbeats 4000000 in
set_option maxRecDepth 100000 in
theorem sread_any {w0 w : World} {Bb Br Bt : Nat} {s : Option (List UInt8)} (h : SrcAt w0 w Bb Br Bt s) :
    Calls Try.prog 42 #[.agg (SC6 Bb Br Bt).toArray] w fun e w' => RzPost w0 Bb Br Bt pR s w e w' := by
  obtain ⟨N, HN⟩ : ∃ N, Hid (w.heap.size = N) := ⟨_, rfl⟩
  obtain ⟨w1, hw1⟩ : ∃ y, y = (w.alloc (.cells (SC6 Bb Br Bt).toArray 47 (0, 0))).alloc (.cells #[.bool false, .string ⟨#[]⟩, .string ⟨#[]⟩, .slice none 0 0] 39 (0, 0)) := ⟨_, rfl⟩
  obtain ⟨bn, bz, l1⟩ := newB2 (A := SC6 Bb Br Bt) (B := [.bool false, .string ⟨#[]⟩, .string ⟨#[]⟩, .slice none 0 0]) HN hw1
  have HW := hide hw1
  have BN := bn
  have BZ := bz
  have S0 := hide (h.kept l1.out)
  have h0s : Hid (w0.heap.size ≤ w.heap.size) := (show _ ≤ _ from h.base.size)
  have HNE := hide (S0.out.neT BN.out (by decide) (by decide))
  have HNZ := hide (S0.out.neT BZ.out (by decide) (by decide))
  have HLT : Hid (Bb < w1.heap.size ∧ Br < w1.heap.size) := (show _ ∧ _ from S0.out.lt)
  have HN1 : Hid (w1.heap.size = N + 2) := (show _ = _ by rw [hw1]; simp [HN.out])
  obtain ⟨d, Hd⟩ : ∃ z, Hid (got pF false s = z) := ⟨_, rfl⟩
  obtain ⟨s1, Hs1⟩ : ∃ z, Hid (aft pF s = z) := ⟨_, rfl⟩
  obtain ⟨k, Hk⟩ : ∃ z, Hid (got (pS 64) em s1 = z) := ⟨_, rfl⟩
  obtain ⟨s2, Hs2⟩ : ∃ z, Hid (aft (pS 64) s1 = z) := ⟨_, rfl⟩
  have C1 : Hid (∀ W, SrcAt w0 W Bb Br Bt s → Calls Try.prog 35 #[PT Bb, PT Bt] W fun e w' => e = .returned (.bool d) ∧ SrcAt w0 w' Bb Br Bt s1 ∧ Chg (GF Bb Br) W w') := (show ∀ W, _ from fun W hW => by rw [← Hd.out, ← Hs1.out]; exact sflag_any hW)
  have C2 : Hid (∀ W, SrcAt w0 W Bb Br Bt s1 → Calls Try.prog 37 #[.int .i64 64, PT Bb, PT Bt] W fun e w' => e = .returned (.string k) ∧ SrcAt w0 w' Bb Br Bt s2 ∧ Chg (GF Bb Br) W w') := (show ∀ W, _ from fun W hW => by rw [← Hk.out, ← Hs2.out]; exact sstr_any hW 64 (by decide))
  have HPP : Hid (aft pR s = aft (pL 200 pP) (aft (pT d 64) s2) ∧ ∀ y z, s.bind pR = some (y, z) → ∃ ps, (aft (pT d 64) s2).bind (pL 200 pP) = some (ps, z) ∧ y = (d, k, got (pT d 64) em s2, ps)) := (show _ ∧ _ from by
    have hP : ∀ l, pR l = (pF l).bind fun q => pR1 q.1 q.2 := fun l => rfl
    have hP1 : ∀ l, pR1 d l = (pS 64 l).bind fun q => pR2 d q.1 q.2 := fun l => rfl
    have hP2 : ∀ l, pR2 d k l = (pT d 64 l).bind fun q => pR3 d k q.1 q.2 := fun l => rfl
    refine ⟨?_, fun y z hy => ?_⟩
    · rw [aft_bind (p := pF) (f := pR1) hP false s, Hd.out, Hs1.out, aft_bind (p := pS 64) (f := pR2 d) hP1 em s1, Hk.out, Hs2.out, aft_bind (p := pT d 64) (f := pR3 d k) hP2 em s2]
      exact aft_map (P := pR3 d k _) (g := fun t => ((d, k, got (pT d 64) em s2, t) : Rp)) (p := pL 200 pP) (fun _ => rfl) _
    · have h1 := val_bind (p := pF) (f := pR1) hP false hy
      rw [Hd.out, Hs1.out] at h1
      have h2 := val_bind (p := pS 64) (f := pR2 d) hP1 em h1
      rw [Hk.out, Hs2.out] at h2
      have h3 := val_bind (p := pT d 64) (f := pR3 d k) hP2 em h2
      obtain ⟨g1, g2⟩ := val_map (P := pR3 d k _) (g := fun t => ((d, k, got (pT d 64) em s2, t) : Rp)) (p := pL 200 pP) (fun _ => rfl) [] h3
      refine ⟨_, ?_, g1⟩
      cases hq : aft (pT d 64) s2 with
      | none => rw [hq] at g2; cases g2
      | some l9 =>
        rw [hq] at g2
        cases hv : pL 200 pP l9 with
        | none => rw [aft_no hv] at g2; cases g2
        | some q9 =>
          obtain ⟨x9, z9⟩ := q9
          rw [aft_some hv] at g2
          rw [got_some hv, ← Option.some.inj g2]
          exact hv)
  obtain ⟨SB, HSB⟩ : ∃ f : Nat → Option (List UInt8), f = fun b => if b = 0 then s else if b = 1 then s1 else s2 := ⟨_, rfl⟩
  have HB0 : SB 0 = s := by rw [HSB]; rfl
  have HB1 : SB 1 = s1 := by rw [HSB]; rfl
  have HB2 : SB 2 = s2 := by rw [HSB]; rfl
  have hz := zeroXr
  clear hw1 bn bz HSB
  go_enter Try.func42, Try.ntmps42
  go_upto_region 1 with fail
  change Code.wp _ _ _ _ ((w.alloc (.cells (SC6 Bb Br Bt).toArray 47 (0, 0))).alloc (.cells #[.bool false, .string ⟨#[]⟩, .string ⟨#[]⟩, .slice none 0 0] 39 (0, 0)))
  rw [← HW.out, HN.out]
  refine wp_region_chainR (R := Chg (GF Bb Br)) Try.mixed (KC (fun i_ => match i_ with | 0 => .val (.pointer (some ⟨N, 1, none⟩)) | 1 => .val (.func (.func 35) #[] #[PT Bb, PT Bt]) | 2 => .val (.bool d) | 3 => .val (.pointer (some ⟨N, 2, none⟩)) | 4 => .val (.func (.func 37) #[] #[PT Bb, PT Bt]) | 5 => .val (.string k) | 6 => .val (.agg #[.bool d, .string k, .string ⟨#[]⟩, .slice none 0 0]) | 7 => .of (relChg _) (fun W x => ∃ B, x = PT B ∧ N + 2 ≤ B ∧ Blk W B 39 [.bool false, .string ⟨#[]⟩, .string ⟨#[]⟩, .slice none 0 0]) (fun _ _ _ hr ⟨B, e, h1, h2⟩ => ⟨B, e, h1, h2.chg hr (fun e => by have := HLT.out; have := HN1.out; rcases e with e | e <;> omega)⟩) | _ => .free)) (fun b_ w_ => SrcAt w0 w_ Bb Br Bt (SB b_) ∧ Chg (GF Bb Br) w1 w_) [2, 5] 21 rfl (by decide +kernel) 8 (by decide) (by decide) (by decide) (by decide +kernel) (by decide +kernel) (KC_mono _) (KC_monoR (fun i_ h_ => (by split <;> first | rfl | exact absurd rfl h_))) (fun b_ w_ w_2 hg h => ⟨h.1.kept hg, h.2.trans (Chg.of_below hg)⟩) (⟨by rw [HB0]; exact S0.out, Chg.refl _ _⟩) ?_ ?_
  · refine AllFrom.cons ⟨rfl, fun _ a' b' w' hC hk hd Q => ?_, fun j_ hj_ => (pvR_no (by decide) j_ hj_).elim⟩ (AllFrom.cons ⟨rfl, fun _ a' b' w' hC hk hd Q => ?_, fun j_ hj_ => (pvR_no (by decide) j_ hj_).elim⟩ (AllFrom.cons ⟨rfl, fun h => absurd (by decide) h, fun j_ hj_ a' w' hC hk hd Q => ?_⟩ (AllFrom.cons ⟨rfl, fun _ a' b' w' hC hk hd Q => ?_, fun j_ hj_ => (pvR_no (by decide) j_ hj_).elim⟩ (AllFrom.cons ⟨rfl, fun _ a' b' w' hC hk hd Q => ?_, fun j_ hj_ => (pvR_no (by decide) j_ hj_).elim⟩ (AllFrom.cons ⟨rfl, fun h => absurd (by decide) h, fun j_ hj_ a' w' hC hk hd Q => ?_⟩ (AllFrom.cons ⟨rfl, fun _ a' b' w' hC hk hd Q => ?_, fun j_ hj_ => (pvR_no (by decide) j_ hj_).elim⟩ (AllFrom.cons ⟨rfl, fun _ a' b' w' hC hk hd Q => ?_, fun j_ hj_ => (pvR_no (by decide) j_ hj_).elim⟩ AllFrom.nil)))))))
    · skip
      have e1 : a'.eval (.tmp 1) = .pointer (some ⟨N, 0, none⟩) := hk.at 1 (by decide +kernel)
      clear hd hk
      exact wp_value (.pointer (some ⟨N, 1, none⟩)) (by simp only [execOp, e1]; go_simp) (KC_mkv rfl rfl)
    · skip
      have e4 : a'.eval (.tmp 4) = .pointer (some ⟨N, 1, none⟩) := KC_val (hd.val 0 4 (by decide +kernel)) rfl
      have hc := (BN.out.chg hC.2 HNE.out).cell (j := 1) rfl
      clear hd hk
      exact wp_value (.func (.func 35) #[] #[PT Bb, PT Bt]) (by simp only [execOp, e4]; go_simp) (KC_mkv rfl rfl)
    · skip
      obtain rfl : j_ = 0 := pvR_at (by decide) rfl hj_
      have e5 : a'.eval (.tmp 5) = .func (.func 35) #[] #[PT Bb, PT Bt] := KC_val (hd.val 1 5 (by decide +kernel)) rfl
      have hc0 := hC.1
      rw [HB0] at hc0
      refine wp_callP 35 _ (run_enterV 35 _ _ 5 _ rfl e5 (by kernel_rfl)) ?_
      simp only [List.map_toArray, List.map_cons, List.map_nil, List.append_toArray, List.cons_append, List.nil_append, Act.eval]
      refine (C1.out w' hc0).mono ?_
      rintro e w5 ⟨rfl, s5, c5⟩
      rw [← HB1] at s5
      exact ⟨_, rfl, KC_mkv rfl rfl, c5, s5, hC.2.trans c5⟩
    · skip
      have e1 : a'.eval (.tmp 1) = .pointer (some ⟨N, 0, none⟩) := hk.at 1 (by decide +kernel)
      clear hd hk
      exact wp_value (.pointer (some ⟨N, 2, none⟩)) (by simp only [execOp, e1]; go_simp) (KC_mkv rfl rfl)
    · skip
      have e7 : a'.eval (.tmp 7) = .pointer (some ⟨N, 2, none⟩) := KC_val (hd.val 3 7 (by decide +kernel)) rfl
      have hc := (BN.out.chg hC.2 HNE.out).cell (j := 2) rfl
      clear hd hk
      exact wp_value (.func (.func 37) #[] #[PT Bb, PT Bt]) (by simp only [execOp, e7]; go_simp) (KC_mkv rfl rfl)
    · skip
      obtain rfl : j_ = 1 := pvR_at (by decide) rfl hj_
      have e8 : a'.eval (.tmp 8) = .func (.func 37) #[] #[PT Bb, PT Bt] := KC_val (hd.val 4 8 (by decide +kernel)) rfl
      have hc0 := hC.1
      rw [HB1] at hc0
      refine wp_callP 37 _ (run_enterV 37 _ _ 8 _ rfl e8 (by kernel_rfl)) ?_
      simp only [List.map_toArray, List.map_cons, List.map_nil, List.append_toArray, List.cons_append, List.nil_append, Act.eval]
      refine (C2.out w' hc0).mono ?_
      rintro e w5 ⟨rfl, s5, c5⟩
      rw [← HB2] at s5
      exact ⟨_, rfl, KC_mkv rfl rfl, c5, s5, hC.2.trans c5⟩
    · skip
      have e6 : a'.eval (.tmp 6) = .bool d := KC_val (hd.val 2 6 (by decide +kernel)) rfl
      have e9 : a'.eval (.tmp 9) = .string k := KC_val (hd.val 5 9 (by decide +kernel)) rfl
      clear hd hk
      exact wp_value (.agg #[.bool d, .string k, .string ⟨#[]⟩, .slice none 0 0]) (by simp only [execOp, List.map_toArray, List.map_cons, List.map_nil, e6, e9, Sem.run_bind, Sem.run_pure]; exact congrArg (fun r => Result.andThen r _) (build_fk d k _)) (KC_mkv rfl rfl)
    · skip
      have hz := zeroXr w'
      have hsz : N + 2 ≤ w'.heap.size := by have := hC.2.size; have := HN1.out; omega
      clear hd hk
      exact wp_grow (.pointer (some ⟨w'.heap.size, 0, none⟩)) _ (by simp only [execOp]; go_simp) ((Below.refl _ _).alloc (Nat.le_refl _) _) (KC_mko rfl ⟨_, rfl, hsz, Blk.new _ _ _⟩)
  · intro a' w2 hsz hdf hk hall hC
    have S2 := hide hC.1
    have L2 := hide hC.2
    clear hC
    have e4 : a'.eval (.tmp 4) = .pointer (some ⟨N, 1, none⟩) := KC_val (hall 0 _ 4 (by decide) rfl rfl) rfl
    have e5 : a'.eval (.tmp 5) = .func (.func 35) #[] #[PT Bb, PT Bt] := KC_val (hall 1 _ 5 (by decide) rfl rfl) rfl
    have e6 : a'.eval (.tmp 6) = .bool d := KC_val (hall 2 _ 6 (by decide) rfl rfl) rfl
    have e7 : a'.eval (.tmp 7) = .pointer (some ⟨N, 2, none⟩) := KC_val (hall 3 _ 7 (by decide) rfl rfl) rfl
    have e8 : a'.eval (.tmp 8) = .func (.func 37) #[] #[PT Bb, PT Bt] := KC_val (hall 4 _ 8 (by decide) rfl rfl) rfl
    have e9 : a'.eval (.tmp 9) = .string k := KC_val (hall 5 _ 9 (by decide) rfl rfl) rfl
    have e10 : a'.eval (.tmp 10) = .agg #[.bool d, .string k, .string ⟨#[]⟩, .slice none 0 0] := KC_val (hall 6 _ 10 (by decide) rfl rfl) rfl
    have r3 := KC_of (hall 7 _ 3 (by decide) rfl rfl) rfl
    obtain ⟨x3, hx3⟩ : ∃ v, a'.eval (.tmp 3) = v := ⟨_, rfl⟩
    rw [hx3] at r3
    have ha := act_puts 21 rfl hsz hdf hk [4, 5, 6, 7, 8, 9, 10, 3] (by decide +kernel)
    simp only [puts, List.foldl_cons, List.foldl_nil, e4, e5, e6, e7, e8, e9, e10, hx3] at ha
    simp only [Act.put, List.setIfInBounds_toArray, List.set_cons_succ, List.set_cons_zero] at ha
    clear hall hk hsz hdf e4 e5 e6 e7 e8 e9 e10 hx3
    subst ha
    obtain ⟨G, e3, hG, hbG⟩ := r3
    subst e3
    have HG9 := hide hG
    have HXO1 : ∀ u ∈ ([.bool d, .string k, .string ⟨#[]⟩, .slice none 0 0] : List Value), u.oneCell' = true := XC_one ⟨d, k, em, [], none, 0⟩
    refine wpSeq_store_blk rfl 39 _ _ rfl G _ [.bool d, .string k, .string ⟨#[]⟩, .slice none 0 0] 39 rfl rfl hbG rfl Try.size39 HXO1 ?_
    intro w3 hb3 hu3
    have C3 : Hid (Chg (fun j => j = G) w2 w3) := (show Chg _ _ _ from Chg.of_but hu3 rfl)
    have S2' : Hid (SrcAt w0 w2 Bb Br Bt s2) := (show SrcAt _ _ _ _ _ _ from by
      have h1 := S2.out
      rwa [show ([2, 5] : List Nat).length = 2 from rfl, HB2] at h1)
    have S3 : Hid (SrcAt w0 w3 Bb Br Bt s2) := (show SrcAt _ _ _ _ _ _ from S2'.out.other C3.out hbG (by decide) (by decide) (by decide) (by have := HG9.out; have := S0.out.base.size; have := HN.out; have := h0s.out; omega))
    have BZ3 : Hid (Blk w3 (N + 1) 39 [.bool false, .string ⟨#[]⟩, .string ⟨#[]⟩, .slice none 0 0]) := (show Blk _ _ _ _ from (BZ.out.chg L2.out HNZ.out).chg C3.out (by omega))
    have BN3 : Hid (Blk w3 N 47 (SC6 Bb Br Bt)) := (show Blk _ _ _ _ from (BN.out.chg L2.out HNE.out).chg C3.out (by omega))
    have B3 := hide hb3
    have K3 : Hid (Chg (GF Bb Br) w w3) := (show Chg _ _ _ from ((Chg.of_below l1.out).trans L2.out).then C3.out (fun i hi e => absurd hi (by have := HN.out; omega)))
    simp only [wpSeq]
    clear hb3 hu3 hG hbG S2 S2' HXO1
    have d0 := B3.out.cell (j := 0) rfl
    try simp only at d0
    cases d with
    | true =>
      have hpt : pT true 64 = pS 64 := by funext l; rfl
      have CS := hide (sstr_any S3.out 64 (by decide))
      obtain ⟨t, Ht⟩ : ∃ z, Hid (got (pS 64) em s2 = z) := ⟨_, rfl⟩
      obtain ⟨s3, Hs3⟩ : ∃ z, Hid (aft (pS 64) s2 = z) := ⟨_, rfl⟩
      have HFIN : Hid (aft pR s = aft (pL 200 pP) s3 ∧ ∀ y z, s.bind pR = some (y, z) → ∃ ps, s3.bind (pL 200 pP) = some (ps, z) ∧ y = (true, k, t, ps)) := (show _ ∧ _ from by
        have h1 := HPP.out
        rwa [hpt, Ht.out, Hs3.out] at h1)
      rw [Ht.out, Hs3.out] at CS
      have d1 := BN3.out.cell (j := 2) rfl
      clear hpt
      go_wp2_with fail
      refine CS.out.mono ?_
      rintro e w4 ⟨rfl, s4, c4⟩
      have S4 := hide s4
      have C4 := hide c4
      have B4 : Hid (Blk w4 G 39 [.bool true, .string k, .string ⟨#[]⟩, .slice none 0 0]) := (show Blk _ _ _ _ from B3.out.chg c4 (S3.out.neT B3.out (by decide) (by decide)))
      have BZ4 : Hid (Blk w4 (N + 1) 39 [.bool false, .string ⟨#[]⟩, .string ⟨#[]⟩, .slice none 0 0]) := (show Blk _ _ _ _ from BZ3.out.chg c4 (S3.out.neT BZ3.out (by decide) (by decide)))
      have BN4 : Hid (Blk w4 N 47 (SC6 Bb Br Bt)) := (show Blk _ _ _ _ from BN3.out.chg c4 (S3.out.neT BN3.out (by decide) (by decide)))
      clear s4 c4 CS d0 d1
      have hf := B4.out.frozen 2
      have hc9 := B4.out.cell (j := 2) rfl
      obtain ⟨w5, hw5⟩ : ∃ z, z = w4.setCell ⟨G, 2, none⟩ (.string t) := ⟨_, rfl⟩
      have B5 : Hid (Blk w5 G 39 [.bool true, .string k, .string t, .slice none 0 0]) := (show Blk _ _ _ _ by rw [hw5]; exact B4.out.set 2 (.string t))
      have C5 : Hid (Chg (fun j => j = G) w4 w5) := (show Chg _ _ _ by rw [hw5]; exact Chg.of_but (But.setCell G w4 2 (.string t)) rfl)
      have HW5 := hide hw5
      clear hw5
      go_upto_region 4 with fail
      try simp only [Act.put]
      change Code.wp _ _ _ _ (w4.setCell ⟨G, 2, none⟩ (.string t))
      rw [← HW5.out]
      have S5 : Hid (SrcAt w0 w5 Bb Br Bt s3) := (show SrcAt _ _ _ _ _ _ from S4.out.other C5.out B4.out (by decide) (by decide) (by decide) (by have := HG9.out; have := S0.out.base.size; have := HN.out; have := h0s.out; omega))
      have BZ5 : Hid (Blk w5 (N + 1) 39 [.bool false, .string ⟨#[]⟩, .string ⟨#[]⟩, .slice none 0 0]) := (show Blk _ _ _ _ from BZ4.out.chg C5.out (by have := HG9.out; omega))
      have BN5 : Hid (Blk w5 N 47 (SC6 Bb Br Bt)) := (show Blk _ _ _ _ from BN4.out.chg C5.out (by have := HG9.out; omega))
      have K5 : Hid (Chg (GF Bb Br) w w5) := (show Chg _ _ _ from (K3.out.trans C4.out).then C5.out (fun i hi e => absurd hi (by have := HN.out; have := HG9.out; omega)))
      clear hf hc9
      have hfin : Hid (aft pR s = aft (pL 200 pP) s3 ∧ ∀ y z, s.bind pR = some (y, z) → ∃ ps, Option.bind s3 (pL 200 pP) = some (ps, z) ∧ y = (true, k, t, ps)) := HFIN
      have CL : Hid (Calls Try.prog 43 #[.agg (SC6 Bb Br Bt).toArray, .int .u64 200, .func (.func 59) #[] #[]] w5 fun e w' => LsPost w0 Bb Br Bt 200 pP s3 w5 e w') := (show Calls _ _ _ _ _ from slistP_any S5.out 200 (by decide))
      have rk := BN5.out.range0
      go_wp2_with (first
        | (refine wpList_load_mid rfl 47 _ rfl N 0 rfl (SC6 Bb Br Bt) _ rk Try.underlying47 rfl Try.size47 ?_)
        | fail)
      refine CL.out.mono ?_
      rintro e w6 ⟨v6, L6, rfl, o6, n6, s6, y6, c6⟩
      obtain ⟨p6, q6, rfl⟩ := o6.form
      have O6 := hide o6
      have S6 := hide s6
      have Y6 := hide y6
      have C6 := hide c6
      have B6 : Hid (Blk w6 G 39 [.bool true, .string k, .string t, .slice none 0 0]) := (show Blk _ _ _ _ from B5.out.chg c6 (S5.out.neT B5.out (by decide) (by decide)))
      have BZ6 : Hid (Blk w6 (N + 1) 39 [.bool false, .string ⟨#[]⟩, .string ⟨#[]⟩, .slice none 0 0]) := (show Blk _ _ _ _ from BZ5.out.chg c6 (S5.out.neT BZ5.out (by decide) (by decide)))
      have HWS : Hid (w.heap.size ≤ w5.heap.size) := (show _ ≤ _ from K5.out.size)
      obtain ⟨x, HX⟩ : ∃ x : Rz, Hid (x = ⟨true, k, t, L6, p6, q6⟩) := ⟨_, rfl⟩
      have HXC : Hid (XC x = [.bool true, .string k, .string t, .slice p6 L6.length q6]) := (show _ = _ by rw [HX.out]; rfl)
      have HXV : Hid (xv x = .slice p6 L6.length q6 ∧ x.ps = L6 ∧ plR x = (true, k, t, L6)) := (show _ ∧ _ ∧ _ by rw [HX.out]; exact ⟨rfl, rfl, rfl⟩)
      obtain ⟨n9, Hn9⟩ : ∃ z, Hid (L6.length = z) := ⟨_, rfl⟩
      rw [Hn9.out] at HXC HXV O6 ⊢
      have hf := B6.out.frozen 3
      have hc9 := B6.out.cell (j := 3) rfl
      obtain ⟨w7, hw7⟩ : ∃ z, z = w6.setCell ⟨G, 3, none⟩ (.slice p6 n9 q6) := ⟨_, rfl⟩
      have B7 : Hid (Blk w7 G 39 (XC x)) := (show Blk _ _ _ _ by rw [hw7, HXC.out]; exact B6.out.set 3 (.slice p6 n9 q6))
      have C7 : Hid (Chg (fun j => j = G) w6 w7) := (show Chg _ _ _ by rw [hw7]; exact Chg.of_but (But.setCell G w6 3 (.slice p6 n9 q6)) rfl)
      have HW7 := hide hw7
      clear hw7 o6 n6 s6 y6 c6 CL rk
      go_upto_region 5 with fail
      try simp only [Act.put]
      change Code.wp _ _ _ _ (w6.setCell ⟨G, 3, none⟩ (.slice p6 n9 q6))
      rw [← HW7.out]
      have S7 : Hid (SrcAt w0 w7 Bb Br Bt (aft (pL 200 pP) s3)) := (show SrcAt _ _ _ _ _ _ from S6.out.other C7.out B6.out (by decide) (by decide) (by decide) (by have := HG9.out; have := S0.out.base.size; have := HN.out; have := h0s.out; omega))
      have BZ7 : Hid (Blk w7 (N + 1) 39 [.bool false, .string ⟨#[]⟩, .string ⟨#[]⟩, .slice none 0 0]) := (show Blk _ _ _ _ from BZ6.out.chg C7.out (by have := HG9.out; omega))
      have O7 : Hid (OwnG PE w7 w.heap.size 41 (.slice p6 n9 q6) L6) := (show OwnG _ _ _ _ _ _ from (O6.out.chg C7.out (fun j hj e => by
        obtain ⟨_, _, cu, h5⟩ := O6.out.block hj
        exact cells_ne h5 B6.out (by decide) e)).mono HWS.out)
      have rk := B7.out.range0
      clear hf hc9
      go_wp2_with (first
        | (refine wpList_load_mid rfl 39 _ rfl G 0 rfl (XC x) _ rk Try.underlying39 rfl Try.size39 ?_)
        | (refine wpList_store_blk rfl 39 (.tmp 2) (.tmp 20) rfl (N + 1) _ (XC x) 39 rfl rfl BZ7.out rfl Try.size39 (XC_one _) ?_; intro w8 hb8 hu8)
        | fail)
      have C8 : Chg (fun j => j = N + 1) w7 w8 := Chg.of_but hu8 rfl
      refine bodyPost_ret (ret_readc rfl _ _ (N + 1) x rfl hb8) rfl (show RzPost _ _ _ _ _ _ _ _ _ from ⟨x, rfl, ?_, ?_, ?_, ?_⟩)
      · rw [HXV.out.1, HXV.out.2.1]
        exact O7.out.chg C8 (fun j hj e => by
          obtain ⟨_, _, cu, h5⟩ := O7.out.block hj
          exact cells_ne h5 BZ7.out (by decide) e)
      · rw [hfin.out.1]
        exact S7.out.other C8 BZ7.out (by decide) (by decide) (by decide) (by have := S0.out.base.size; have := HN.out; have := h0s.out; omega)
      · intro y z hy
        obtain ⟨ps, h1, h2⟩ := hfin.out.2 y z hy
        rw [HXV.out.2.2, h2, Y6.out ps z h1]
      · exact ((K5.out.trans C6.out).then C7.out (fun i hi e => absurd hi (by have := HN.out; have := HG9.out; omega))).then C8 (fun i hi e => absurd hi (by have := HN.out; omega))
    | false =>
      have HFIN : Hid (aft pR s = aft (pL 200 pP) s2 ∧ ∀ y z, s.bind pR = some (y, z) → ∃ ps, s2.bind (pL 200 pP) = some (ps, z) ∧ y = (false, k, ⟨#[]⟩, ps)) := (show _ ∧ _ from by
        have h1 := HPP.out
        rw [show aft (pT false 64) s2 = s2 from by cases s2 <;> rfl, show got (pT false 64) em s2 = em from by cases s2 <;> rfl] at h1
        exact h1)
      have hfin : Hid (aft pR s = aft (pL 200 pP) s2 ∧ ∀ y z, s.bind pR = some (y, z) → ∃ ps, Option.bind s2 (pL 200 pP) = some (ps, z) ∧ y = (false, k, ⟨#[]⟩, ps)) := HFIN
      have CL : Hid (Calls Try.prog 43 #[.agg (SC6 Bb Br Bt).toArray, .int .u64 200, .func (.func 59) #[] #[]] w3 fun e w' => LsPost w0 Bb Br Bt 200 pP s2 w3 e w') := (show Calls _ _ _ _ _ from slistP_any S3.out 200 (by decide))
      have rk := BN3.out.range0
      go_wp2_with (first
        | (refine wpList_load_mid rfl 47 _ rfl N 0 rfl (SC6 Bb Br Bt) _ rk Try.underlying47 rfl Try.size47 ?_)
        | fail)
      refine CL.out.mono ?_
      rintro e w6 ⟨v6, L6, rfl, o6, n6, s6, y6, c6⟩
      obtain ⟨p6, q6, rfl⟩ := o6.form
      have O6 := hide o6
      have S6 := hide s6
      have Y6 := hide y6
      have C6 := hide c6
      have B6 : Hid (Blk w6 G 39 [.bool false, .string k, .string ⟨#[]⟩, .slice none 0 0]) := (show Blk _ _ _ _ from B3.out.chg c6 (S3.out.neT B3.out (by decide) (by decide)))
      have BZ6 : Hid (Blk w6 (N + 1) 39 [.bool false, .string ⟨#[]⟩, .string ⟨#[]⟩, .slice none 0 0]) := (show Blk _ _ _ _ from BZ3.out.chg c6 (S3.out.neT BZ3.out (by decide) (by decide)))
      have HWS : Hid (w.heap.size ≤ w3.heap.size) := (show _ ≤ _ from K3.out.size)
      obtain ⟨x, HX⟩ : ∃ x : Rz, Hid (x = ⟨false, k, ⟨#[]⟩, L6, p6, q6⟩) := ⟨_, rfl⟩
      have HXC : Hid (XC x = [.bool false, .string k, .string ⟨#[]⟩, .slice p6 L6.length q6]) := (show _ = _ by rw [HX.out]; rfl)
      have HXV : Hid (xv x = .slice p6 L6.length q6 ∧ x.ps = L6 ∧ plR x = (false, k, ⟨#[]⟩, L6)) := (show _ ∧ _ ∧ _ by rw [HX.out]; exact ⟨rfl, rfl, rfl⟩)
      obtain ⟨n9, Hn9⟩ : ∃ z, Hid (L6.length = z) := ⟨_, rfl⟩
      rw [Hn9.out] at HXC HXV O6 ⊢
      have hf := B6.out.frozen 3
      have hc9 := B6.out.cell (j := 3) rfl
      obtain ⟨w7, hw7⟩ : ∃ z, z = w6.setCell ⟨G, 3, none⟩ (.slice p6 n9 q6) := ⟨_, rfl⟩
      have B7 : Hid (Blk w7 G 39 (XC x)) := (show Blk _ _ _ _ by rw [hw7, HXC.out]; exact B6.out.set 3 (.slice p6 n9 q6))
      have C7 : Hid (Chg (fun j => j = G) w6 w7) := (show Chg _ _ _ by rw [hw7]; exact Chg.of_but (But.setCell G w6 3 (.slice p6 n9 q6)) rfl)
      have HW7 := hide hw7
      clear hw7 o6 n6 s6 y6 c6 CL rk
      go_upto_region 5 with fail
      try simp only [Act.put]
      change Code.wp _ _ _ _ (w6.setCell ⟨G, 3, none⟩ (.slice p6 n9 q6))
      rw [← HW7.out]
      have S7 : Hid (SrcAt w0 w7 Bb Br Bt (aft (pL 200 pP) s2)) := (show SrcAt _ _ _ _ _ _ from S6.out.other C7.out B6.out (by decide) (by decide) (by decide) (by have := HG9.out; have := S0.out.base.size; have := HN.out; have := h0s.out; omega))
      have BZ7 : Hid (Blk w7 (N + 1) 39 [.bool false, .string ⟨#[]⟩, .string ⟨#[]⟩, .slice none 0 0]) := (show Blk _ _ _ _ from BZ6.out.chg C7.out (by have := HG9.out; omega))
      have O7 : Hid (OwnG PE w7 w.heap.size 41 (.slice p6 n9 q6) L6) := (show OwnG _ _ _ _ _ _ from (O6.out.chg C7.out (fun j hj e => by
        obtain ⟨_, _, cu, h5⟩ := O6.out.block hj
        exact cells_ne h5 B6.out (by decide) e)).mono HWS.out)
      have rk := B7.out.range0
      clear hf hc9
      go_wp2_with (first
        | (refine wpList_load_mid rfl 39 _ rfl G 0 rfl (XC x) _ rk Try.underlying39 rfl Try.size39 ?_)
        | (refine wpList_store_blk rfl 39 (.tmp 2) (.tmp 20) rfl (N + 1) _ (XC x) 39 rfl rfl BZ7.out rfl Try.size39 (XC_one _) ?_; intro w8 hb8 hu8)
        | fail)
      have C8 : Chg (fun j => j = N + 1) w7 w8 := Chg.of_but hu8 rfl
      refine bodyPost_ret (ret_readc rfl _ _ (N + 1) x rfl hb8) rfl (show RzPost _ _ _ _ _ _ _ _ _ from ⟨x, rfl, ?_, ?_, ?_, ?_⟩)
      · rw [HXV.out.1, HXV.out.2.1]
        exact O7.out.chg C8 (fun j hj e => by
          obtain ⟨_, _, cu, h5⟩ := O7.out.block hj
          exact cells_ne h5 BZ7.out (by decide) e)
      · rw [hfin.out.1]
        exact S7.out.other C8 BZ7.out (by decide) (by decide) (by decide) (by have := S0.out.base.size; have := HN.out; have := h0s.out; omega)
      · intro y z hy
        obtain ⟨ps, h1, h2⟩ := hfin.out.2 y z hy
        rw [HXV.out.2.2, h2, Y6.out ps z h1]
      · exact ((K3.out.trans C6.out).then C7.out (fun i hi e => absurd hi (by have := HN.out; have := HG9.out; omega))).then C8 (fun i hi e => absurd hi (by have := HN.out; omega))
#print axioms sread_any
set_option maxHeartbeats 2000000 in
set_option maxRecDepth 100000 in
theorem slistR_any {w0 w : World} {Bb Br Bt : Nat} {s : Option (List UInt8)} (h : SrcAt w0 w Bb Br Bt s) (m : Nat) (hm : m ≤ 1000) :
    Calls Try.prog 41 #[.agg (SC6 Bb Br Bt).toArray, .int .u64 (m : Int), .func (.func 42) #[] #[]] w fun e w' => LrPost w0 Bb Br Bt m pR s w e w' := by
  obtain ⟨M, HM⟩ : ∃ N, Hid (w.heap.size = N) := ⟨_, rfl⟩
  obtain ⟨w1, hw1⟩ : ∃ y, y = w.alloc (.cells (SC6 Bb Br Bt).toArray 47 (0, 0)) := ⟨_, rfl⟩
  obtain ⟨bn, l1⟩ := newB (A := SC6 Bb Br Bt) HM hw1
  have HW := hide hw1
  have S1 := hide (h.kept l1.out)
  have HLT : Hid (Bb < M ∧ Br < M) := (show _ ∧ _ by rw [← HM.out]; exact h.lt)
  have h0M : Hid (w0.heap.size ≤ M) := (show _ ≤ _ by rw [← HM.out]; exact h.base.size)
  have HS1 : Hid (w1.heap.size = M + 1) := (show _ = _ by rw [hw1, World.size_alloc, HM.out])
  have hM1 : Hid (M ≤ w1.heap.size) := (show _ ≤ _ from Nat.le_of_lt bn.out.lt)
  have HNE := hide (S1.out.neT bn.out (by decide) (by decide))
  obtain ⟨n, Hn⟩ : ∃ z, Hid (got (pN m) 0 s = z) := ⟨_, rfl⟩
  obtain ⟨s1, Hs1⟩ : ∃ z, Hid (aft (pN m) s = z) := ⟨_, rfl⟩
  have hnm : n ≤ m := by rw [← Hn.out]; exact got_le m s
  have CN := hide (snum_any S1.out m (by omega))
  rw [Hn.out, Hs1.out] at CN
  have HPA : Hid (aft (pK pR n) s1 = aft (pL m pR) s) := (show _ = _ by rw [pL_aft, Hn.out, Hs1.out])
  have HPV : Hid (∀ ys z, s.bind (pL m pR) = some (ys, z) → s1.bind (pK pR n) = some (ys, z)) := (show ∀ ys z, _ from fun ys z hy => by have := pL_val hy; rwa [Hn.out, Hs1.out] at this)
  have d0 := bn.out.cell (j := 0) rfl
  clear h hw1
  go_enter Try.func41, Try.ntmps41
  go_upto_region 1 with fail
  change Code.wp _ _ _ _ (w.alloc (.cells (SC6 Bb Br Bt).toArray 47 (0, 0)))
  rw [← HW.out, HM.out]
  go_wp2_with fail
  refine CN.out.mono ?_
  rintro e w2 ⟨rfl, s2, c2⟩
  have S0 : Hid (SrcAt w0 w2 Bb Br Bt s1) := (show SrcAt _ _ _ _ _ _ from s2)
  have C0 : Hid (Chg (GF Bb Br) w1 w2) := (show Chg _ _ _ from c2)
  have O0 : Hid (OwnR9 w2 M (.slice none 0 0) []) := (show _ from ⟨ownG_nil _ _ _, fun y hy => by cases hy⟩)
  have A0 : Hid (aft (pK pR (n - 0)) s1 = aft (pL m pR) s) := (show _ = _ from HPA.out)
  have V0 : Hid (∀ ys z, s.bind (pL m pR) = some (ys, z) → ∃ xs, ys = (([] : List Rz).map plR) ++ xs ∧ s1.bind (pK pR (n - 0)) = some (xs, z)) := (show ∀ ys z, _ from fun ys z hy => ⟨ys, rfl, HPV.out ys z hy⟩)
  clear s2 c2 CN d0
  go_wp2_with fail
  go_loopg [7, 12] (n + 1) (fun g x z wr => ∃ (i : Nat) (L : List Rz) (a : Option Addr) (q c : Nat) (si : Option (List UInt8)), i ≤ n ∧ g + i = n + 1 ∧ x = .slice a q c ∧ z = .int .i64 (i : Int) ∧ Hid (L.length = q) ∧ q ≤ i ∧ Hid (OwnR9 wr M (.slice a q c) L) ∧ Hid (SrcAt w0 wr Bb Br Bt si) ∧ Hid (aft (pK pR (n - i)) si = aft (pL m pR) s) ∧ Hid (∀ ys z, s.bind (pL m pR) = some (ys, z) → ∃ xs, ys = (L.map plR) ++ xs ∧ si.bind (pK pR (n - i)) = some (xs, z)) ∧ Hid (Chg (GF Bb Br) w1 wr))
  case atStart => exact ⟨0, [], none, 0, 0, s1, Nat.zero_le _, by omega, rfl, rfl, (show _ = _ from rfl), Nat.le_refl _, O0, S0, A0, V0, C0⟩
  case round =>
    clear S0 C0 O0 A0 V0 HPA HPV
    obtain ⟨i, L, a, q, c, si, hi, hg, rfl, rfl, HQ, hqi, OR, SR, AR, VR, CR⟩ := hrel
    by_cases hlt : i < n
    · have hlt' : (i : Int) < (n : Int) := by omega
      have CG := hide (sread_any SR.out)
      have rk := (bn.out.chg CR.out HNE.out).range0
      obtain ⟨W, HWr⟩ : ∃ z, Hid (wr.heap.size = z) := ⟨_, rfl⟩
      have hMW : M ≤ W := by have h1 := CR.out.size; have h2 := hM1.out; have h3 := HWr.out; omega
      have HGK : Hid (∀ k, M ≤ k → ¬ GF Bb Br k) := (show ∀ k, _ from fun k hk e => by have := HLT.out; rcases e with e | e <;> omega)
      go_wp2_with (first
        | (refine wpList_load_mid rfl 47 _ rfl M 0 rfl (SC6 Bb Br Bt) _ rk Try.underlying47 rfl Try.size47 ?_)
        | fail)
      refine CG.out.mono ?_
      rintro e w3 ⟨x, rfl, XO3, S3, V3, C3⟩
      have S3 := hide S3
      have V3 := hide V3
      have C3 := hide C3
      have XO3 := hide XO3
      obtain ⟨s3, Hs3⟩ : ∃ z, Hid (aft pR si = z) := ⟨_, rfl⟩
      rw [Hs3.out] at S3
      have hWs : wr.heap.size ≤ w3.heap.size := C3.out.size
      have O3 : Hid (OwnR9 w3 M (.slice a q c) L) := (show _ from ⟨OR.out.row.chg C3.out (fun k hk e => HGK.out k (OR.out.row.block hk).1 e), fun y hy => (OR.out.ps y hy).chg C3.out (fun k hk e => HGK.out k ((OR.out.ps y hy).block hk).1 e)⟩)
      obtain ⟨w4, hw4⟩ : ∃ y, y = w3.alloc (.cells (XE.c x).toArray 39 (0, 0)) := ⟨_, rfl⟩
      have l4 : Hid (Below w3.heap.size w3 w4) := (show Below _ _ _ by rw [hw4]; exact (Below.refl _ _).alloc (Nat.le_refl _) _)
      have R4 : Hid (RdG XE w4 (.slice (some ⟨w3.heap.size, 0, none⟩) 1 1) [x]) := (show RdG _ _ _ _ by rw [hw4]; exact rdG_one (E := XE) w3 39 x)
      have O4 : Hid (OwnG XE w4 M 39 (.slice a q c) L) := (show OwnG _ _ _ _ _ _ from O3.out.row.kept l4.out)
      have HL9 : Hid (L.length + [x].length ≤ 10000000) := (show _ ≤ _ by rw [List.length_singleton, HQ.out]; omega)
      have HL8 : Hid (M ≤ w4.heap.size) := (show _ ≤ _ by have h1 := l4.out.size; have h2 := HWr.out; omega)
      have HW4 := hide hw4
      clear hw4 CG rk
      go_wp2_with (first
        | (refine wpList_build1E (E := XE) build_read1 rfl _ rfl x rfl ?_; change wpList _ _ _ _ _ (w3.alloc (.cells (XE.c x).toArray 39 (0, 0))); rw [← HW4.out])
        | (refine wpList_append_E (E := XE) Try.underlying24 infoX (by decide) rfl (.tmp 14) (.tmp 18) rfl M (.slice a q c) L rfl O4.out (.slice (some ⟨w3.heap.size, 0, none⟩) 1 1) [x] rfl R4.out HL9.out HL8.out ?_; intro v9 w9 o9 g9 q9; obtain ⟨p9, c9, hv9⟩ := o9.form; have hn9 : (L ++ [x]).length = q + 1 := (by rw [List.length_append, List.length_singleton, HQ.out]); rw [hn9] at hv9; subst hv9; have O9 := hide o9; have G9 := hide g9; have HN9 := hide hn9; clear o9 g9 q9 hn9; have K9 : Hid (Chg (fun b => (Value.slice a q c).ownBlock = some b) w3 w9) := (show Chg _ _ _ from (Chg.of_below l4.out).trans (Chg.of_grown G9.out (fun k e _ => e))); have S9 := hide (S3.out.grow K9.out O3.out.row (by decide) (by decide) (by decide) h0M.out); have B9 : Hid (Blk w9 M 47 (SC6 Bb Br Bt)) := (show Blk _ _ _ _ from ((bn.out.chg CR.out HNE.out).chg C3.out HNE.out).chg K9.out (fun e => by obtain ⟨_, _, cu, h5⟩ := O3.out.row.block e; exact cells_ne h5 ((bn.out.chg CR.out HNE.out).chg C3.out HNE.out) (by decide) rfl)); have d3 := B9.out.cell (j := 3) rfl; have CO := hide (sover_any S9.out))
        | fail)
      refine CO.out.mono ?_
      rintro e w_ ⟨rfl, hw_⟩
      subst w_
      have C9 : Hid (Chg (GF Bb Br) w1 w9) := (show Chg _ _ _ from (CR.out.trans C3.out).then K9.out (fun k hk e => by
        obtain ⟨h1, _, cu, h5⟩ := O3.out.row.block e
        obtain rfl : k = M := by have := HS1.out; omega
        exact absurd rfl (cells_ne h5 ((bn.out.chg CR.out HNE.out).chg C3.out HNE.out) (by decide))))
      have ON : Hid (OwnR9 w9 M (.slice p9 (q + 1) c9) (L ++ [x])) := (show _ from ⟨O9.out, fun y hy => by
        have hne : ∀ {B2 : Nat} {v2 : Value} {l2 : List Pr}, OwnG PE w3 B2 41 v2 l2 → ∀ k, v2.ownBlock = some k → ¬ (Value.slice a q c).ownBlock = some k := fun ho k hk e => by
          obtain ⟨_, _, c1, h5⟩ := ho.block hk
          obtain ⟨_, _, c2, h6⟩ := O3.out.row.block e
          rw [h5] at h6
          cases h6
        rcases List.mem_append.1 hy with hy | hy
        · exact (O3.out.ps y hy).chg K9.out (hne (O3.out.ps y hy))
        · rw [List.mem_singleton] at hy
          subst hy
          exact ((XO3.out.chg K9.out (hne XO3.out)).mono (by rw [HWr.out]; exact hMW))⟩)
      obtain ⟨j, Hj⟩ : ∃ j, Hid (n - i = j + 1) := ⟨n - i - 1, (show _ = _ by omega)⟩
      have hj2 : n - (i + 1) = j := by have := Hj.out; omega
      have AN : Hid (aft (pK pR (n - (i + 1))) s3 = aft (pL m pR) s) := (show _ = _ by rw [hj2, ← AR.out, Hj.out, pK_aft, Hs3.out])
      have VN : Hid (∀ ys z, s.bind (pL m pR) = some (ys, z) → ∃ xs, ys = ((L ++ [x]).map plR) ++ xs ∧ s3.bind (pK pR (n - (i + 1))) = some (xs, z)) := (show ∀ ys z, _ from fun ys z hy => by
        obtain ⟨xs, h1, h2⟩ := VR.out ys z hy
        rw [Hj.out] at h2
        obtain ⟨x0, xs0, z1, h3, h4, h5⟩ := pK_val h2
        rw [Hs3.out] at h5
        refine ⟨xs0, ?_, by rw [hj2]; exact h5⟩
        rw [h1, h3, ← V3.out x0 z1 h4]
        simp)
      obtain ⟨ov, Hov⟩ : ∃ z, Hid ((!s3.isSome) = z) := ⟨_, rfl⟩
      rw [Hov.out]
      clear CO d3
      cases ov with
      | true =>
        have h3n : s3 = none := by
          have := Hov.out
          cases s3 with
          | none => rfl
          | some z => cases this
        subst h3n
        have PN : Hid (LrPost w0 Bb Br Bt m pR s w (.returned (.slice p9 (q + 1) c9)) w9) := (show _ from ⟨_, L ++ [x], rfl, (show _ by rw [HM.out]; exact ON.out), by have := HN9.out; omega, by rw [← AN.out, aft_none]; exact S9.out, (fun ys z hy => by
          obtain ⟨xs, -, h2⟩ := VN.out ys z hy
          cases h2), (Chg.of_below l1.out).trans C9.out⟩)
        go_wp2_with fail
        go_ret
        exact PN.out
      | false =>
        go_wp2_with fail
        go_roundg (n - i)
        case measure => omega
        case rel => exact ⟨i + 1, L ++ [x], p9, q + 1, c9, s3, by omega, by omega, rfl, by go_num, HN9, by omega, ON, S9, AN, VN, C9⟩
    · obtain rfl : i = n := by omega
      have hlt' : ¬ (i : Int) < i := by omega
      have PN : Hid (LrPost w0 Bb Br Bt m pR s w (.returned (.slice a q c)) wr) := (show _ from ⟨_, L, rfl, (show _ by rw [HM.out]; exact OR.out), by have := HQ.out; omega, by
        rw [← AR.out, Nat.sub_self, show aft (pK pR 0) si = si from pK_zero si]
        exact SR.out, fun ys z hy => by
        obtain ⟨xs, h1, h2⟩ := VR.out ys z hy
        rw [Nat.sub_self] at h2
        rw [h1, pK_nil h2, List.append_nil], (Chg.of_below l1.out).trans CR.out⟩)
      go_wp2_with fail
      go_ret
      exact PN.out
#print axioms slistR_any
end Go.Proofs.Ytmicmbjbclkbjaa

/-
  What is got: a record; Read: what the calls do.
-/
namespace Go.Proofs.Ytmicmbjbclkbjaa
open Go.RowKit
def pD4 (a b : Nat) (c : Bool) (rs : List Rp) : Pa Pd := fun l => (pL 64 pW l).map fun w => (⟨a, b, c, rs, w.1⟩, w.2)
def pD3 (a b : Nat) (c : Bool) : Pa Pd := fun l => (pL 64 pR l).bind fun r => pD4 a b c r.1 r.2
def pD2 (a b : Nat) : Pa Pd := fun l => (pF l).bind fun c => pD3 a b c.1 c.2
def pD1 (a : Nat) : Pa Pd := fun l => (pN 1099511627776 l).bind fun b => pD2 a b.1 b.2
theorem bind_ex {α β : Type} {p : Pa α} {f : α → Pa β} {P : Pa β} (hP : ∀ l, P l = (p l).bind fun q => f q.1 q.2) {s : Option (List UInt8)} {y : β} {z : List UInt8} (h : s.bind P = some (y, z)) : ∃ x z1, s.bind p = some (x, z1) ∧ (some z1).bind (f x) = some (y, z) := by
  cases s with
  | none => cases h
  | some l =>
    simp only [Option.bind_some] at h
    rw [hP] at h
    cases hp : p l with
    | none => rw [hp] at h; cases h
    | some q =>
      obtain ⟨x, z1⟩ := q
      rw [hp] at h
      exact ⟨x, z1, by simp [hp], h⟩
/-- What is told of a record that was got. -/
def RePost (w0 : World) (Bb Br Bt : Nat) (s : Option (List UInt8)) (w : World) (e : Ending) (w' : World) : Prop := ∃ r, e = .returned (.agg (RC r).toArray) ∧ OwnRc w' w.heap.size r ∧ SrcAt w0 w' Bb Br Bt (aft pD s) ∧ (∀ d z, s.bind pD = some (d, z) → pdR r = d) ∧ 0 ≤ r.ses ∧ 0 ≤ r.snap ∧ Chg (GF Bb Br) w w'
theorem OwnRc.chgB {w w' : World} {B : Nat} {r : Rc} {F : Nat → Prop} (h : OwnRc w B r) (hc : Chg F w w') (hF : ∀ k, B ≤ k → ¬ F k) : OwnRc w' B r :=
  ⟨⟨h.rs.row.chg hc fun k hk => hF k (h.rs.row.block hk).1, fun y hy => (h.rs.ps y hy).chg hc fun k hk => hF k ((h.rs.ps y hy).block hk).1⟩, h.ws.chg hc fun k hk => hF k (h.ws.block hk).1⟩
theorem OwnR9.chgB {w w' : World} {B : Nat} {v : Value} {L : List Rz} {F : Nat → Prop} (h : OwnR9 w B v L) (hc : Chg F w w') (hF : ∀ k, B ≤ k → ¬ F k) : OwnR9 w' B v L :=
  ⟨h.row.chg hc fun k hk => hF k (h.row.block hk).1, fun y hy => (h.ps y hy).chg hc fun k hk => hF k ((h.ps y hy).block hk).1⟩
theorem OwnR9.mono {w : World} {B B' : Nat} {v : Value} {L : List Rz} (h : OwnR9 w B v L) (hB : B' ≤ B) : OwnR9 w B' v L := ⟨h.row.mono hB, fun y hy => (h.ps y hy).mono hB⟩
theorem OwnRc.mono {w : World} {B B' : Nat} {r : Rc} (h : OwnRc w B r) (hB : B' ≤ B) : OwnRc w B' r := ⟨h.rs.mono hB, h.ws.mono hB⟩
theorem build_rec5 (a b : Int) (c : Bool) (p : Option Addr) (n q : Nat) (p' : Option Addr) (n' q' : Nat) : ∀ W : World, (Instr.build 27 #[(0, .int .i64 a), (1, .int .i64 b), (2, .bool c), (3, .slice p n q), (4, .slice p' n' q')]).run Try.prog W = .ok (.agg #[.int .i64 a, .int .i64 b, .bool c, .slice p n q, .slice p' n' q']) W := fun W => by kernel_rfl
theorem zeroRr (W : World) : (zeroValue 27).run Try.prog W = .ok (.agg #[.int .i64 0, .int .i64 0, .bool false, .slice none 0 0, .slice none 0 0]) W := by kernel_rfl
set_option linter.unusedSimpArgs false in
set_option maxHeartbeats 4000000 in
set_option maxRecDepth 100000 in
theorem srecord_any {w0 w : World} {Bb Br Bt : Nat} {s : Option (List UInt8)} (h : SrcAt w0 w Bb Br Bt s) :
    Calls Try.prog 17 #[.agg (SC6 Bb Br Bt).toArray] w fun e w' => RePost w0 Bb Br Bt s w e w' := by
  obtain ⟨N, HN⟩ : ∃ N, Hid (w.heap.size = N) := ⟨_, rfl⟩
  obtain ⟨w1, hw1⟩ : ∃ y, y = (w.alloc (.cells (SC6 Bb Br Bt).toArray 47 (0, 0))).alloc (.cells #[.int .i64 0, .int .i64 0, .bool false, .slice none 0 0, .slice none 0 0] 27 (0, 0)) := ⟨_, rfl⟩
  obtain ⟨bn, bz, l1⟩ := newB2 (A := SC6 Bb Br Bt) (B := [.int .i64 0, .int .i64 0, .bool false, .slice none 0 0, .slice none 0 0]) HN hw1
  have HW := hide hw1
  have BN := bn
  have BZ := bz
  have S0 := hide (h.kept l1.out)
  have h0s : Hid (w0.heap.size ≤ w.heap.size) := (show _ ≤ _ from h.base.size)
  have HNE := hide (S0.out.neT BN.out (by decide) (by decide))
  have HNZ := hide (S0.out.neT BZ.out (by decide) (by decide))
  have HLT : Hid (Bb < w1.heap.size ∧ Br < w1.heap.size) := (show _ ∧ _ from S0.out.lt)
  have HN1 : Hid (w1.heap.size = N + 2) := (show _ = _ by rw [hw1]; simp [HN.out])
  obtain ⟨a, Ha⟩ : ∃ z, Hid (got (pN 8) 0 s = z) := ⟨_, rfl⟩
  obtain ⟨s1, Hs1⟩ : ∃ z, Hid (aft (pN 8) s = z) := ⟨_, rfl⟩
  obtain ⟨b, Hb⟩ : ∃ z, Hid (got (pN 1099511627776) 0 s1 = z) := ⟨_, rfl⟩
  obtain ⟨s2, Hs2⟩ : ∃ z, Hid (aft (pN 1099511627776) s1 = z) := ⟨_, rfl⟩
  obtain ⟨c, Hc⟩ : ∃ z, Hid (got pF false s2 = z) := ⟨_, rfl⟩
  obtain ⟨s3, Hs3⟩ : ∃ z, Hid (aft pF s2 = z) := ⟨_, rfl⟩
  obtain ⟨s4, Hs4⟩ : ∃ z, Hid (aft (pL 64 pR) s3 = z) := ⟨_, rfl⟩
  obtain ⟨s5, Hs5⟩ : ∃ z, Hid (aft (pL 64 pW) s4 = z) := ⟨_, rfl⟩
  have C1 : Hid (∀ W, SrcAt w0 W Bb Br Bt s → Calls Try.prog 33 #[.int .u64 8, PT Bb, PT Bt] W fun e w' => e = .returned (.int .i64 (a : Int)) ∧ SrcAt w0 w' Bb Br Bt s1 ∧ Chg (GF Bb Br) W w') := (show ∀ W, _ from fun W hW => by rw [← Ha.out, ← Hs1.out]; exact snum_any hW 8 (by decide))
  have C2 : Hid (∀ W, SrcAt w0 W Bb Br Bt s1 → Calls Try.prog 33 #[.int .u64 1099511627776, PT Bb, PT Bt] W fun e w' => e = .returned (.int .i64 (b : Int)) ∧ SrcAt w0 w' Bb Br Bt s2 ∧ Chg (GF Bb Br) W w') := (show ∀ W, _ from fun W hW => by rw [← Hb.out, ← Hs2.out]; exact snum_any hW 1099511627776 (by decide))
  have C3 : Hid (∀ W, SrcAt w0 W Bb Br Bt s2 → Calls Try.prog 35 #[PT Bb, PT Bt] W fun e w' => e = .returned (.bool c) ∧ SrcAt w0 w' Bb Br Bt s3 ∧ Chg (GF Bb Br) W w') := (show ∀ W, _ from fun W hW => by rw [← Hc.out, ← Hs3.out]; exact sflag_any hW)
  have C4 : Hid (∀ W, SrcAt w0 W Bb Br Bt s3 → Calls Try.prog 41 #[.agg (SC6 Bb Br Bt).toArray, .int .u64 64, .func (.func 42) #[] #[]] W fun e w' => LrPost w0 Bb Br Bt 64 pR s3 W e w') := (show ∀ W, _ from fun W hW => slistR_any hW 64 (by decide))
  have C5 : Hid (∀ W, SrcAt w0 W Bb Br Bt s4 → Calls Try.prog 43 #[.agg (SC6 Bb Br Bt).toArray, .int .u64 64, .func (.func 44) #[] #[]] W fun e w' => LsPost w0 Bb Br Bt 64 pW s4 W e w') := (show ∀ W, _ from fun W hW => slistW_any hW 64 (by decide))
  have HPP : Hid (aft pD s = s5 ∧ ∀ d z, s.bind pD = some (d, z) → ∃ rs ws z1 z2, s3.bind (pL 64 pR) = some (rs, z1) ∧ s4.bind (pL 64 pW) = some (ws, z2) ∧ d = ⟨a, b, c, rs, ws⟩) := (show _ ∧ _ from by
    have hP : ∀ l, pD l = (pN 8 l).bind fun q => pD1 q.1 q.2 := fun l => rfl
    have hP1 : ∀ l, pD1 a l = (pN 1099511627776 l).bind fun q => pD2 a q.1 q.2 := fun l => rfl
    have hP2 : ∀ l, pD2 a b l = (pF l).bind fun q => pD3 a b q.1 q.2 := fun l => rfl
    have hP3 : ∀ l, pD3 a b c l = (pL 64 pR l).bind fun q => pD4 a b c q.1 q.2 := fun l => rfl
    refine ⟨?_, fun d z hy => ?_⟩
    · rw [aft_bind (p := pN 8) (f := pD1) hP 0 s, Ha.out, Hs1.out, aft_bind (p := pN 1099511627776) (f := pD2 a) hP1 0 s1, Hb.out, Hs2.out, aft_bind (p := pF) (f := pD3 a b) hP2 false s2, Hc.out, Hs3.out, aft_bind (p := pL 64 pR) (f := pD4 a b c) hP3 [] s3, Hs4.out, aft_map (P := pD4 a b c _) (g := fun t => (⟨a, b, c, got (pL 64 pR) [] s3, t⟩ : Pd)) (p := pL 64 pW) (fun _ => rfl), Hs5.out]
    · have h1 := val_bind (p := pN 8) (f := pD1) hP 0 hy
      rw [Ha.out, Hs1.out] at h1
      have h2 := val_bind (p := pN 1099511627776) (f := pD2 a) hP1 0 h1
      rw [Hb.out, Hs2.out] at h2
      have h3 := val_bind (p := pF) (f := pD3 a b) hP2 false h2
      rw [Hc.out, Hs3.out] at h3
      obtain ⟨rs, z1, h4, h5⟩ := bind_ex (p := pL 64 pR) (f := pD4 a b c) hP3 h3
      have h6 := (val_got (d := []) h4).2
      rw [Hs4.out] at h6
      rw [← h6] at h5
      cases s4 with
      | none => cases h5
      | some l4 =>
        simp only [Option.bind_some, pD4, Option.map_eq_some_iff, Prod.mk.injEq] at h5
        obtain ⟨t, g1, g2, g3⟩ := h5
        exact ⟨rs, t.1, z1, t.2, h4, g1, g2.symm⟩)
  obtain ⟨SB, HSB⟩ : ∃ f : Nat → Option (List UInt8), f = fun b => if b = 0 then s else if b = 1 then s1 else if b = 2 then s2 else if b = 3 then s3 else if b = 4 then s4 else s5 := ⟨_, rfl⟩
  have HB0 : SB 0 = s := by rw [HSB]; rfl
  have HB1 : SB 1 = s1 := by rw [HSB]; rfl
  have HB2 : SB 2 = s2 := by rw [HSB]; rfl
  have HB3 : SB 3 = s3 := by rw [HSB]; rfl
  have HB4 : SB 4 = s4 := by rw [HSB]; rfl
  have HB5 : SB 5 = s5 := by rw [HSB]; rfl
  have HGK : Hid (∀ k, N + 2 ≤ k → ¬ GF Bb Br k) := (show ∀ k, _ from fun k hk e => by have := HLT.out; have := HN1.out; rcases e with e | e <;> omega)
  have hz := zeroRr
  clear hw1 bn bz HSB
  go_enter Try.func17, Try.ntmps17
  go_upto_region 1 with fail
  change Code.wp _ _ _ _ ((w.alloc (.cells (SC6 Bb Br Bt).toArray 47 (0, 0))).alloc (.cells #[.int .i64 0, .int .i64 0, .bool false, .slice none 0 0, .slice none 0 0] 27 (0, 0)))
  rw [← HW.out, HN.out]
  refine wp_region_chainR (R := Chg (GF Bb Br)) Try.mixed (KC (fun i_ => match i_ with | 0 | 3 => .val (.pointer (some ⟨N, 0, none⟩)) | 1 | 4 => .val (.func (.func 33) #[] #[PT Bb, PT Bt]) | 2 => .val (.int .i64 (a : Int)) | 5 => .val (.int .i64 (b : Int)) | 6 => .val (.pointer (some ⟨N, 1, none⟩)) | 7 => .val (.func (.func 35) #[] #[PT Bb, PT Bt]) | 8 => .val (.bool c) | 9 | 11 => .val (.agg (SC6 Bb Br Bt).toArray) | 10 => .of (relChg _) (fun W x => ∃ (p : Option Addr) (c n : Nat) (L : List Rz), x = .slice p n c ∧ L.length = n ∧ OwnR9 W (N + 2) x L ∧ ∀ ys z, s3.bind (pL 64 pR) = some (ys, z) → L.map plR = ys) (fun _ _ _ hr ⟨p, c, n, L, e1, e2, e3, e4⟩ => ⟨p, c, n, L, e1, e2, e3.chgB hr HGK.out, e4⟩) | 12 => .of (relChg _) (fun W x => ∃ (p : Option Addr) (c n : Nat) (L : List Pr), x = .slice p n c ∧ L.length = n ∧ OwnG PE W (N + 2) 41 x L ∧ ∀ ys z, s4.bind (pL 64 pW) = some (ys, z) → L = ys) (fun _ _ _ hr ⟨p, c, n, L, e1, e2, e3, e4⟩ => ⟨p, c, n, L, e1, e2, e3.chg hr (fun k hk => HGK.out k (e3.block hk).1), e4⟩) | 13 => .of (relChg _) (fun W x => ∃ r : Rc, x = .agg (RC r).toArray ∧ OwnRc W (N + 2) r ∧ r.ses = (a : Int) ∧ r.snap = (b : Int) ∧ r.st = c ∧ (∀ ys z, s3.bind (pL 64 pR) = some (ys, z) → r.rs.map plR = ys) ∧ ∀ ys z, s4.bind (pL 64 pW) = some (ys, z) → r.ws = ys) (fun _ _ _ hr ⟨r, e1, e2, e3⟩ => ⟨r, e1, e2.chgB hr HGK.out, e3⟩) | _ => .free)) (fun b_ w_ => SrcAt w0 w_ Bb Br Bt (SB b_) ∧ Chg (GF Bb Br) w1 w_) [2, 5, 8, 10, 12] 17 rfl (by decide +kernel) 14 (by decide) (by decide) (by decide) (by decide +kernel) (by decide +kernel) (KC_mono _) (KC_monoR (fun i_ h_ => (by split <;> first | rfl | exact absurd rfl h_))) (fun b_ w_ w_2 hg h => ⟨h.1.kept hg, h.2.trans (Chg.of_below hg)⟩) (⟨by rw [HB0]; exact S0.out, Chg.refl _ _⟩) ?_ ?_
  · refine AllFrom.cons ⟨rfl, fun _ a' b' w' hC hk hd Q => ?_, fun j_ hj_ => (pvR_no (by decide) j_ hj_).elim⟩ (AllFrom.cons ⟨rfl, fun _ a' b' w' hC hk hd Q => ?_, fun j_ hj_ => (pvR_no (by decide) j_ hj_).elim⟩ (AllFrom.cons ⟨rfl, fun h => absurd (by decide) h, fun j_ hj_ a' w' hC hk hd Q => ?_⟩ (AllFrom.cons ⟨rfl, fun _ a' b' w' hC hk hd Q => ?_, fun j_ hj_ => (pvR_no (by decide) j_ hj_).elim⟩ (AllFrom.cons ⟨rfl, fun _ a' b' w' hC hk hd Q => ?_, fun j_ hj_ => (pvR_no (by decide) j_ hj_).elim⟩ (AllFrom.cons ⟨rfl, fun h => absurd (by decide) h, fun j_ hj_ a' w' hC hk hd Q => ?_⟩ (AllFrom.cons ⟨rfl, fun _ a' b' w' hC hk hd Q => ?_, fun j_ hj_ => (pvR_no (by decide) j_ hj_).elim⟩ (AllFrom.cons ⟨rfl, fun _ a' b' w' hC hk hd Q => ?_, fun j_ hj_ => (pvR_no (by decide) j_ hj_).elim⟩ (AllFrom.cons ⟨rfl, fun h => absurd (by decide) h, fun j_ hj_ a' w' hC hk hd Q => ?_⟩ (AllFrom.cons ⟨rfl, fun _ a' b' w' hC hk hd Q => ?_, fun j_ hj_ => (pvR_no (by decide) j_ hj_).elim⟩ (AllFrom.cons ⟨rfl, fun h => absurd (by decide) h, fun j_ hj_ a' w' hC hk hd Q => ?_⟩ (AllFrom.cons ⟨rfl, fun _ a' b' w' hC hk hd Q => ?_, fun j_ hj_ => (pvR_no (by decide) j_ hj_).elim⟩ (AllFrom.cons ⟨rfl, fun h => absurd (by decide) h, fun j_ hj_ a' w' hC hk hd Q => ?_⟩ (AllFrom.cons ⟨rfl, fun _ a' b' w' hC hk hd Q => ?_, fun j_ hj_ => (pvR_no (by decide) j_ hj_).elim⟩ AllFrom.nil)))))))))))))
    · skip
      have e1 : a'.eval (.tmp 1) = .pointer (some ⟨N, 0, none⟩) := hk.at 1 (by decide +kernel)
      clear hd hk
      exact wp_value (.pointer (some ⟨N, 0, none⟩)) (by simp only [execOp, e1]; go_simp) (KC_mkv rfl rfl)
    · skip
      have e3 : a'.eval (.tmp 3) = .pointer (some ⟨N, 0, none⟩) := KC_val (hd.val 0 3 (by decide +kernel)) rfl
      have hc := (BN.out.chg hC.2 HNE.out).cell (j := 0) rfl
      clear hd hk
      exact wp_value (.func (.func 33) #[] #[PT Bb, PT Bt]) (by simp only [execOp, e3]; go_simp) (KC_mkv rfl rfl)
    · skip
      obtain rfl : j_ = 0 := pvR_at (by decide) rfl hj_
      have e4 : a'.eval (.tmp 4) = .func (.func 33) #[] #[PT Bb, PT Bt] := KC_val (hd.val 1 4 (by decide +kernel)) rfl
      have hc0 := hC.1
      rw [HB0] at hc0
      refine wp_callP 33 _ (run_enterV 33 _ _ 4 _ rfl e4 (by kernel_rfl)) ?_
      simp only [List.map_toArray, List.map_cons, List.map_nil, List.append_toArray, List.cons_append, List.nil_append, Act.eval]
      refine (C1.out w' hc0).mono ?_
      rintro e w5 ⟨rfl, s5, c5⟩
      rw [← HB1] at s5
      exact ⟨_, rfl, KC_mkv rfl rfl, c5, s5, hC.2.trans c5⟩
    · skip
      have e1 : a'.eval (.tmp 1) = .pointer (some ⟨N, 0, none⟩) := hk.at 1 (by decide +kernel)
      clear hd hk
      exact wp_value (.pointer (some ⟨N, 0, none⟩)) (by simp only [execOp, e1]; go_simp) (KC_mkv rfl rfl)
    · skip
      have e6 : a'.eval (.tmp 6) = .pointer (some ⟨N, 0, none⟩) := KC_val (hd.val 3 6 (by decide +kernel)) rfl
      have hc := (BN.out.chg hC.2 HNE.out).cell (j := 0) rfl
      clear hd hk
      exact wp_value (.func (.func 33) #[] #[PT Bb, PT Bt]) (by simp only [execOp, e6]; go_simp) (KC_mkv rfl rfl)
    · skip
      obtain rfl : j_ = 1 := pvR_at (by decide) rfl hj_
      have e7 : a'.eval (.tmp 7) = .func (.func 33) #[] #[PT Bb, PT Bt] := KC_val (hd.val 4 7 (by decide +kernel)) rfl
      have hc0 := hC.1
      rw [HB1] at hc0
      refine wp_callP 33 _ (run_enterV 33 _ _ 7 _ rfl e7 (by kernel_rfl)) ?_
      simp only [List.map_toArray, List.map_cons, List.map_nil, List.append_toArray, List.cons_append, List.nil_append, Act.eval]
      refine (C2.out w' hc0).mono ?_
      rintro e w5 ⟨rfl, s5, c5⟩
      rw [← HB2] at s5
      exact ⟨_, rfl, KC_mkv rfl rfl, c5, s5, hC.2.trans c5⟩
    · skip
      have e1 : a'.eval (.tmp 1) = .pointer (some ⟨N, 0, none⟩) := hk.at 1 (by decide +kernel)
      clear hd hk
      exact wp_value (.pointer (some ⟨N, 1, none⟩)) (by simp only [execOp, e1]; go_simp) (KC_mkv rfl rfl)
    · skip
      have e9 : a'.eval (.tmp 9) = .pointer (some ⟨N, 1, none⟩) := KC_val (hd.val 6 9 (by decide +kernel)) rfl
      have hc := (BN.out.chg hC.2 HNE.out).cell (j := 1) rfl
      clear hd hk
      exact wp_value (.func (.func 35) #[] #[PT Bb, PT Bt]) (by simp only [execOp, e9]; go_simp) (KC_mkv rfl rfl)
    · skip
      obtain rfl : j_ = 2 := pvR_at (by decide) rfl hj_
      have e10 : a'.eval (.tmp 10) = .func (.func 35) #[] #[PT Bb, PT Bt] := KC_val (hd.val 7 10 (by decide +kernel)) rfl
      have hc0 := hC.1
      rw [HB2] at hc0
      refine wp_callP 35 _ (run_enterV 35 _ _ 10 _ rfl e10 (by kernel_rfl)) ?_
      simp only [List.map_toArray, List.map_cons, List.map_nil, List.append_toArray, List.cons_append, List.nil_append, Act.eval]
      refine (C3.out w' hc0).mono ?_
      rintro e w5 ⟨rfl, s5, c5⟩
      rw [← HB3] at s5
      exact ⟨_, rfl, KC_mkv rfl rfl, c5, s5, hC.2.trans c5⟩
    · skip
      have e1 : a'.eval (.tmp 1) = .pointer (some ⟨N, 0, none⟩) := hk.at 1 (by decide +kernel)
      exact wp_load_row 47 _ rfl _ _ e1 (SC6 Bb Br Bt) _ ((BN.out.chg hC.2 HNE.out).range0) Try.underlying47 rfl Try.size47 (KC_mkv rfl rfl)
    · skip
      obtain rfl : j_ = 3 := pvR_at (by decide) rfl hj_
      have e12 : a'.eval (.tmp 12) = .agg (SC6 Bb Br Bt).toArray := KC_val (hd.val 9 12 (by decide +kernel)) rfl
      have hc0 := hC.1
      rw [HB3] at hc0
      refine wp_callP 41 _ (run_enter 41 _ _ rfl (by kernel_rfl)) ?_
      simp only [List.map_toArray, List.map_cons, List.map_nil, e12]
      refine (C4.out w' hc0).mono ?_
      rintro e w5 ⟨v5, L5, rfl, o5, n5, s5, y5, c5⟩
      obtain ⟨p5, q5, h5⟩ := o5.row.form
      rw [Hs4.out, ← HB4] at s5
      exact ⟨v5, rfl, KC_mko rfl ⟨p5, q5, L5.length, L5, h5, rfl, o5.mono (by have h1 := hC.2.size; have h2 := HN1.out; omega), y5⟩, c5, s5, hC.2.trans c5⟩
    · skip
      have e1 : a'.eval (.tmp 1) = .pointer (some ⟨N, 0, none⟩) := hk.at 1 (by decide +kernel)
      exact wp_load_row 47 _ rfl _ _ e1 (SC6 Bb Br Bt) _ ((BN.out.chg hC.2 HNE.out).range0) Try.underlying47 rfl Try.size47 (KC_mkv rfl rfl)
    · skip
      obtain rfl : j_ = 4 := pvR_at (by decide) rfl hj_
      have e14 : a'.eval (.tmp 14) = .agg (SC6 Bb Br Bt).toArray := KC_val (hd.val 11 14 (by decide +kernel)) rfl
      have hc0 := hC.1
      rw [HB4] at hc0
      refine wp_callP 43 _ (run_enter 43 _ _ rfl (by kernel_rfl)) ?_
      simp only [List.map_toArray, List.map_cons, List.map_nil, e14]
      refine (C5.out w' hc0).mono ?_
      rintro e w5 ⟨v5, L5, rfl, o5, n5, s5, y5, c5⟩
      obtain ⟨p5, q5, h5⟩ := o5.form
      rw [Hs5.out, ← HB5] at s5
      exact ⟨v5, rfl, KC_mko rfl ⟨p5, q5, L5.length, L5, h5, rfl, o5.mono (by have h1 := hC.2.size; have h2 := HN1.out; omega), y5⟩, c5, s5, hC.2.trans c5⟩
    · skip
      have e5 : a'.eval (.tmp 5) = .int .i64 (a : Int) := KC_val (hd.val 2 5 (by decide +kernel)) rfl
      have e8 : a'.eval (.tmp 8) = .int .i64 (b : Int) := KC_val (hd.val 5 8 (by decide +kernel)) rfl
      have e11 : a'.eval (.tmp 11) = .bool c := KC_val (hd.val 8 11 (by decide +kernel)) rfl
      have r13 := KC_of (hd.val 10 13 (by decide +kernel)) rfl
      have r15 := KC_of (hd.val 12 15 (by decide +kernel)) rfl
      obtain ⟨p3, c3, n3, L3, f3, g3, o3, y3⟩ := r13
      obtain ⟨p4, c4, n4, L4, f4, g4, o4, y4⟩ := r15
      rw [f3] at o3
      rw [f4] at o4
      subst g3 g4
      clear hd hk
      exact wp_value (.agg (RC (⟨(a : Int), (b : Int), c, L3, L4, p3, c3, p4, c4⟩ : Rc)).toArray) (by simp only [execOp, List.map_toArray, List.map_cons, List.map_nil, e5, e8, e11, f3, f4, Sem.run_bind, Sem.run_pure]; exact congrArg (fun r => Result.andThen r _) (build_rec5 _ _ _ _ _ _ _ _ _ _)) (KC_mko rfl ⟨⟨(a : Int), (b : Int), c, L3, L4, p3, c3, p4, c4⟩, rfl, ⟨o3, o4⟩, rfl, rfl, rfl, y3, y4⟩)
  · intro a' w2 hsz hdf hk hall hC
    have S2 := hide hC.1
    have L2 := hide hC.2
    clear hC
    have e3 : a'.eval (.tmp 3) = .pointer (some ⟨N, 0, none⟩) := KC_val (hall 0 _ 3 (by decide) rfl rfl) rfl
    have e4 : a'.eval (.tmp 4) = .func (.func 33) #[] #[PT Bb, PT Bt] := KC_val (hall 1 _ 4 (by decide) rfl rfl) rfl
    have e5 : a'.eval (.tmp 5) = .int .i64 (a : Int) := KC_val (hall 2 _ 5 (by decide) rfl rfl) rfl
    have e6 : a'.eval (.tmp 6) = .pointer (some ⟨N, 0, none⟩) := KC_val (hall 3 _ 6 (by decide) rfl rfl) rfl
    have e7 : a'.eval (.tmp 7) = .func (.func 33) #[] #[PT Bb, PT Bt] := KC_val (hall 4 _ 7 (by decide) rfl rfl) rfl
    have e8 : a'.eval (.tmp 8) = .int .i64 (b : Int) := KC_val (hall 5 _ 8 (by decide) rfl rfl) rfl
    have e9 : a'.eval (.tmp 9) = .pointer (some ⟨N, 1, none⟩) := KC_val (hall 6 _ 9 (by decide) rfl rfl) rfl
    have e10 : a'.eval (.tmp 10) = .func (.func 35) #[] #[PT Bb, PT Bt] := KC_val (hall 7 _ 10 (by decide) rfl rfl) rfl
    have e11 : a'.eval (.tmp 11) = .bool c := KC_val (hall 8 _ 11 (by decide) rfl rfl) rfl
    have e12 : a'.eval (.tmp 12) = .agg (SC6 Bb Br Bt).toArray := KC_val (hall 9 _ 12 (by decide) rfl rfl) rfl
    have r13 := KC_of (hall 10 _ 13 (by decide) rfl rfl) rfl
    obtain ⟨x13, hx13⟩ : ∃ v, a'.eval (.tmp 13) = v := ⟨_, rfl⟩
    rw [hx13] at r13
    have e14 : a'.eval (.tmp 14) = .agg (SC6 Bb Br Bt).toArray := KC_val (hall 11 _ 14 (by decide) rfl rfl) rfl
    have r15 := KC_of (hall 12 _ 15 (by decide) rfl rfl) rfl
    obtain ⟨x15, hx15⟩ : ∃ v, a'.eval (.tmp 15) = v := ⟨_, rfl⟩
    rw [hx15] at r15
    have r16 := KC_of (hall 13 _ 16 (by decide) rfl rfl) rfl
    obtain ⟨x16, hx16⟩ : ∃ v, a'.eval (.tmp 16) = v := ⟨_, rfl⟩
    rw [hx16] at r16
    have ha := act_puts 17 rfl hsz hdf hk [3, 4, 5, 6, 7, 8, 9, 10, 11, 12, 13, 14, 15, 16] (by decide +kernel)
    simp only [puts, List.foldl_cons, List.foldl_nil, e3, e4, e5, e6, e7, e8, e9, e10, e11, e12, hx13, e14, hx15, hx16] at ha
    simp only [Act.put, List.setIfInBounds_toArray, List.set_cons_succ, List.set_cons_zero] at ha
    clear hall hk hsz hdf e3 e4 e5 e6 e7 e8 e9 e10 e11 e12 hx13 e14 hx15 hx16
    subst ha
    obtain ⟨r, e16, o16, ha16, hb16, hc16, hr16, hw16⟩ := r16
    subst e16
    have O16 := hide o16
    refine wpSeq_store_blk rfl 27 _ _ rfl (N + 1) _ (RC r) 27 rfl rfl (BZ.out.chg L2.out HNZ.out) rfl Try.size27 (RC_one r) ?_
    intro w3 hb3 hu3
    have C9 : Hid (Chg (fun j => j = N + 1) w2 w3) := (show Chg _ _ _ from Chg.of_but hu3 rfl)
    have hz2 := hide (BZ.out.chg L2.out HNZ.out)
    have S2' : Hid (SrcAt w0 w2 Bb Br Bt s5) := (show SrcAt _ _ _ _ _ _ from by
      have h1 := S2.out
      rwa [show ([2, 5, 8, 10, 12] : List Nat).length = 5 from rfl, HB5] at h1)
    have S3 : Hid (SrcAt w0 w3 Bb Br Bt s5) := (show SrcAt _ _ _ _ _ _ from S2'.out.other C9.out hz2.out (by decide) (by decide) (by decide) (by have := S0.out.base.size; have := l1.out.size; have := HN.out; have := h0s.out; omega))
    simp only [wpSeq]
    go_wp2_with fail
    refine bodyPost_ret (ret_rec rfl _ _ (N + 1) r rfl hb3) rfl (show RePost _ _ _ _ _ _ _ _ from ⟨r, rfl, ?_, ?_, ?_, ?_, ?_, ?_⟩)
    · rw [HN.out]
      exact (O16.out.chg hz2.out C9.out).mono (by omega)
    · rw [HPP.out.1]
      exact S3.out
    · intro d z hy
      obtain ⟨rs, ws, z1, z2, g1, g2, g3⟩ := HPP.out.2 d z hy
      rw [g3]
      unfold pdR
      rw [ha16, hb16, hc16, hr16 rs z1 g1, hw16 ws z2 g2, Int.toNat_natCast, Int.toNat_natCast]
    · rw [ha16]
      omega
    · rw [hb16]
      omega
    · exact ((Chg.of_below l1.out).trans L2.out).then C9.out (fun i hi e => absurd hi (by have := HN.out; omega))
#print axioms srecord_any
theorem ret_src {fn : Func} {p : Tmp} (h : fn.results = #[.cell p 47]) (tmps : Array Value) (w : World) (g : Nat) (cs : List Value) (hc : cs.length = 5) (hp : tmps.getD p undef = .pointer (some ⟨g, 0, none⟩)) (hB : Blk w g 47 cs) :
    (results fn tmps).run Try.prog w = .ok (.agg cs.toArray) w :=
  results_cell_row h _ _ g 47 _ (0, 0) _ hp hB Try.underlying47 rfl (by rw [List.size_toArray, hc]; exact Try.size47)
theorem sztk : ∀ W : World, (sizeOf 61).run Try.prog W = .ok 1 W := fun W => by kernel_rfl
theorem wpList_store_fn {P : Program} {ops : Array Oper} {rest : List Oper} {o : Oper} {a : Act} {w : World} {Q : Exit → Act → World → Prop} (hgd : o.guard = none) (ty : TypeId) (hso : ∀ W, (sizeOf ty).run P W = .ok 1 W) (x y : Operand) (ho : o.op = .store ty x y) (b j : Nat) (T : TypeId) (cs : List Value) (f : Fn) (cp : Array Value)
    (hx : a.eval x = .pointer (some ⟨b, j, none⟩)) (hy : a.eval y = .func f #[] cp) (hB : Blk w b T cs) (hj : j < cs.length) (h : ∀ w', Blk w' b T (cs.set j (.func f #[] cp)) → But b w w' → wpList P ops Q rest (a.put o.dst undef) w') : wpList P ops Q (o :: rest) a w := by
  have hc := hB.cell (j := j) (v := cs[j]) (List.getElem?_eq_getElem hj)
  have hf := hB.frozen j
  have hrun : (execOp a.eval o).run P w = .ok .skip (w.setCell ⟨b, j, none⟩ (.func f #[] cp)) := by
    have hst : (store ⟨b, j, none⟩ (.func f #[] cp) .plain).run P w = stored P w ⟨b, j, none⟩ (.func f #[] cp) .plain := run_store P w _ _ _ rfl
    simp only [execOp, ho, hx, hy]
    go_simp
  refine wpList_plain hgd fun K hK => ?_
  unfold Oper.wp
  rw [hrun]
  exact hK _ _ (h _ (hB.set j (.func f #[] cp)) (But.setCell b w j _))
set_option maxHeartbeats 1000000 in
set_option maxRecDepth 100000 in
theorem sourceOf_any {w : World} {v : Value} {l : List UInt8} (hr : Rd w v l) (hl : l.length ≤ 8192) :
    Calls Try.prog 16 #[v] w fun e w' => ∃ Bb Br Bt, e = .returned (.agg (SC6 Bb Br Bt).toArray) ∧ SrcAt w w' Bb Br Bt (some l) ∧ Below w.heap.size w w' := by
  obtain ⟨a, cap, rfl⟩ := hr.slice
  obtain ⟨N, HN⟩ : ∃ N, Hid (w.heap.size = N) := ⟨_, rfl⟩
  obtain ⟨n, Hn⟩ : ∃ z, Hid (l.length = z) := ⟨_, rfl⟩
  have HR := hide hr
  rw [Hn.out] at HR ⊢
  have mf := mk_fn
  obtain ⟨w2, hw2⟩ : ∃ z, z = (w.alloc (.cells #[.slice a n cap] 22 (0, 0))).alloc (.cells #[.nilFunc, .nilFunc, .nilFunc, .nilFunc, .nilFunc] 47 (0, 0)) := ⟨_, rfl⟩
  obtain ⟨b1, b2, l2⟩ := newB2 (A := [.slice a n cap]) (B := [.nilFunc, .nilFunc, .nilFunc, .nilFunc, .nilFunc]) HN hw2
  have HN2 : Hid (w2.heap.size = N + 2) := (show _ = _ by rw [hw2]; simp [HN.out])
  obtain ⟨w3, hw3⟩ : ∃ z, z = w2.alloc (.cells #[.bool true] 4 (0, 0)) := ⟨_, rfl⟩
  obtain ⟨b3, l3⟩ := newB (A := [.bool true]) HN2 hw3
  have HN3 : Hid (w3.heap.size = N + 3) := (show _ = _ by rw [hw3]; simp [HN2.out])
  obtain ⟨w4, hw4⟩ : ∃ z, z = w3.alloc (.cells #[.nilFunc] 61 (0, 0)) := ⟨_, rfl⟩
  obtain ⟨b4, l4⟩ := newB (A := [.nilFunc]) HN3 hw4
  have HW2 := hide hw2
  have HW3 := hide hw3
  have HW4 := hide hw4
  have L4 : Hid (Below w.heap.size w w4) := (show Below _ _ _ from (l2.out.trans (l3.out.mono l2.out.size)).trans (l4.out.mono (by rw [HN.out, HN3.out]; omega)))
  have A1 : Hid (Blk w4 N 22 [.slice a n cap]) := (show Blk _ _ _ _ from (b1.out.kept l3.out).kept l4.out)
  have A2 : Hid (Blk w4 (N + 1) 47 [.nilFunc, .nilFunc, .nilFunc, .nilFunc, .nilFunc]) := (show Blk _ _ _ _ from (b2.out.kept l3.out).kept l4.out)
  have A3 : Hid (Blk w4 (N + 2) 4 [.bool true]) := (show Blk _ _ _ _ from b3.out.kept l4.out)
  clear hr hw2 hw3 hw4
  go_enter Try.func16, Try.ntmps16
  go_upto_region 1 with fail
  change Code.wp _ _ _ _ ((w.alloc (.cells #[.slice a n cap] 22 (0, 0))).alloc (.cells #[.nilFunc, .nilFunc, .nilFunc, .nilFunc, .nilFunc] 47 (0, 0)))
  rw [← HW2.out, HN.out]
  go_upto_region 2 with fail
  change Code.wp _ _ _ _ (w2.alloc (.cells #[.bool true] 4 (0, 0)))
  rw [← HW3.out, HN2.out]
  go_upto_region 3 with (first
    | (refine wpList_store_fn rfl 61 sztk _ _ rfl (N + 3) 0 61 [.nilFunc] _ _ (show _ = _ by rw [← HN3.out]; rfl) rfl (show Blk (w3.alloc (.cells #[.nilFunc] 61 (0, 0))) _ _ _ by rw [← HW4.out]; exact b4.out) (by simp) ?_; intro w5 hb5 hu5; rw [← HW4.out] at hu5)
    | fail)
  try simp only [Act.put]
  rw [HN3.out]
  have B5 : Hid (Blk w5 (N + 3) 61 [tookV N (N + 2)]) := (show Blk _ _ _ _ from hb5)
  have C5 : Hid (Chg (fun j => j = N + 3) w4 w5) := (show Chg _ _ _ from Chg.of_but hu5 rfl)
  have A25 := hide (A2.out.chg C5.out (by omega))
  clear hb5 hu5
  go_wp2_with (first
    | (refine wpList_store_blk rfl 47 (.tmp 2) (.tmp 11) rfl (N + 1) _ (SC6 N (N + 2) (N + 3)) 47 rfl rfl A25.out rfl Try.size47 (SC6_one _ _ _) ?_; intro w6 hb6 hu6)
    | fail)
  have C6 : Hid (Chg (fun j => j = N + 1) w5 w6) := (show Chg _ _ _ from Chg.of_but hu6 rfl)
  have L6 : Hid (Below w.heap.size w w6) := (show Below _ _ _ from (L4.out.trans (C5.out.below L4.out.size (fun k hk e => by have := HN.out; omega))).trans (C6.out.below (by have := L4.out.size; have := C5.out.size; omega) (fun k hk e => by have := HN.out; omega)))
  refine bodyPost_ret (ret_src rfl _ _ (N + 1) (SC6 N (N + 2) (N + 3)) rfl rfl hb6) rfl ⟨N, N + 2, N + 3, rfl, ⟨L6.out, ⟨by rw [HN.out]; omega, by rw [HN.out]; omega, by rw [HN.out]; omega⟩, ⟨.slice a n cap, l, ?_, HR.out, hl, fun z e => Option.some.inj e⟩, ?_, ?_⟩, L6.out⟩
  · exact (A1.out.chg C5.out (by omega)).chg C6.out (by omega)
  · exact (A3.out.chg C5.out (by omega)).chg C6.out (by omega)
  · exact B5.out.chg C6.out (by omega)
#print axioms sourceOf_any
end Go.Proofs.Ytmicmbjbclkbjaa

/-
  Read: what the call does.
-/
namespace Go.Proofs.Ytmicmbjbclkbjaa
open Go.RowKit
theorem results_re {fn : Func} {p u : Tmp} (h : fn.results = #[.cell p 27, .tmp u]) (tmps : Array Value) (w : World) (g : Nat) (x : Rc) (n : Int) (hp : tmps.getD p undef = .pointer (some ⟨g, 0, none⟩)) (hn : tmps.getD u undef = .int .i64 n) (hB : Blk w g 27 (RC x)) :
    (results fn tmps).run Try.prog w = .ok (.tuple #[.agg (RC x).toArray, .int .i64 n]) w := by
  rw [results_cell_tmp h, hp, hn]
  have := run_loadVar_mid (P := Try.prog) w g 0 27 (RC x) _ hB.range0 Try.underlying27 rfl Try.size27
  simp [asAddr, this]
/-- What Read tells of bytes: their record, or the error. -/
def RdPost (l : List UInt8) (e : Ending) (w' : World) : Prop := ∃ (r : Rc) (x : Int), e = .returned (.tuple #[.agg (RC r).toArray, .int .i64 x]) ∧ ROk w' r ∧ ((x = 0 ∧ soundP r = true ∧ eD (pdR r) = l ∧ l.length ≤ 8192) ∨ (x = 4 ∧ r = zr ∧ ∀ r2, soundP r2 = true → eD (pdR r2) = l → 8192 < l.length))
theorem zr_ok (w : World) : ROk w zr := ⟨RdX.nil w, RdG_nil w⟩
theorem sound_pd {r r2 : Rc} (h : pdR r = pdR r2) (h1 : 0 ≤ r.ses) (h2 : 0 ≤ r.snap) (h3 : soundP r2 = true) : soundP r = true := by
  obtain ⟨_, g1, g2⟩ := sound_ok h3
  unfold pdR at h
  rw [Pd.mk.injEq] at h
  obtain ⟨e1, e2, e3, e4, e5⟩ := h
  unfold soundP at h3 ⊢
  rw [show r.ses = r2.ses by omega, show r.snap = r2.snap by omega, e4, e5]
  exact h3
theorem read_all {l : List UInt8} {r2 : Rc} (h : soundP r2 = true) (he : eD (pdR r2) = l) : pD l = some (pdR r2, []) := by
  have := pD_eD (sound_ok h).1 []
  rwa [List.append_nil, he] at this
theorem build_zr : ∀ W : World, (Instr.build 27 #[]).run Try.prog W = .ok (.agg (RC zr).toArray) W := fun W => by kernel_rfl
theorem zeroSo (W : World) : (zeroValue 47).run Try.prog W = .ok (.agg #[.nilFunc, .nilFunc, .nilFunc, .nilFunc, .nilFunc]) W := by kernel_rfl
set_option maxHeartbeats 2000000 in
set_option maxRecDepth 100000 in
theorem jread16_any {w : World} {v : Value} {l : List UInt8} (hr : Rd w v l) (hl : l.length ≤ 140737488355328) : Calls Try.prog 8 #[v] w fun e w' => RdPost l e w' ∧ Below w.heap.size w w' := by
  obtain ⟨a, cap, rfl⟩ := hr.slice
  obtain ⟨N, HN⟩ : ∃ N, Hid (w.heap.size = N) := ⟨_, rfl⟩
  obtain ⟨n, Hn⟩ : ∃ z, Hid (l.length = z) := ⟨_, rfl⟩
  obtain ⟨w1, hw1⟩ : ∃ y, y = w.alloc (.cells (RC zr).toArray 27 (0, 0)) := ⟨_, rfl⟩
  obtain ⟨b1, l1⟩ := newB HN hw1
  have HW1 := hide hw1
  have R1 := hide (hr.kept l1.out)
  rw [Hn.out] at R1 hl ⊢
  have hz := zeroR
  have hb := build_zr
  have hzs := zeroSo
  have HNL : Hid (N < w1.heap.size) := (show _ < _ from b1.out.lt)
  clear hr hw1
  by_cases hn : 8192 < n
  · have q1 : decide ((8192 : Int) < (n : Int)) = true := by simp; omega
    have PZ : Hid (∀ W, RdPost l (.returned (.tuple #[.agg (RC zr).toArray, .int .i64 4])) W) := (show ∀ W, _ from fun W => ⟨zr, 4, rfl, zr_ok W, .inr ⟨rfl, rfl, fun r2 _ _ => by rw [Hn.out]; exact hn⟩⟩)
    go_enter Try.func8, Try.ntmps8
    go_upto_region 1 with fail
    change Code.wp _ _ _ _ (w.alloc (.cells (RC zr).toArray 27 (0, 0)))
    rw [← HW1.out, HN.out]
    go_wp2_with (first
      | (refine wpList_store_blk rfl 27 (.tmp 2) (.tmp 9) rfl N (RC zr) (RC zr) 27 rfl rfl b1.out rfl Try.size27 (RC_one zr) ?_; intro w8 hb8 hu8)
      | fail)
    refine bodyPost_ret (results_re rfl _ _ N zr 4 rfl rfl hb8) rfl ⟨PZ.out _, l1.out.trans (hu8.below (by rw [HN.out]; omega) (by have := l1.out.size; omega))⟩
  · have q1 : decide ((8192 : Int) < (n : Int)) = false := by simp; omega
    have CS := hide (sourceOf_any R1.out (by rw [Hn.out]; omega))
    go_enter Try.func8, Try.ntmps8
    go_upto_region 1 with fail
    change Code.wp _ _ _ _ (w.alloc (.cells (RC zr).toArray 27 (0, 0)))
    rw [← HW1.out, HN.out]
    go_wp2_with fail
    refine CS.out.mono ?_
    rintro e w2 ⟨Bb, Br, Bt, rfl, s2, hb2⟩
    have S2 := hide s2
    have L2 : Hid (Below w1.heap.size w1 w2) := (show Below _ _ _ from hb2)
    obtain ⟨G, HG⟩ : ∃ z, Hid (w2.heap.size = z) := ⟨_, rfl⟩
    obtain ⟨w3, hw3⟩ : ∃ y, y = w2.alloc (.cells (SC6 Bb Br Bt).toArray 47 (0, 0)) := ⟨_, rfl⟩
    obtain ⟨b3, l3⟩ := newB (A := SC6 Bb Br Bt) HG hw3
    have HW3 := hide hw3
    have S3 := hide (S2.out.kept l3.out)
    have CR := hide (srecord_any S3.out)
    have rk3 := b3.out.range0
    clear s2 hb2 CS hw3
    go_upto_region 4 with (first
      | (refine wpList_store_new rfl 47 _ _ rfl w2 _ (SC6 Bb Br Bt).toArray _ rfl rfl rfl Try.size47 rfl (all_one (SC6_one Bb Br Bt)) ?_; rw [← HW3.out, HG.out])
      | fail)
    try simp only [Act.put]
    go_wp2_with (first
      | (refine wpList_load_mid rfl 47 _ rfl G 0 rfl (SC6 Bb Br Bt) _ rk3 Try.underlying47 rfl Try.size47 ?_)
      | fail)
    refine CR.out.mono ?_
    rintro e w4 ⟨r, rfl, o4, s4, p4, ha4, hb4, c4⟩
    have O4 := hide o4
    have S4 := hide s4
    have P4 := hide p4
    have HA4 : Hid (0 ≤ r.ses ∧ 0 ≤ r.snap) := (show _ ∧ _ from ⟨ha4, hb4⟩)
    have L3 : Hid (Below w1.heap.size w1 w3) := (show Below _ _ _ from L2.out.trans (l3.out.mono L2.out.size))
    have L4 : Hid (Below w1.heap.size w1 w4) := (show Below _ _ _ from L3.out.trans (S3.out.below c4))
    have B34 : Hid (Blk w4 G 47 (SC6 Bb Br Bt)) := (show Blk _ _ _ _ from b3.out.chg c4 (S3.out.neT b3.out (by decide) (by decide)))
    obtain ⟨M, HM⟩ : ∃ z, Hid (w4.heap.size = z) := ⟨_, rfl⟩
    obtain ⟨w5, hw5⟩ : ∃ y, y = w4.alloc (.cells (RC r).toArray 27 (0, 0)) := ⟨_, rfl⟩
    obtain ⟨b5, l5⟩ := newB HM hw5
    have HW5 := hide hw5
    have S5 := hide (S4.out.kept l5.out)
    have RO5 : Hid (ROk w5 r) := (show ROk _ _ from (o4.kept l5.out).rd)
    have L5 : Hid (Below w1.heap.size w1 w5) := (show Below _ _ _ from L4.out.trans (l5.out.mono L4.out.size))
    have B35 := hide (B34.out.kept l5.out)
    have BN5 := hide (b1.out.kept L5.out)
    have CD := hide (sdone_any S5.out)
    have CI := hide (isSound_any RO5.out)
    obtain ⟨dn, Hdn⟩ : ∃ z, Hid (decide (aft pD (some l) = some []) = z) := ⟨_, rfl⟩
    rw [Hdn.out] at CD
    obtain ⟨sd, Hsd⟩ : ∃ z, Hid (soundP r = z) := ⟨_, rfl⟩
    rw [Hsd.out] at CI
    have rk5 := b5.out.range0
    have d4 := B35.out.cell (j := 4) rfl
    clear o4 s4 p4 ha4 hb4 c4 CR rk3 hw5
    go_upto_region 5 with (first
      | (refine wpList_store_new rfl 27 _ _ rfl w4 _ (RC r).toArray _ rfl rfl rfl Try.size27 rfl (all_one (RC_one r)) ?_; rw [← HW5.out, HM.out])
      | fail)
    try simp only [Act.put]
    go_wp2_with fail
    refine CD.out.mono ?_
    rintro e w_ ⟨rfl, hw_⟩
    subst w_
    clear CD d4
    have LB : Hid (∀ w6 w7, Below w5.heap.size w5 w6 → But N w6 w7 → Below w.heap.size w w7) := (show ∀ w6 w7, _ from fun w6 w7 h6 h7 => by
      have e1 : Below w.heap.size w w6 := l1.out.trans ((L5.out.trans (h6.mono L5.out.size)).mono l1.out.size)
      exact e1.trans (h7.below (by rw [HN.out]; omega) e1.size))
    cases dn with
    | false =>
      have PZ : Hid (∀ W, RdPost l (.returned (.tuple #[.agg (RC zr).toArray, .int .i64 4])) W) := (show ∀ W, _ from fun W => ⟨zr, 4, rfl, zr_ok W, .inr ⟨rfl, rfl, fun r2 h1 h2 => by
        have h3 := of_decide_eq_false Hdn.out
        exact absurd (aft_some (read_all h1 h2)) h3⟩⟩)
      clear CI
      go_wp2_with (first
        | (refine wpList_store_blk rfl 27 (.tmp 2) (.tmp 23) rfl N (RC zr) (RC zr) 27 rfl rfl BN5.out rfl Try.size27 (RC_one zr) ?_; intro w8 hb8 hu8)
        | fail)
      refine bodyPost_ret (results_re rfl _ _ N zr 4 rfl rfl hb8) rfl ⟨PZ.out _, LB.out w5 w8 (Below.refl _ _) hu8⟩
    | true =>
      have HE : Hid (∃ d, pD l = some (d, []) ∧ pdR r = d) := (show ∃ d, _ from by
        have h3 := of_decide_eq_true Hdn.out
        cases hp : pD l with
        | none => rw [aft_no hp] at h3; cases h3
        | some q =>
          obtain ⟨d, z⟩ := q
          rw [aft_some hp] at h3
          have hz := Option.some.inj h3
          subst hz
          exact ⟨d, rfl, P4.out d [] (by simp [hp])⟩)
      go_wp2_with (first
        | (refine wpList_load_w9 rfl 27 _ rfl M 0 rfl (RC r) _ rk5 Try.underlying27 rfl Try.size27 ?_)
        | fail)
      refine CI.out.mono ?_
      rintro e w6 ⟨rfl, hb6⟩
      have L6 : Hid (Below w5.heap.size w5 w6) := (show Below _ _ _ from hb6)
      have BN6 := hide (BN5.out.kept L6.out)
      have rk6 := (b5.out.kept L6.out).range0
      clear hb6 CI rk5
      cases sd with
      | false =>
        have PZ : Hid (∀ W, RdPost l (.returned (.tuple #[.agg (RC zr).toArray, .int .i64 4])) W) := (show ∀ W, _ from fun W => ⟨zr, 4, rfl, zr_ok W, .inr ⟨rfl, rfl, fun r2 h1 h2 => by
          obtain ⟨d, h3, h4⟩ := HE.out
          rw [read_all h1 h2] at h3
          have h5 : pdR r2 = d := (Prod.mk.inj (Option.some.inj h3)).1
          have h6 := sound_pd (h4.trans h5.symm) HA4.out.1 HA4.out.2 h1
          rw [Hsd.out] at h6
          cases h6⟩⟩)
        go_wp2_with (first
          | (refine wpList_store_blk rfl 27 (.tmp 2) (.tmp 23) rfl N (RC zr) (RC zr) 27 rfl rfl BN6.out rfl Try.size27 (RC_one zr) ?_; intro w8 hb8 hu8)
          | fail)
        refine bodyPost_ret (results_re rfl _ _ N zr 4 rfl rfl hb8) rfl ⟨PZ.out _, LB.out w6 w8 L6.out hu8⟩
      | true =>
        have HF : Hid (soundP r = true ∧ eD (pdR r) = l ∧ l.length ≤ 8192) := (show _ ∧ _ ∧ _ from by
          obtain ⟨d, h3, h4⟩ := HE.out
          have h5 := (pD_ok h3).1
          rw [List.append_nil] at h5
          exact ⟨Hsd.out, by rw [h4]; exact h5.symm, by rw [Hn.out]; omega⟩)
        go_wp2_with (first
          | (refine wpList_load_mid rfl 27 _ rfl M 0 rfl (RC r) _ rk6 Try.underlying27 rfl Try.size27 ?_)
          | (refine wpList_store_blk rfl 27 (.tmp 2) (.tmp 24) rfl N (RC zr) (RC r) 27 rfl rfl BN6.out rfl Try.size27 (RC_one r) ?_; intro w8 hb8 hu8)
          | fail)
        have C8 : Chg (fun j => j = N) w6 w8 := Chg.of_but hu8 rfl
        refine bodyPost_ret (results_re rfl _ _ N r 0 rfl rfl hb8) rfl ⟨⟨r, 0, rfl, ?_, .inl ⟨rfl, HF.out⟩⟩, LB.out w6 w8 L6.out hu8⟩
        exact (((O4.out.kept l5.out).kept L6.out).chg BN6.out C8).rd
#print axioms jread16_any
end Go.Proofs.Ytmicmbjbclkbjaa
