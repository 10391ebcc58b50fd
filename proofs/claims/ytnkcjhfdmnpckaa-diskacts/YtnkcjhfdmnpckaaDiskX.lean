/-
  (*disk.Disk).Crash, fails: what the calls do.
-/
import Derived.Test.YtnkcjhfdmnpckaaDiskT
namespace Go.Proofs.Ytnkcjhfdmnpckaa
open Go.RowKit
open Pd (spl spl_length clip clip_le)
theorem Chg.cellD (w : World) (D j : Nat) (v : Value) : Chg (fun c => c = D) w (w.setCell ⟨D, j, none⟩ v) := Chg.setCell (F := fun c => c = D) w rfl j v
def delS (f : Int → Option (List UInt8)) : List Nat → Int → Option (List UInt8)
  | [] => f
  | k :: r => delS (del f k) r
theorem delS_append (k : Nat) : ∀ (l : List Nat) (f : Int → Option (List UInt8)), delS f (l ++ [k]) = del (delS f l) k
  | [], _ => rfl
  | _ :: r, _ => delS_append k r _
theorem delS_take (f : Int → Option (List UInt8)) (l : List Nat) (i : Nat) (hi : i < l.length) : delS f (l.take (i + 1)) = del (delS f (l.take i)) l[i] := by
  rw [List.take_add_one, List.getElem?_eq_getElem hi, Option.toList_some, delS_append]
theorem delS_some {j : Int} : ∀ {l : List Nat} {f : Int → Option (List UInt8)}, (delS f l j).isSome = true → (f j).isSome = true ∧ ∀ k ∈ l, j ≠ (k : Int)
  | [], _, h => ⟨h, fun k hk => by cases hk⟩
  | k :: r, f, h => by
    obtain ⟨h1, h2⟩ := delS_some (l := r) (f := del f k) h
    unfold del at h1
    by_cases e : j = (k : Int)
    · rw [if_pos e] at h1; cases h1
    · rw [if_neg e] at h1
      exact ⟨h1, fun x hx => (List.mem_cons.1 hx).elim (fun e' => e' ▸ e) (h2 x)⟩
theorem delS_none {n N : Nat} {s : St} (h : Wf n N s) : delS s.f s.order = fun _ => none := by
  funext j
  cases hj : delS s.f s.order j with
  | none => rfl
  | some x =>
    obtain ⟨h1, h2⟩ := delS_some (j := j) (l := s.order) (f := s.f) (by rw [hj]; rfl)
    obtain ⟨k, hk, e⟩ := h.keys j h1
    exact absurd e (h2 k hk)
/-- What a loss of power makes of a disk. -/
def crashS (s : St) (keep : List Int) (t : Nat) : St := { on := false, safe := (tearS (settleS s keep) t).safe, f := fun _ => none, order := [], ops := 0, keep := [], torn := 0 }
theorem tearS_same (s : St) (t : Nat) : (tearS s t).f = s.f ∧ (tearS s t).order = s.order ∧ (tearS s t).on = s.on ∧ (tearS s t).ops = s.ops ∧ (tearS s t).keep = s.keep ∧ (tearS s t).torn = s.torn := by
  unfold tearS; split <;> exact ⟨rfl, rfl, rfl, rfl, rfl, rfl⟩
theorem Wf.tear {n N : Nat} {s : St} (h : Wf n N s) (t : Nat) : Wf n N (tearS s t) := by
  obtain ⟨a, b, _⟩ := tearS_same s t
  exact ⟨by rw [b]; exact h.nodup, by rw [b]; exact h.low, by rw [a, b]; exact h.keys, by rw [a, b]; exact h.cnt⟩
set_option maxRecDepth 100000 in
theorem crash_off {w : World} {D S M n cap : Nat} {vo vk : Value} {ops torn : Int} (hB : Blk w D 56 (DB false S n cap M vo ops vk torn)) (hn : 0 < n) (v : Value) (t : Int) :
    Calls Try.prog 21 #[.pointer (some ⟨D, 0, none⟩), v, .int .i64 t] w fun e w' => e = .returned (.bool false) ∧ w' = w := by
  have HB : Hid (Blk w D 56 (DB false S n cap M vo ops vk torn)) := hB
  clear hB
  go_enter Try.func21, Try.ntmps21
  go_wp2_with fail
  refine (on_any HB.out hn).mono ?_
  rintro e w1 ⟨rfl, hw⟩; subst hw
  go_wp2
  go_ret
  exact ⟨rfl, rfl⟩
set_option maxHeartbeats 2000000 in
set_option maxRecDepth 100000 in
theorem crash_on {w : World} {D S M n cap N : Nat} {vo vk : Value} {s : St} (h : At w D S M n cap N vo vk s) (hW : Wf n N s) (hon : s.on = true) (v : Value) (l : List Int) (t : Int) (hr : RdN w v l) (hl : ∀ k ∈ l, (Lit.int .i64 k).wf = true)
    (hvb : ∀ c, InB v c → c ≠ S ∧ c ≠ M) (hvk : ∀ c, InB vk c → c ≠ S ∧ c ≠ M) :
    Calls Try.prog 21 #[.pointer (some ⟨D, 0, none⟩), v, .int .i64 t] w fun e w' => e = .returned (.bool true) ∧ At w' D S M n cap 0 (.slice none 0 0) (.slice none 0 0) (crashS s l (clip t)) ∧ Chg (fun c => c = D ∨ c = S ∨ c = M) w w' := by
  have HA : Hid (At w D S M n cap N vo vk s) := h
  have HW : Hid (Wf n N s) := hW
  have HR : Hid (RdN w v l) := hr
  have HL : Hid (∀ k ∈ l, (Lit.int .i64 k).wf = true) := hl
  have HVB : Hid (∀ c, InB v c → c ≠ S ∧ c ≠ M) := hvb
  have HVK : Hid (∀ c, InB vk c → c ≠ S ∧ c ≠ M) := hvk
  have hd := h.d
  rw [hon] at hd
  have HD : Hid (Blk w D 56 (DB true S n cap M vo s.ops vk s.torn)) := hd
  have hn := h.max
  have hp := h.pos
  clear h hW hl hvb hvk hr hd
  obtain ⟨T, HT⟩ : ∃ T, Hid (clip t = T) := ⟨_, rfl⟩
  rw [HT.out]
  go_enter Try.func21, Try.ntmps21
  go_wp2_with fail
  refine (on_any HD.out hp).mono ?_
  rintro e w1 ⟨rfl, hw⟩; subst hw
  go_wp2_with fail
  refine (settle_any HA.out HW.out v l HR.out HL.out HVB.out HVK.out (fun c hc => ⟨(HA.out.VD hc).2.1, (HA.out.VD hc).2.2⟩)).mono ?_
  rintro e w2 ⟨rfl, N2, a2, f2, u2⟩
  have A2 : Hid _ := a2
  have W2 : Hid _ := f2
  have U2 : Hid _ := u2
  clear a2 f2 u2
  go_wp2_with fail
  refine (tear_any A2.out W2.out t (fun c hc => (HVK.out c hc).1)).mono ?_
  rintro e w3 ⟨rfl, a3, u3⟩
  rw [HT.out] at a3
  have W3 : Hid (Wf n N2 (tearS (settleS s l) T)) := W2.out.tear T
  have HCR : Hid (crashS s l T = { on := false, safe := (tearS (settleS s l) T).safe, f := fun _ => none, order := [], ops := 0, keep := [], torn := 0 }) := (show _ = _ from rfl)
  obtain ⟨r, HRR⟩ : ∃ r, Hid (tearS (settleS s l) T = r) := ⟨_, rfl⟩
  rw [HRR.out] at a3 W3 HCR
  have A3 : Hid (At w3 D S M n cap N2 vo vk r) := a3
  have U3 : Hid (Chg (fun c => c = D ∨ c = S ∨ c = M) w1 w3) := (U2.out.mono (fun _ _ e => e.elim (fun e => .inr (.inl e)) (fun e => .inr (.inr e)))).trans (u3.mono (fun _ _ e => .inr (.inl e)))
  clear a3 u3 A2 W2 U2
  obtain ⟨a, cp, e, h1, h2, h3, h4⟩ := A3.out.od.rd
  have c3 := A3.out.d.cell (j := 3) rfl
  have c3' : w3.cell? ⟨D, 3, none⟩ = some (.slice a (Nats r.order).length cp) := by rw [← e]; exact c3
  rw [Nats_length] at c3' h1
  clear h3 h4 c3
  obtain ⟨L, HLL⟩ : ∃ L, Hid (r.order.length = L) := ⟨_, rfl⟩
  rw [HLL.out] at c3' h1
  have hlm : L ≤ 9223372036854775807 := by unfold maxLen at h2; omega
  go_wp2_with fail
  go_loopg [23] L (fun g x wr => ∃ i : Nat, g + i = L ∧ x = .int .i64 (i : Int) ∧ ∃ Nr, Hid (At wr D S M n cap Nr vo vk { r with f := delS r.f (r.order.take i) }) ∧ Hid (Wf n Nr { r with f := delS r.f (r.order.take i) }) ∧ Hid (Chg (fun c => c = D ∨ c = S ∨ c = M) w1 wr))
  case atStart => exact ⟨0, by omega, rfl, N2, A3, W3, U3⟩
  case round =>
    obtain ⟨i, hgi, rfl, Nr, AR, WR, UR⟩ := hrel
    by_cases hlt : i < L
    · have q1 : (i : Int) < (L : Int) := by omega
      have hlt' : i < r.order.length := by rw [HLL.out]; exact hlt
      obtain ⟨q, HQ⟩ : ∃ q, Hid (r.order[i] = q) := ⟨r.order[i], (show r.order[i] = r.order[i] from rfl)⟩
      have hqn : q < n := WR.out.low q (by rw [← HQ.out]; exact List.getElem_mem hlt')
      obtain ⟨a', cp', e', _, _, _, h4⟩ := AR.out.od.rd
      rw [e] at e'
      simp only [Value.slice.injEq] at e'
      obtain ⟨rfl, -, rfl⟩ := e'
      obtain ⟨b, off, rfl, hlb, hc⟩ := h4 (by rw [Nats_length]; exact Nat.lt_of_le_of_lt (Nat.zero_le _) hlt')
      have cq := hc i (by rw [Nats_length]; exact hlt')
      rw [show (Nats r.order)[i]'(by rw [Nats_length]; exact hlt') = (q : Int) by simp only [Nats, List.getElem_map]; rw [HQ.out]] at cq
      clear hc h4 c3'
      have HDS : Hid (delS r.f (r.order.take (i + 1)) = del (delS r.f (r.order.take i)) q) := (show _ = _ by rw [delS_take _ _ _ hlt', HQ.out])
      obtain ⟨fi, HFI⟩ : ∃ f, Hid (delS r.f (r.order.take i) = f) := ⟨_, rfl⟩
      rw [HFI.out] at AR WR HDS
      have c2 := AR.out.d.cell (j := 2) rfl
      go_wp2_with (first
        | (at_delete; refine wpList_mapdel rfl _ _ rfl M Nr fi rfl AR.out.mp q (i64_of_nat (by omega)) rfl ?_; intro w6 m6 t6; have M6 : Hid _ := m6; have T6 : Hid _ := t6; clear m6 t6)
        | fail)
      go_roundg (gk - 1)
      case measure => omega
      case rel =>
        have hT : Chg (fun c => c = M) wr w6 := Chg.turned T6.out rfl
        have hA := AR.out
        refine ⟨i + 1, by omega, by go_num, (if (fi q).isSome then Nr - 1 else Nr), ?_, ?_, UR.out.trans (hT.mono (fun _ _ e => .inr (.inr e)))⟩
        · show At _ _ _ _ _ _ _ _ _ _
          rw [HDS.out]
          exact ⟨hA.d.chg hT hA.DM, hA.sf.chg hT hA.SM, M6.out, hA.od.chg hT (fun c hc e => (hA.VD hc).2.2 e), hA.kp.chg hT (fun c hc e => (HVK.out c hc).2 e), hA.kw, hA.pos, hA.max⟩
        · show Wf _ _ _
          rw [HDS.out]
          exact WR.out.del q r.safe
    · obtain rfl : i = L := by omega
      have AE : Hid (At wr D S M n cap 0 vo vk { r with f := fun _ => none }) := (show At _ _ _ _ _ _ _ _ _ _ by
        have h1 := AR.out
        have h2 := WR.out
        have h3 : delS r.f (r.order.take i) = fun _ => none := by rw [List.take_of_length_le (by rw [HLL.out]; exact Nat.le_refl _)]; exact delS_none W3.out
        rw [h3] at h1 h2
        have h4 : Nr = 0 := by rw [h2.cnt]; simp
        rw [h4] at h1
        exact h1)
      have z0 := AE.out.d.frozen 0
      have z3 := AE.out.d.frozen 3
      have z4 := AE.out.d.frozen 4
      have z5 := AE.out.d.frozen 5
      have z6 := AE.out.d.frozen 6
      have c0 := AE.out.d.cell (j := 0) rfl
      have c3 := AE.out.d.cell (j := 3) rfl
      have c4 := AE.out.d.cell (j := 4) rfl
      have c5 := AE.out.d.cell (j := 5) rfl
      have c6 := AE.out.d.cell (j := 6) rfl
      clear c3' AR WR A3 W3
      go_wp2_with fail
      go_ret
      obtain ⟨wz, hwz⟩ : ∃ x, x = (((((wr.setCell ⟨D, 0, none⟩ (.bool false)).setCell ⟨D, 3, none⟩ (.slice none 0 0)).setCell ⟨D, 4, none⟩ (.int .i64 0)).setCell ⟨D, 5, none⟩ (.slice none 0 0)).setCell ⟨D, 6, none⟩ (.int .i64 0)) := ⟨_, rfl⟩
      rw [← hwz]
      have hU : Chg (fun c => c = D) wr wz := by
        rw [hwz]
        exact ((((Chg.cellD _ _ _ _).trans (Chg.cellD _ _ _ _)).trans (Chg.cellD _ _ _ _)).trans (Chg.cellD _ _ _ _)).trans (Chg.cellD _ _ _ _)
      have hA := AE.out
      have hB := ((((hA.d.set 0 (.bool false)).set 3 (.slice none 0 0)).set 4 (.int .i64 0)).set 5 (.slice none 0 0)).set 6 (.int .i64 0)
      rw [← hwz] at hB
      refine ⟨rfl, ?_, UR.out.trans (hU.mono (fun _ _ e => .inl e))⟩
      rw [HCR.out]
      exact ⟨hB, hA.sf.chg hU (fun e => hA.DS e.symm), hA.mp.chg hU (fun e => hA.DM e.symm), OwnN_nil _, RdN_nil _, fun k hk => (by cases hk), hA.pos, hA.max⟩
/-- What no look goes into. -/
structure Bx (p : Prop) : Prop where
  out : p
theorem hs_skip {P : Program} {ops : Array Oper} {w : World} {Q : Act → Prop} {a : Act} {o : Oper} {rest : List Oper} (hw : Region.wanted o (yielded ops a.tmps) = false) (h : Bx (wpStill P ops w Q rest (a.put o.dst undef))) : Bx (wpStill P ops w Q (o :: rest) a) :=
  ⟨show wpStill P ops w Q (o :: rest) a by
    refine wpStill_step fun K hK => ?_
    rw [if_neg (by rw [hw]; exact Bool.false_ne_true)]
    exact hK _ h.out⟩
theorem hs_val {P : Program} {ops : Array Oper} {w : World} {Q : Act → Prop} {a : Act} {o : Oper} {rest : List Oper} (v : Value) (hw : Region.wanted o (yielded ops a.tmps) = true) (hr : (execOp a.eval o).run P w = .ok (.value v) w) (h : Bx (wpStill P ops w Q rest (a.put o.dst v))) : Bx (wpStill P ops w Q (o :: rest) a) :=
  ⟨show wpStill P ops w Q (o :: rest) a by
    refine wpStill_step fun K hK => ?_
    rw [if_pos hw]
    unfold Oper.still
    rw [hr, Oper.stillUpon_value]
    exact hK _ h.out⟩
theorem hs_nil {P : Program} {ops : Array Oper} {w : World} {Q : Act → Prop} {a : Act} (h : Bx (Q a)) : Bx (wpStill P ops w Q [] a) := ⟨wpStill_nil h.out⟩
theorem wl_val {P : Program} {ops : Array Oper} {w : World} {Q : Exit → Act → World → Prop} {a : Act} {o : Oper} {rest : List Oper} (v : Value) (hw : Region.wanted o (yielded ops a.tmps) = true) (hr : (execOp a.eval o).run P w = .ok (.value v) w) (h : Bx (wpList P ops Q rest (a.put o.dst v) w)) : Bx (wpList P ops Q (o :: rest) a w) :=
  ⟨wpList_step fun K hK => by
    rw [if_pos hw]
    unfold Oper.wp
    rw [hr, Oper.upon_value]
    exact hK _ _ h.out⟩
theorem wl_call {P : Program} {ops : Array Oper} {w : World} {Q : Exit → Act → World → Prop} {a : Act} {o : Oper} {rest : List Oper} (f : FuncId) (args : Array Value) (hw : Region.wanted o (yielded ops a.tmps) = true) (hr : (execOp a.eval o).run P w = .ok (.enter f args) w)
    (hC : Calls P f args w fun e w' => ∃ v, e = .returned v ∧ Bx (wpList P ops Q rest (a.put o.dst v) w')) : Bx (wpList P ops Q (o :: rest) a w) :=
  ⟨wpList_step fun K hK => by
    rw [if_pos hw]
    unfold Oper.wp
    rw [hr]
    refine hC.mono ?_
    rintro e w' ⟨v, rfl, hv⟩
    exact hK _ _ hv.out⟩
theorem wl_nil {P : Program} {ops : Array Oper} {w : World} {Q : Exit → Act → World → Prop} {a : Act} (h : Q .normal a w) : Bx (wpList P ops Q [] a w) := ⟨wpList_nil h⟩
/-- An act that would do something: what is left. -/
def strikeS (s : St) : St := if s.ops = 1 then crashS { s with ops := 0 } s.keep (clip s.torn) else { s with ops := s.ops - 1 }
set_option maxHeartbeats 2000000 in
set_option maxRecDepth 100000 in
theorem fails_none {w : World} {D S M n cap : Nat} {on : Bool} {vo vk : Value} {torn : Int} (hB : Blk w D 56 (DB on S n cap M vo 0 vk torn)) :
    Calls Try.prog 34 #[.pointer (some ⟨D, 0, none⟩)] w fun e w' => e = .returned (.bool false) ∧ w' = w := by
  have c4 := hB.cell (j := 4) rfl
  clear hB
  go_enter Try.func34, Try.ntmps34
  go_wp2
  go_ret
  exact ⟨rfl, rfl⟩
theorem Wf.ops {n N : Nat} {s : St} (h : Wf n N s) (k : Nat) : Wf n N { s with ops := k } := ⟨h.nodup, h.low, h.keys, h.cnt⟩
set_option maxHeartbeats 2000000 in
set_option maxRecDepth 100000 in
theorem fails_more {w : World} {D S M n cap N : Nat} {vo vk : Value} {s : St} (h : At w D S M n cap N vo vk s) (k : Nat) (hk : s.ops = k + 2) (hk2 : k + 2 ≤ 9223372036854775807) (hvk : ∀ c, InB vk c → c ≠ D) :
    Calls Try.prog 34 #[.pointer (some ⟨D, 0, none⟩)] w fun e w' => e = .returned (.bool false) ∧ At w' D S M n cap N vo vk { s with ops := k + 1 } ∧ Chg (fun c => c = D) w w' := by
  have HA : Hid (At w D S M n cap N vo vk s) := h
  have HVK : Hid (∀ c, InB vk c → c ≠ D) := hvk
  have c4 := h.d.cell (j := 4) rfl
  have z4 := h.d.frozen 4
  have c4' : w.cell? ⟨D, 4, none⟩ = some (.int .i64 ((k : Int) + 2)) := by rw [c4, hk]; rfl
  clear h c4 hvk
  have q1 : (((k : Int) + 2) == 0) = false := by simp; omega
  go_enter Try.func34, Try.ntmps34
  go_upto_region 4 with fail
  have e1 : (k : Int) + 2 - 1 = (k : Int) + 1 := by omega
  rw [e1]
  obtain ⟨w1, hw1⟩ : ∃ x, x = w.setCell ⟨D, 4, none⟩ (.int .i64 ((k : Int) + 1)) := ⟨_, rfl⟩
  rw [← hw1]
  have hU : Chg (fun c => c = D) w w1 := by rw [hw1]; exact Chg.cellD _ _ _ _
  have A1 : Hid (At w1 D S M n cap N vo vk { s with ops := k + 1 }) := (show At _ _ _ _ _ _ _ _ _ _ by
    have hA := HA.out
    have hB := hA.d.set 4 (.int .i64 ((k : Int) + 1))
    rw [← hw1] at hB
    exact ⟨hB, hA.sf.chg hU (fun e => hA.DS e.symm), hA.mp.chg hU (fun e => hA.DM e.symm), hA.od.chg hU (fun c hc e => (hA.VD hc).1 e), hA.kp.chg hU (fun c hc e => HVK.out c hc e), hA.kw, hA.pos, hA.max⟩)
  have U1 : Hid (Chg (fun c => c = D) w w1) := hU
  clear hw1 c4' z4 hU
  have q2 : (((k : Int) + 1) == 0) = false := by simp; omega
  have c4 := A1.out.d.cell (j := 4) rfl
  go_quiet (fail)
  go_wp2
  go_ret
  exact ⟨rfl, A1.out.kept (below_drewN _ _ _), U1.out.trans (Chg.of_below (below_drewN _ _ _))⟩
set_option maxHeartbeats 2000000 in
set_option maxRecDepth 100000 in
theorem fails_now {w : World} {D S M n cap N : Nat} {vo vk : Value} {s : St} (h : At w D S M n cap N vo vk s) (hW : Wf n N s) (hon : s.on = true) (hk : s.ops = 1) (hvk : ∀ c, InB vk c → c ≠ D ∧ c ≠ S ∧ c ≠ M) :
    Calls Try.prog 34 #[.pointer (some ⟨D, 0, none⟩)] w fun e w' => e = .returned (.bool true) ∧ At w' D S M n cap 0 (.slice none 0 0) (.slice none 0 0) (crashS { s with ops := 0 } s.keep (clip s.torn)) ∧ Chg (fun c => c = D ∨ c = S ∨ c = M) w w' := by
  have HA : Hid (At w D S M n cap N vo vk s) := h
  have HVK : Hid (∀ c, InB vk c → c ≠ D ∧ c ≠ S ∧ c ≠ M) := hvk
  have HW : Hid (Wf n N s) := hW
  have c4 := h.d.cell (j := 4) rfl
  have z4 := h.d.frozen 4
  have c4' : w.cell? ⟨D, 4, none⟩ = some (.int .i64 1) := by rw [c4, hk]; rfl
  clear h c4 hvk hW
  go_enter Try.func34, Try.ntmps34
  go_upto_region 4 with fail
  obtain ⟨w1, hw1⟩ : ∃ x, x = w.setCell ⟨D, 4, none⟩ (.int .i64 0) := ⟨_, rfl⟩
  rw [← hw1]
  have hU : Chg (fun c => c = D) w w1 := by rw [hw1]; exact Chg.cellD _ _ _ _
  have A1 : Hid (At w1 D S M n cap N vo vk { s with ops := 0 }) := (show At _ _ _ _ _ _ _ _ _ _ by
    have hA := HA.out
    have hB := hA.d.set 4 (.int .i64 0)
    rw [← hw1] at hB
    exact ⟨hB, hA.sf.chg hU (fun e => hA.DS e.symm), hA.mp.chg hU (fun e => hA.DM e.symm), hA.od.chg hU (fun c hc e => (hA.VD hc).1 e), hA.kp.chg hU (fun c hc e => (HVK.out c hc).1 e), hA.kw, hA.pos, hA.max⟩)
  have U1 : Hid (Chg (fun c => c = D ∨ c = S ∨ c = M) w w1) := hU.mono (fun _ _ e => .inl e)
  clear hw1 c4' z4 hU
  have c4 : w1.drew.cell? ⟨D, 4, none⟩ = some (.int .i64 0) := A1.out.drew.d.cell (j := 4) rfl
  have c5 : w1.drew.cell? ⟨D, 5, none⟩ = some vk := A1.out.drew.d.cell (j := 5) rfl
  have c6 : w1.drew.cell? ⟨D, 6, none⟩ = some (.int .i64 s.torn) := A1.out.drew.d.cell (j := 6) rfl
  refine wp_region_still_tail 18 Try.mixed (by kernel_rfl) ?_
  simp only [List.take_succ_cons, List.take_zero, List.drop_succ_cons, List.drop_zero]
  iterate 6 still_step
  refine Bx.out (hs_val (.bool true) rfl rfl ?_)
  simp only [Act.put, List.setIfInBounds_toArray, List.set_cons_succ, List.set_cons_zero]
  refine hs_val (.pointer (some ⟨D, 0, none⟩)) (by kernel_rfl) rfl ?_
  simp only [Act.put, List.setIfInBounds_toArray, List.set_cons_succ, List.set_cons_zero]
  refine hs_val (.pointer (some ⟨D, 0, none⟩)) (by kernel_rfl) rfl ?_
  simp only [Act.put, List.setIfInBounds_toArray, List.set_cons_succ, List.set_cons_zero]
  refine hs_val (.pointer (some ⟨D, 0, none⟩)) (by kernel_rfl) (by simp only [execOp]; go_simp) ?_
  simp only [Act.put, List.setIfInBounds_toArray, List.set_cons_succ, List.set_cons_zero]
  refine hs_val (.pointer (some ⟨D, 4, none⟩)) (by kernel_rfl) (by simp only [execOp]; go_simp) ?_
  simp only [Act.put, List.setIfInBounds_toArray, List.set_cons_succ, List.set_cons_zero]
  refine hs_val (.pointer (some ⟨D, 5, none⟩)) (by kernel_rfl) (by simp only [execOp]; go_simp) ?_
  simp only [Act.put, List.setIfInBounds_toArray, List.set_cons_succ, List.set_cons_zero]
  refine hs_val vk (by kernel_rfl) (by simp only [execOp]; go_simp) ?_
  simp only [Act.put, List.setIfInBounds_toArray, List.set_cons_succ, List.set_cons_zero]
  refine hs_val (.pointer (some ⟨D, 0, none⟩)) (by kernel_rfl) rfl ?_
  simp only [Act.put, List.setIfInBounds_toArray, List.set_cons_succ, List.set_cons_zero]
  refine hs_val (.pointer (some ⟨D, 0, none⟩)) (by kernel_rfl) (by simp only [execOp]; go_simp) ?_
  simp only [Act.put, List.setIfInBounds_toArray, List.set_cons_succ, List.set_cons_zero]
  refine hs_val (.pointer (some ⟨D, 4, none⟩)) (by kernel_rfl) (by simp only [execOp]; go_simp) ?_
  simp only [Act.put, List.setIfInBounds_toArray, List.set_cons_succ, List.set_cons_zero]
  refine hs_val (.pointer (some ⟨D, 6, none⟩)) (by kernel_rfl) (by simp only [execOp]; go_simp) ?_
  simp only [Act.put, List.setIfInBounds_toArray, List.set_cons_succ, List.set_cons_zero]
  refine hs_val (.int .i64 s.torn) (by kernel_rfl) (by simp only [execOp]; go_simp) ?_
  simp only [Act.put, List.setIfInBounds_toArray, List.set_cons_succ, List.set_cons_zero]
  refine hs_nil ?_
  refine wl_call 21 #[.pointer (some ⟨D, 0, none⟩), vk, .int .i64 s.torn] (by kernel_rfl) ((run_enter 21 _ _ rfl (by kernel_rfl)).trans (by kernel_rfl)) ?_
  refine (crash_on (s := { s with ops := 0 }) A1.out.drew (HW.out.ops 0) hon vk s.keep s.torn A1.out.drew.kp A1.out.kw (fun c hc => (HVK.out c hc).2) (fun c hc => (HVK.out c hc).2)).mono ?_
  rintro e w2 ⟨rfl, a2, u2⟩
  refine ⟨_, rfl, ?_⟩
  refine wl_val (.bool true) (by kernel_rfl) rfl ?_
  simp only [Act.put, List.setIfInBounds_toArray, List.set_cons_succ, List.set_cons_zero]
  refine wl_val (.bool true) (by kernel_rfl) rfl ?_
  simp only [Act.put, List.setIfInBounds_toArray, List.set_cons_succ, List.set_cons_zero]
  refine wl_nil ?_
  have A2 : Hid _ := a2
  have U2 : Hid _ := u2
  clear a2 u2
  go_wp2
  go_ret
  exact ⟨rfl, A2.out, (U1.out.trans (Chg.drew _ _)).trans U2.out⟩
end Go.Proofs.Ytnkcjhfdmnpckaa
