/-
  The store and the reference's store, side by side, act by act.
-/
import Derived.Test.YtgaoionnfkbhaaaRfI
namespace Go.Proofs.Ytgaoionnfkbhaaa
open Go.RowKit
theorem RS.lt {w : World} {R : Nat} {vr : Value} {rs : List RK} {s : SP} (h : RS w R vr rs s) {b : Nat} (hb : RB R vr rs b) : b < w.heap.size := by
  rcases hb with rfl | hb | ⟨x, hx, hb⟩
  · exact h.d.lt
  · exact (h.own.block hb).2.1
  · obtain ⟨off, n, cap, e', hp⟩ := hb
    have hr := h.ch x hx
    rw [e'] at hr
    obtain ⟨b', off', e2, h2, -⟩ := hr.nth hp
    cases e2
    exact h2
/-- The store reads s, the reference's t; blocks of O are none of theirs. -/
def LR2 (w wr : World) (D R i : Nat) (s t : SP) (O : Nat → Prop) : Prop :=
  ∃ vr rs, LS w wr D i s (fun b => O b ∨ RB R vr rs b) ∧ RS wr R vr rs t ∧ (∀ b, RB R vr rs b → w.heap.size ≤ b) ∧ (∀ b, O b → ¬ RB R vr rs b) ∧ rs.length ≤ 60 * i ∧ t.last ≤ i
theorem LR2.ls {w wr : World} {D R i : Nat} {s t : SP} {O : Nat → Prop} (h : LR2 w wr D R i s t O) : LS w wr D i s O := by
  obtain ⟨vr, rs, h1, -⟩ := h
  exact h1.less (fun b hb => .inl hb)
theorem LR2.lo {w wr : World} {D R i : Nat} {s t : SP} {O : Nat → Prop} (h : LR2 w wr D R i s t O) : Below w.heap.size w wr := h.ls.lo
theorem LR2.bnd {w wr : World} {D R i : Nat} {s t : SP} {O : Nat → Prop} (h : LR2 w wr D R i s t O) : 0 ≤ t.floor ∧ t.floor ≤ t.last ∧ t.last ≤ i := by
  obtain ⟨vr, rs, h1, h2, h3, h4, h5, h6⟩ := h
  exact ⟨h2.inv.fl, h2.inv.fle, h6⟩
theorem LR2.rs {w wr : World} {D R i : Nat} {s t : SP} {O : Nat → Prop} (h : LR2 w wr D R i s t O) : ∃ vr rs, RS wr R vr rs t ∧ rs.length ≤ 60 * i := by
  obtain ⟨vr, rs, h1, h2, h3, h4, h5, h6⟩ := h
  exact ⟨vr, rs, h2, h5⟩
theorem LR2.kept {w wr wr' : World} {D R i : Nat} {s t : SP} {O : Nat → Prop} (h : LR2 w wr D R i s t O) (hb : Below wr.heap.size wr wr') : LR2 w wr' D R i s t O := by
  obtain ⟨vr, rs, h1, h2, h3, h4, h5, h6⟩ := h
  exact ⟨vr, rs, h1.kept hb, h2.kept hb, h3, h4, h5, h6⟩
theorem LR2.mono {w wr : World} {D R i j : Nat} {s t : SP} {O : Nat → Prop} (h : LR2 w wr D R i s t O) (hij : i ≤ j) : LR2 w wr D R j s t O := by
  obtain ⟨vr, rs, h1, h2, h3, h4, h5, h6⟩ := h
  exact ⟨vr, rs, h1.mono hij, h2, h3, h4, by omega, by omega⟩
theorem LR2.less {w wr : World} {D R i : Nat} {s t : SP} {O O' : Nat → Prop} (h : LR2 w wr D R i s t O) (hO : ∀ b, O' b → O b) : LR2 w wr D R i s t O' := by
  obtain ⟨vr, rs, h1, h2, h3, h4, h5, h6⟩ := h
  exact ⟨vr, rs, h1.less (fun b hb => hb.elim (fun h => .inl (hO b h)) .inr), h2, h3, fun b hb => h4 b (hO b hb), h5, h6⟩
/-- A block that is new is none of theirs. -/
theorem LR2.own {w wr wr' : World} {D R i : Nat} {s t : SP} {O : Nat → Prop} (h : LR2 w wr D R i s t O) (hb : Below wr.heap.size wr wr') {E : Nat} (hE : wr.heap.size ≤ E) (hE' : E < wr'.heap.size) : LR2 w wr' D R i s t (fun b => O b ∨ b = E) := by
  obtain ⟨vr, rs, h1, h2, h3, h4, h5, h6⟩ := h
  refine ⟨vr, rs, (h1.own hb hE hE').less (fun b hb' => ?_), h2.kept hb, h3, fun b hO hr => ?_, h5, h6⟩
  · rcases hb' with (h | h) | h
    · exact .inl (.inl h)
    · exact .inr h
    · exact .inl (.inr h)
  · rcases hO with hO | rfl
    · exact h4 b hO hr
    · have := h2.lt hr; omega
theorem LS.install' {w wr : World} {D i : Nat} {s : SP} {O : Nat → Prop} (h : LS w wr D i s O) (hi : i ≤ 1000) {vl : Value} {L : List Pr} (hr : RdG PE wr vl L) (hL : L.length ≤ 60) (hap : ∀ b, InB vl b → b < w.heap.size) (n : Int) :
    Calls Try.prog 24 #[.pointer (some ⟨D, 0, none⟩), .int .i64 n, vl] wr fun e w' => e = .returned (.int .i64 (if instOk s n L = true then 0 else 2)) ∧ LS w w' D (i + 1) (instP s n L) O ∧ Same O wr w' ∧ wr.heap.size ≤ w'.heap.size := by
  obtain ⟨M, vk, ks, h1, h2, h3, h0⟩ := h
  refine (install_any h1.st hr (fun b hb hm => by have := h1.mine hm; have := hap b hb; omega) (by omega) (by omega) n).mono ?_
  rintro e w' ⟨he, vk', ks', h4, h5, h6, h7⟩
  exact ⟨he, ⟨M, vk', ks', h1.act h4 h6 h7, by omega, inst_last h3, fun b hb => mine_new (h0 b hb) h6.size h7⟩, fun b hb => h6.block b (h0 b hb).1 (h0 b hb).2, h6.size⟩
theorem LS.collect' {w wr : World} {D i : Nat} {s : SP} {O : Nat → Prop} (h : LS w wr D i s O) (hi : i ≤ 1000) (n : Int) :
    Calls Try.prog 25 #[.pointer (some ⟨D, 0, none⟩), .int .i64 n] wr fun e w' => e = .returned (.int .i64 (if collOk s n = true then 0 else 2)) ∧ LS w w' D i (collP s n) O ∧ Same O wr w' ∧ wr.heap.size ≤ w'.heap.size := by
  obtain ⟨M, vk, ks, h1, h2, h3, h0⟩ := h
  refine (collect_any h1.st (by omega) (by omega) n).mono ?_
  rintro e w' ⟨he, vk', ks', h4, h5, h6, h7⟩
  refine ⟨he, ⟨M, vk', ks', h1.act h4 h6 h7, by omega, ?_, fun b hb => mine_new (h0 b hb) h6.size h7⟩, fun b hb => h6.block b (h0 b hb).1 (h0 b hb).2, h6.size⟩
  unfold collP
  split <;> exact h3
theorem lo_same {w wr w' : World} (h1 : Below w.heap.size w wr) (h2 : Below w.heap.size w w') (h3 : wr.heap.size ≤ w'.heap.size) : w'.os = wr.os ∧ w'.tape = wr.tape ∧ w'.output = wr.output ∧ wr.heap.size ≤ w'.heap.size :=
  ⟨h2.os.trans h1.os.symm, h2.tape.trans h1.tape.symm, h2.output.trans h1.output.symm, h3⟩
/-- An act of the store's. -/
theorem LR2.step {w wr w' : World} {D R i j : Nat} {s s' t : SP} {O : Nat → Prop} {vr : Value} {rs : List RK} (h1 : LS w wr D i s (fun b => O b ∨ RB R vr rs b)) (h2 : RS wr R vr rs t) (h3 : ∀ b, RB R vr rs b → w.heap.size ≤ b) (h4 : ∀ b, O b → ¬ RB R vr rs b) (h5 : rs.length ≤ 60 * i) (h6 : t.last ≤ i)
    (hij : i ≤ j) (k1 : LS w w' D j s' (fun b => O b ∨ RB R vr rs b)) (k2 : Same (fun b => O b ∨ RB R vr rs b) wr w') (k3 : wr.heap.size ≤ w'.heap.size) : LR2 w w' D R j s' t O ∧ Same O wr w' ∧ wr.heap.size ≤ w'.heap.size :=
  ⟨⟨vr, rs, k1, h2.same (fun b hb => k2 b (.inr hb)) (lo_same h1.lo k1.lo k3), h3, h4, by omega, by omega⟩, fun b hb => k2 b (.inl hb), k3⟩
theorem LR2.install {w wr : World} {D R i : Nat} {s t : SP} {O : Nat → Prop} (h : LR2 w wr D R i s t O) (hi : i ≤ 1000) {vl : Value} {L : List Pr} (hr : RdG PE w vl L) (hL : L.length ≤ 60) (n : Int) :
    Calls Try.prog 24 #[.pointer (some ⟨D, 0, none⟩), .int .i64 n, vl] wr fun e w' => e = .returned (.int .i64 (if instOk s n L = true then 0 else 2)) ∧ LR2 w w' D R (i + 1) (instP s n L) t O ∧ Same O wr w' ∧ wr.heap.size ≤ w'.heap.size := by
  obtain ⟨vr, rs, h1, h2, h3, h4, h5, h6⟩ := h
  refine (h1.install' hi (hr.kept h1.lo) hL (fun _ hb => hr.inB_lt hb) n).mono ?_
  rintro e w' ⟨he, k1, k2, k3⟩
  exact ⟨he, LR2.step h1 h2 h3 h4 h5 h6 (by omega) k1 k2 k3⟩
theorem LR2.collect {w wr : World} {D R i : Nat} {s t : SP} {O : Nat → Prop} (h : LR2 w wr D R i s t O) (hi : i ≤ 1000) (n : Int) :
    Calls Try.prog 25 #[.pointer (some ⟨D, 0, none⟩), .int .i64 n] wr fun e w' => e = .returned (.int .i64 (if collOk s n = true then 0 else 2)) ∧ LR2 w w' D R i (collP s n) t O ∧ Same O wr w' ∧ wr.heap.size ≤ w'.heap.size := by
  obtain ⟨vr, rs, h1, h2, h3, h4, h5, h6⟩ := h
  refine (h1.collect' hi n).mono ?_
  rintro e w' ⟨he, k1, k2, k3⟩
  exact ⟨he, LR2.step h1 h2 h3 h4 h5 h6 (Nat.le_refl _) k1 k2 k3⟩
/-- An act of the reference's. -/
theorem LR2.vstep {w wr w' : World} {D R i j : Nat} {s t t' : SP} {O : Nat → Prop} {vr vr' : Value} {rs rs' : List RK} (h1 : LS w wr D i s (fun b => O b ∨ RB R vr rs b)) (h2 : RS wr R vr rs t) (h3 : ∀ b, RB R vr rs b → w.heap.size ≤ b) (h4 : ∀ b, O b → ¬ RB R vr rs b)
    (hij : i ≤ j) (k1 : RS w' R vr' rs' t') (k2 : Chg (fun b => b = R ∨ vr.ownBlock = some b) wr w') (k3 : ∀ b, RB R vr' rs' b → RB R vr rs b ∨ wr.heap.size ≤ b) (k4 : rs'.length ≤ 60 * j) (k5 : t'.last ≤ j) : LR2 w w' D R j s t' O ∧ Same O wr w' ∧ wr.heap.size ≤ w'.heap.size := by
  have hOlt : ∀ b, O b → b < wr.heap.size := fun b hb => by
    obtain ⟨M, vk, ks, -, -, -, h⟩ := h1
    exact (h b (.inl hb)).1
  have hFR : ∀ b, (b = R ∨ vr.ownBlock = some b) → RB R vr rs b := fun b hb => hb.elim .inl (fun h => .inr (.inl h))
  refine ⟨⟨vr', rs', ?_, k1, fun b hb => ?_, fun b hb hr => ?_, k4, k5⟩, fun b hb => k2.block b (hOlt b hb) (fun hf => h4 b hb (hFR b hf)), k2.size⟩
  · have hc := h1.chg k2 (fun b hf => ⟨.inr (hFR b hf), h3 b (hFR b hf)⟩) h2.noch
    obtain ⟨M, vk, ks, g1, g2, g3, g4⟩ := hc.mono hij
    obtain ⟨M0, vk0, ks0, q1, q2, q3, q4⟩ := h1
    refine ⟨M0, vk0, ks0, ⟨q1.st.chg k2 (fun b hb hf => (q4 b (.inr (hFR b hf))).2 hb) h2.noch, q1.hD, q1.hM, q1.hk, q1.lo.trans (k2.below q1.lo.size (fun k hk hf => by have := h3 k (hFR k hf); omega))⟩, by omega, by omega, fun b hb => ?_⟩
    rcases hb with hb | hb
    · exact ⟨Nat.lt_of_lt_of_le (q4 b (.inl hb)).1 k2.size, (q4 b (.inl hb)).2⟩
    · refine ⟨k1.lt hb, fun hm => ?_⟩
      rcases k3 b hb with h | h
      · exact (q4 b (.inr h)).2 hm
      · have := q1.st.lt hm; omega
  · rcases k3 b hb with h | h
    · exact h3 b h
    · exact Nat.le_trans h1.lo.size h
  · rcases k3 b hr with h | h
    · exact h4 b hb h
    · have := hOlt b hb; omega
theorem LR2.vinstall {w wr : World} {D R i : Nat} {s t : SP} {O : Nat → Prop} (h : LR2 w wr D R i s t O) (hi : i ≤ 1000) {vl : Value} {L : List Pr} (hr : RdG PE w vl L) (hL : L.length ≤ 60) (n : Int) :
    Calls Try.prog 29 #[.pointer (some ⟨R, 0, none⟩), .int .i64 n, vl] wr fun e w' => e = .returned (.int .i64 (if instOk t n L = true then 0 else 2)) ∧ LR2 w w' D R (i + 1) s (instP t n L) O ∧ Same O wr w' ∧ wr.heap.size ≤ w'.heap.size := by
  obtain ⟨vr, rs, h1, h2, h3, h4, h5, h6⟩ := h
  refine (vInstall_any h2 (hr.kept h1.lo) (fun b hb hq => by have := hr.inB_lt hb; have := h3 b hq; omega) (by omega) (by omega) n).mono ?_
  rintro e w' ⟨he, vr', rs', k1, k2, k3, k4, k5⟩
  exact ⟨he, LR2.vstep h1 h2 h3 h4 (by omega) k1 k2 k3 (by omega) (inst_last h6)⟩
theorem LR2.vcollect {w wr : World} {D R i : Nat} {s t : SP} {O : Nat → Prop} (h : LR2 w wr D R i s t O) (hi : i ≤ 1000) (n : Int) :
    Calls Try.prog 30 #[.pointer (some ⟨R, 0, none⟩), .int .i64 n] wr fun e w' => e = .returned (.int .i64 (if collOk t n = true then 0 else 2)) ∧ LR2 w w' D R i s (collP t n) O ∧ Same O wr w' ∧ wr.heap.size ≤ w'.heap.size := by
  obtain ⟨vr, rs, h1, h2, h3, h4, h5, h6⟩ := h
  refine (vCollect_any h2 (by omega) (by omega) n).mono ?_
  rintro e w' ⟨he, vr', rs', k1, k2, k3, k4, k5⟩
  refine ⟨he, LR2.vstep h1 h2 h3 h4 (Nat.le_refl _) k1 (k2.mono (fun _ _ e => .inl e)) k3 (by omega) ?_⟩
  unfold collP
  split <;> exact h6
theorem Same.trans {O : Nat → Prop} {a b c : World} (h : Same O a b) (k : Same O b c) : Same O a c := fun x hx => (k x hx).trans (h x hx)
theorem Same.less {O O' : Nat → Prop} {a b : World} (h : Same O a b) (hO : ∀ x, O' x → O x) : Same O' a b := fun x hx => h x (hO x hx)
/-- What an act makes of a store. -/
def actS (s : SP) (k n : Int) (l : List Pr) : SP := if k = 0 then instP s (s.last + 1) l else if k = 1 then instP s n l else if k = 2 then collP s n else s
theorem wp_call_at {P : Program} {o : Oper} {a : Act} {w : World} {T : World → Prop} {Q : Exit → Act → World → Prop} (f : FuncId) (args : Array Value) (v : Value) (hrun : (execOp a.eval o).run P w = .ok (.enter f args) w)
    (hc : Calls P f args w fun e w' => e = .returned v ∧ T w') : o.wp P a w (fun a' w' => a' = a.put o.dst v ∧ T w') Q := by
  unfold Oper.wp
  rw [hrun]
  refine hc.mono ?_
  rintro e w' ⟨rfl, hv⟩
  exact ⟨rfl, hv⟩
end Go.Proofs.Ytgaoionnfkbhaaa
