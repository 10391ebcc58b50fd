/-
  A store of the law's own, act by act.
-/
import Derived.Test.YtgaoionnfkbhaaaStD
namespace Go.Proofs.Ytgaoionnfkbhaaa
open Go.RowKit
/-- A store that the law made at w, behind so many Installs; blocks of O are none of its. -/
def LS (w wr : World) (D i : Nat) (s : SP) (O : Nat → Prop) : Prop := ∃ M vk ks, Own1 w wr D M vk ks s ∧ ks.length ≤ 60 * i ∧ s.last ≤ i ∧ ∀ b, O b → b < wr.heap.size ∧ ¬ Mine D M vk b
/-- Blocks of O are as they were. -/
def Same (O : Nat → Prop) (w w' : World) : Prop := ∀ b, O b → w'.heap[b]? = w.heap[b]?
theorem Blk.same {O : Nat → Prop} {w w' : World} {b : Nat} {T : TypeId} {cs : List Value} (h : Blk w b T cs) (hs : Same O w w') (hb : O b) : Blk w' b T cs := (hs b hb).trans h
theorem LS.kept {w wr wr' : World} {D i : Nat} {s : SP} {O : Nat → Prop} (h : LS w wr D i s O) (hb : Below wr.heap.size wr wr') : LS w wr' D i s O := by
  obtain ⟨M, vk, ks, h1, h2, h3, h4⟩ := h
  exact ⟨M, vk, ks, h1.kept hb, h2, h3, fun b hO => ⟨Nat.lt_of_lt_of_le (h4 b hO).1 hb.size, (h4 b hO).2⟩⟩
/-- A block that is new is none of its. -/
theorem LS.own {w wr wr' : World} {D i : Nat} {s : SP} {O : Nat → Prop} (h : LS w wr D i s O) (hb : Below wr.heap.size wr wr') {E : Nat} (hE : wr.heap.size ≤ E) (hE' : E < wr'.heap.size) : LS w wr' D i s (fun b => O b ∨ b = E) := by
  obtain ⟨M, vk, ks, h1, h2, h3, h4⟩ := h
  refine ⟨M, vk, ks, h1.kept hb, h2, h3, fun b hO => ?_⟩
  rcases hO with hO | rfl
  · exact ⟨Nat.lt_of_lt_of_le (h4 b hO).1 hb.size, (h4 b hO).2⟩
  · exact ⟨hE', fun hm => by have := h1.st.lt hm; omega⟩
theorem LS.less {w wr : World} {D i : Nat} {s : SP} {O O' : Nat → Prop} (h : LS w wr D i s O) (hO : ∀ b, O' b → O b) : LS w wr D i s O' := by
  obtain ⟨M, vk, ks, h1, h2, h3, h4⟩ := h
  exact ⟨M, vk, ks, h1, h2, h3, fun b hb => h4 b (hO b hb)⟩
theorem LS.mono {w wr : World} {D i j : Nat} {s : SP} {O : Nat → Prop} (h : LS w wr D i s O) (hij : i ≤ j) : LS w wr D j s O := by
  obtain ⟨M, vk, ks, h1, h2, h3, h4⟩ := h
  exact ⟨M, vk, ks, h1, by omega, by omega, h4⟩
theorem LS.lo {w wr : World} {D i : Nat} {s : SP} {O : Nat → Prop} (h : LS w wr D i s O) : Below w.heap.size w wr := by
  obtain ⟨M, vk, ks, h1, -⟩ := h
  exact h1.lo
theorem LS.bnd {w wr : World} {D i : Nat} {s : SP} {O : Nat → Prop} (h : LS w wr D i s O) : 0 ≤ s.floor ∧ s.floor ≤ s.last ∧ s.last ≤ i := by
  obtain ⟨M, vk, ks, h1, h2, h3, -⟩ := h
  exact ⟨h1.st.inv.fl, h1.st.inv.fle, h3⟩
theorem LS.good {w wr : World} {D i : Nat} {s : SP} {O : Nat → Prop} (h : LS w wr D i s O) : ∃ ks, Inv s ks ∧ ks.length ≤ 60 * i := by
  obtain ⟨M, vk, ks, h1, h2, h3, -⟩ := h
  exact ⟨ks, h1.st.inv, h2⟩
theorem ls_new {w : World} : Calls Try.prog 11 #[] w fun e w' => ∃ D, e = .returned (.pointer (some ⟨D, 0, none⟩)) ∧ LS w w' D 0 sp0 (fun _ => False) :=
  (sNew_any w).mono fun e w' ⟨D, M, he, h1, h2, h3, h4⟩ => ⟨D, he, M, _, _, own_new h1 h2 h3 h4, by simp, by simp [sp0], fun _ h => h.elim⟩
theorem inst_last {s : SP} {n : Int} {L : List Pr} {i : Nat} (h : s.last ≤ i) : (instP s n L).last ≤ ((i + 1 : Nat) : Int) := by
  unfold instP
  split
  · rename_i hq
    unfold instOk at hq
    rw [Bool.and_eq_true, decide_eq_true_eq] at hq
    show n ≤ _
    omega
  · omega
theorem mine_new {D M : Nat} {vk vk' : Value} {w w' : World} {b : Nat} (hb : b < w.heap.size ∧ ¬ Mine D M vk b) (hs : w.heap.size ≤ w'.heap.size) (hv : ∀ b, vk'.ownBlock = some b → vk.ownBlock = some b ∨ w.heap.size ≤ b) : b < w'.heap.size ∧ ¬ Mine D M vk' b := by
  refine ⟨by omega, fun hm => hb.2 ?_⟩
  rcases hm with h | h | h
  · exact .inl h
  · exact .inr (.inl h)
  · rcases hv b h with h' | h'
    · exact .inr (.inr h')
    · omega
theorem LS.install {w wr : World} {D i : Nat} {s : SP} {O : Nat → Prop} (h : LS w wr D i s O) (hi : i ≤ 1000) {vl : Value} {L : List Pr} (hr : RdG PE wr vl L) (hL : L.length ≤ 60) (hap : ∀ b, InB vl b → b < w.heap.size) (n : Int) :
    Calls Try.prog 24 #[.pointer (some ⟨D, 0, none⟩), .int .i64 n, vl] wr fun e w' => e = .returned (.int .i64 (if instOk s n L = true then 0 else 2)) ∧ LS w w' D (i + 1) (instP s n L) O ∧ Same O wr w' := by
  obtain ⟨M, vk, ks, h1, h2, h3, h0⟩ := h
  refine (install_any h1.st hr (fun b hb hm => by have := h1.mine hm; have := hap b hb; omega) (by omega) (by omega) n).mono ?_
  rintro e w' ⟨he, vk', ks', h4, h5, h6, h7⟩
  exact ⟨he, ⟨M, vk', ks', h1.act h4 h6 h7, by omega, inst_last h3, fun b hb => mine_new (h0 b hb) h6.size h7⟩, fun b hb => h6.block b (h0 b hb).1 (h0 b hb).2⟩
theorem LS.collect {w wr : World} {D i : Nat} {s : SP} {O : Nat → Prop} (h : LS w wr D i s O) (hi : i ≤ 1000) (n : Int) :
    Calls Try.prog 25 #[.pointer (some ⟨D, 0, none⟩), .int .i64 n] wr fun e w' => e = .returned (.int .i64 (if collOk s n = true then 0 else 2)) ∧ LS w w' D i (collP s n) O ∧ Same O wr w' := by
  obtain ⟨M, vk, ks, h1, h2, h3, h0⟩ := h
  refine (collect_any h1.st (by omega) (by omega) n).mono ?_
  rintro e w' ⟨he, vk', ks', h4, h5, h6, h7⟩
  refine ⟨he, ⟨M, vk', ks', h1.act h4 h6 h7, by omega, ?_, fun b hb => mine_new (h0 b hb) h6.size h7⟩, fun b hb => h6.block b (h0 b hb).1 (h0 b hb).2⟩
  unfold collP
  split <;> exact h3
theorem LS.get {w wr : World} {D i : Nat} {s : SP} {O : Nat → Prop} (h : LS w wr D i s O) (hi : i ≤ 1000) (k : ByteArray) (hk : k.size ≤ maxLen) (n : Int) :
    Calls Try.prog 27 #[.pointer (some ⟨D, 0, none⟩), .string k, .int .i64 n] wr fun e w' => e = .returned (.tuple #[.string (getS s k n).1, .int .i64 (getS s k n).2]) ∧ Below wr.heap.size wr w' := by
  obtain ⟨M, vk, ks, h1, h2, h3, -⟩ := h
  exact sGet_any h1.st (by omega) k hk n
theorem LS.last {w wr : World} {D i : Nat} {s : SP} {O : Nat → Prop} (h : LS w wr D i s O) : Calls Try.prog 13 #[.pointer (some ⟨D, 0, none⟩)] wr fun e w' => e = .returned (.int .i64 s.last) ∧ w' = wr := by
  obtain ⟨M, vk, ks, h1, -⟩ := h
  exact sLast_any h1.st.d
theorem LS.floor {w wr : World} {D i : Nat} {s : SP} {O : Nat → Prop} (h : LS w wr D i s O) : Calls Try.prog 14 #[.pointer (some ⟨D, 0, none⟩)] wr fun e w' => e = .returned (.int .i64 s.floor) ∧ w' = wr := by
  obtain ⟨M, vk, ks, h1, -⟩ := h
  exact sFloor_any h1.st.d
/-- The last operation of a region is a call. -/
theorem wpSeq_call {P : Program} {o : Oper} {a : Act} {w : World} {Q : Exit → Act → World → Prop} (hg : o.guard = none) (f : FuncId) (args : Array Value) (hrun : (execOp a.eval o).run P w = .ok (.enter f args) w)
    (hc : Calls P f args w fun e w' => ∃ v, e = .returned v ∧ Q .normal (a.put o.dst v) w') : wpSeq P Q [o] a w := by
  refine ⟨hg, ?_⟩
  unfold Oper.wp
  rw [hrun]
  refine hc.mono ?_
  rintro e w' ⟨v, rfl, hv⟩
  exact ⟨v, rfl, hv⟩
theorem AcOk.low {w : World} {a : Ac} (h : AcOk w a) : ∀ b, InB (.slice a.ad a.len a.cap) b → b < w.heap.size := fun _ hb => h.r.inB_lt hb
end Go.Proofs.Ytgaoionnfkbhaaa
