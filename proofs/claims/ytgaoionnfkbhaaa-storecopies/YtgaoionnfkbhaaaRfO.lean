/-
  A store, its copy, and the reference's store.
-/
import Derived.Test.YtgaoionnfkbhaaaRfN
namespace Go.Proofs.Ytgaoionnfkbhaaa
open Go.RowKit
theorem RS.chg {w w' : World} {R : Nat} {vr : Value} {rs : List RK} {s : SP} {F : Nat → Prop} (h : RS w R vr rs s) (hc : Chg F w w') (hF : ∀ b, RB R vr rs b → ¬ F b) : RS w' R vr rs s :=
  ⟨h.d.chg hc (hF R (.inl rfl)), h.own.chg hc (fun b hb => hF b (.inr (.inl hb))), h.inv, fun x hx => (h.ch x hx).chg hc (fun b hb => hF b (.inr (.inr ⟨x, hx, hb⟩))), h.ap⟩
/-- A store at D that reads s, its copy at C and the reference's at R that read c; blocks of O are none of the store's. -/
def CP (w wr : World) (D C R i j : Nat) (s c : SP) (O : Nat → Prop) : Prop :=
  ∃ M vk ks M1 v1 k1 vr rs, Own1 w wr D M vk ks s ∧ ks.length ≤ 60 * i ∧ s.last ≤ i ∧ Own1 w wr C M1 v1 k1 c ∧ k1.length ≤ 60 * j ∧ c.last ≤ j ∧ RS wr R vr rs c ∧ rs.length ≤ 60 * j ∧
    (∀ b, Mine C M1 v1 b → ¬ Mine D M vk b) ∧ (∀ b, RB R vr rs b → ¬ Mine D M vk b) ∧ ∀ b, O b → b < wr.heap.size ∧ ¬ Mine D M vk b
theorem CP.lsD {w wr : World} {D C R i j : Nat} {s c : SP} {O : Nat → Prop} (h : CP w wr D C R i j s c O) : LS w wr D i s O := by
  obtain ⟨M, vk, ks, M1, v1, k1, vr, rs, h1, h2, h3, h4, h5, h6, h7, h8, h9, h10, h11⟩ := h
  exact ⟨M, vk, ks, h1, h2, h3, h11⟩
theorem CP.lsC {w wr : World} {D C R i j : Nat} {s c : SP} {O : Nat → Prop} (h : CP w wr D C R i j s c O) : LS w wr C j c (fun _ => False) := by
  obtain ⟨M, vk, ks, M1, v1, k1, vr, rs, h1, h2, h3, h4, h5, h6, h7, h8, h9, h10, h11⟩ := h
  exact ⟨M1, v1, k1, h4, h5, h6, fun _ h => h.elim⟩
theorem CP.rs {w wr : World} {D C R i j : Nat} {s c : SP} {O : Nat → Prop} (h : CP w wr D C R i j s c O) : ∃ vr rs, RS wr R vr rs c ∧ rs.length ≤ 60 * j := by
  obtain ⟨M, vk, ks, M1, v1, k1, vr, rs, h1, h2, h3, h4, h5, h6, h7, h8, h9, h10, h11⟩ := h
  exact ⟨vr, rs, h7, h8⟩
theorem CP.lo {w wr : World} {D C R i j : Nat} {s c : SP} {O : Nat → Prop} (h : CP w wr D C R i j s c O) : Below w.heap.size w wr := h.lsD.lo
theorem CP.kept {w wr wr' : World} {D C R i j : Nat} {s c : SP} {O : Nat → Prop} (h : CP w wr D C R i j s c O) (hb : Below wr.heap.size wr wr') : CP w wr' D C R i j s c O := by
  obtain ⟨M, vk, ks, M1, v1, k1, vr, rs, h1, h2, h3, h4, h5, h6, h7, h8, h9, h10, h11⟩ := h
  exact ⟨M, vk, ks, M1, v1, k1, vr, rs, h1.kept hb, h2, h3, h4.kept hb, h5, h6, h7.kept hb, h8, h9, h10, fun b hO => ⟨Nat.lt_of_lt_of_le (h11 b hO).1 hb.size, (h11 b hO).2⟩⟩
/-- A row that is new is none of the store's. -/
theorem CP.row {w wr wr' : World} {D C R i j : Nat} {s c : SP} {O : Nat → Prop} (h : CP w wr D C R i j s c O) (hb : Below wr.heap.size wr wr') {v : Value} {L : List Pr} (hv : OwnG PE wr' wr.heap.size 49 v L) : CP w wr' D C R i j s c (InB v) := by
  obtain ⟨M, vk, ks, M1, v1, k1, vr, rs, h1, h2, h3, h4, h5, h6, h7, h8, h9, h10, h11⟩ := h
  refine ⟨M, vk, ks, M1, v1, k1, vr, rs, h1.kept hb, h2, h3, h4.kept hb, h5, h6, h7.kept hb, h8, h9, h10, fun b hO => ?_⟩
  obtain ⟨h12, h13, -⟩ := hv.block (inB_own hO)
  exact ⟨h13, fun hm => by have := h1.st.lt hm; omega⟩
/-- The copy is made. -/
theorem LR2.copy {w wr : World} {D R i : Nat} {s : SP} {O : Nat → Prop} (h : LR2 w wr D R i s s O) (hi : i ≤ 1000) :
    Calls Try.prog 28 #[.pointer (some ⟨D, 0, none⟩)] wr fun e w' => ∃ C, e = .returned (.pointer (some ⟨C, 0, none⟩)) ∧ CP w w' D C R i i s s (fun _ => False) ∧ Below wr.heap.size wr w' := by
  obtain ⟨vr, rs, ⟨M, vk, ks, h1, h2, h3, h4⟩, k2, k3, k4, k5, k6⟩ := h
  refine (copy_any h1.st (by omega)).mono ?_
  rintro e w' ⟨C, M1, v1, he, hs, hC, hM, hv, hb⟩
  have hlo := h1.lo.size
  refine ⟨C, he, ⟨M, vk, ks, M1, v1, ks, vr, rs, h1.kept hb, h2, h3, ⟨hs, by omega, by omega, fun b hb' => Nat.le_trans hlo (hv b hb'), h1.lo.trans (hb.mono hlo)⟩, h2, h3, k2.kept hb, k5, fun b hm hm' => ?_, fun b hr hm => (h4 b (.inr hr)).2 hm, fun _ h => h.elim⟩, hb⟩
  have h5 := h1.st.lt hm'
  rcases hm with rfl | rfl | hm
  · omega
  · omega
  · have := hv b hm; omega
/-- An act of the store's. -/
theorem CP.act {w wr w' : World} {D C R j i' : Nat} {s c s' : SP} {O : Nat → Prop} {M : Nat} {vk vk' : Value} {ks ks' k1 : List ByteArray} {M1 : Nat} {v1 vr : Value} {rs : List RK} (h1 : Own1 w wr D M vk ks s) (h4 : Own1 w wr C M1 v1 k1 c) (h5 : k1.length ≤ 60 * j) (h6 : c.last ≤ j) (h7 : RS wr R vr rs c) (h8 : rs.length ≤ 60 * j)
    (h9 : ∀ b, Mine C M1 v1 b → ¬ Mine D M vk b) (h10 : ∀ b, RB R vr rs b → ¬ Mine D M vk b) (h11 : ∀ b, O b → b < wr.heap.size ∧ ¬ Mine D M vk b)
    (g1 : StAt w' D M vk' ks' s') (g2 : ks'.length ≤ 60 * i') (g3 : s'.last ≤ i') (g4 : Chg (Mine D M vk) wr w') (g5 : ∀ b, vk'.ownBlock = some b → vk.ownBlock = some b ∨ wr.heap.size ≤ b) : CP w w' D C R i' j s' c O ∧ Same O wr w' := by
  have hn := h1.st.noch
  refine ⟨⟨M, vk', ks', M1, v1, k1, vr, rs, h1.act g1 g4 g5, g2, g3, ⟨h4.st.chg g4 (fun b hb => h9 b hb) hn, h4.hD, h4.hM, h4.hk, (h1.act g1 g4 g5).lo⟩, h5, h6, h7.chg g4 h10, h8, fun b hb => (mine_new ⟨h4.st.lt hb, h9 b hb⟩ g4.size g5).2, fun b hb => (mine_new ⟨h7.lt hb, h10 b hb⟩ g4.size g5).2, fun b hb => mine_new (h11 b hb) g4.size g5⟩, fun b hb => g4.block b (h11 b hb).1 (h11 b hb).2⟩
theorem CP.install {w wr : World} {D C R i j : Nat} {s c : SP} {O : Nat → Prop} (h : CP w wr D C R i j s c O) (hi : i ≤ 1000) {vl : Value} {L : List Pr} (hr : RdG PE w vl L) (hL : L.length ≤ 60) (n : Int) :
    Calls Try.prog 24 #[.pointer (some ⟨D, 0, none⟩), .int .i64 n, vl] wr fun e w' => e = .returned (.int .i64 (if instOk s n L = true then 0 else 2)) ∧ CP w w' D C R (i + 1) j (instP s n L) c O ∧ Same O wr w' := by
  have hlo := h.lo
  obtain ⟨M, vk, ks, M1, v1, k1, vr, rs, h1, h2, h3, h4, h5, h6, h7, h8, h9, h10, h11⟩ := h
  refine (install_any h1.st (hr.kept hlo) (fun b hb hm => by have := h1.mine hm; have := hr.inB_lt hb; omega) (by omega) (by omega) n).mono ?_
  rintro e w' ⟨he, vk', ks', g1, g2, g3, g4⟩
  exact ⟨he, CP.act h1 h4 h5 h6 h7 h8 h9 h10 h11 g1 (by omega) (inst_last h3) g3 g4⟩
theorem CP.collect {w wr : World} {D C R i j : Nat} {s c : SP} {O : Nat → Prop} (h : CP w wr D C R i j s c O) (hi : i ≤ 1000) (n : Int) :
    Calls Try.prog 25 #[.pointer (some ⟨D, 0, none⟩), .int .i64 n] wr fun e w' => ∃ x, e = .returned (.int .i64 x) ∧ CP w w' D C R i j (collP s n) c O ∧ Same O wr w' := by
  obtain ⟨M, vk, ks, M1, v1, k1, vr, rs, h1, h2, h3, h4, h5, h6, h7, h8, h9, h10, h11⟩ := h
  refine (collect_any h1.st (by omega) (by omega) n).mono ?_
  rintro e w' ⟨he, vk', ks', g1, g2, g3, g4⟩
  refine ⟨_, he, CP.act h1 h4 h5 h6 h7 h8 h9 h10 h11 g1 (by omega) ?_ g3 g4⟩
  unfold collP
  split <;> exact h3
theorem CP.versions {w wr : World} {D C R i j : Nat} {s c : SP} {O : Nat → Prop} (h : CP w wr D C R i j s c O) (hi : j ≤ 1000) {V : Nat} (hV : ∀ ks, Inv c ks → versS c ks = V) : Calls Try.prog 15 #[.pointer (some ⟨C, 0, none⟩)] wr fun e w' => e = .returned (.int .i64 (V : Int)) ∧ Below wr.heap.size wr w' :=
  h.lsC.versions hi hV
theorem CP.vversions {w wr : World} {D C R i j : Nat} {s c : SP} {O : Nat → Prop} (h : CP w wr D C R i j s c O) (hi : j ≤ 1000) {V : Nat} (hV : ∀ ks, Inv c ks → versS c ks = V) : Calls Try.prog 16 #[.pointer (some ⟨R, 0, none⟩)] wr fun e w' => e = .returned (.int .i64 (V : Int)) ∧ Below wr.heap.size wr w' := by
  have hb := h.lsC.bnd
  obtain ⟨vr, rs, h1, h2⟩ := h.rs
  have := vVersions_any h1 (vers_bound h1.inv (by rw [List.length_map]; exact h2) hb.2.2 hi)
  rw [hV _ h1.inv] at this
  exact this
/-- Around an Install: T before, and behind it. -/
def CT (w : World) (D C R i j : Nat) (s s' c : SP) (v : Value) (W : List Pr) (k : Nat) (w' : World) : Prop :=
  (match k with | 0 => CP w w' D C R i j s c (InB v) | 1 => CP w w' D C R i j s c (InB v) | _ => CP w w' D C R (i + 1) j s' c (InB v)) ∧ RdG PE w' v W
theorem CT.lo {w : World} {D C R i j : Nat} {s s' c : SP} {v : Value} {W : List Pr} {k : Nat} {w' : World} (h : CT w D C R i j s s' c v W k w') : Below w.heap.size w w' := by
  have h1 := h.1
  match k, h1 with
  | 0, h1 => exact CP.lo h1
  | 1, h1 => exact CP.lo h1
  | _ + 2, h1 => exact CP.lo h1
theorem CT.zero {w : World} {D C R i j : Nat} {s s' c : SP} {v : Value} {W : List Pr} {w' w3 : World} (h : CT w D C R i j s s' c v W 0 w') (hb : Below w'.heap.size w' w3) : CT w D C R i j s s' c v W 0 w3 := ⟨CP.kept h.1 hb, h.2.kept hb⟩
theorem instP_last (s : SP) (l : List Pr) : instOk s s.last l = false := by
  unfold instOk
  rw [Bool.and_eq_false_iff]
  exact .inr (decide_eq_false (by omega))
theorem instOk_next (s : SP) (l : List Pr) : instOk s (s.last + 1) l = goodP em l := by
  unfold instOk
  simp
/-- At the law's end. -/
def FT (w : World) (D C R i j : Nat) (s c : SP) (u v : Value) (W : List Pr) (w' : World) : Prop := CP w w' D C R i j s c (fun _ => False) ∧ RdG PE w' u W ∧ RdG PE w' v W
theorem FT.kept {w : World} {D C R i j : Nat} {s c : SP} {u v : Value} {W : List Pr} {w' w3 : World} (h : FT w D C R i j s c u v W w') (hb : Below w'.heap.size w' w3) : FT w D C R i j s c u v W w3 := ⟨h.1.kept hb, h.2.1.kept hb, h.2.2.kept hb⟩
theorem CP.none {w wr : World} {D C R i j : Nat} {s c : SP} {O : Nat → Prop} (h : CP w wr D C R i j s c O) : CP w wr D C R i j s c (fun _ => False) := by
  obtain ⟨M, vk, ks, M1, v1, k1, vr, rs, h1, h2, h3, h4, h5, h6, h7, h8, h9, h10, h11⟩ := h
  exact ⟨M, vk, ks, M1, v1, k1, vr, rs, h1, h2, h3, h4, h5, h6, h7, h8, h9, h10, fun _ h => h.elim⟩
end Go.Proofs.Ytgaoionnfkbhaaa
