/-
  Two stores and two sessions beside each other.
-/
import Derived.Test.YtcicekggeampcaaGreatYrF
import Derived.Test.YtcicekggeampcaaGreatGE3
namespace Go.Proofs.YtcicekggeampcaaGreat
open Go.RowKit
theorem LR2.lt {w wr : World} {D R i : Nat} {s t : SP} {O : Nat → Prop} (h : LR2 w wr D R i s t O) {b : Nat} (hb : O b) : b < wr.heap.size := by
  obtain ⟨M, vk, ks, -, -, -, h4⟩ := h.ls
  exact (h4 b hb).1
/-- What changes blocks that are none of the stores' leaves the stores. -/
theorem LR2.grow {w wr w' : World} {D R i : Nat} {s t : SP} {O O' F : Nat → Prop} (h : LR2 w wr D R i s t O) (hc : Chg F wr w') (hF : ∀ b, F b → O b ∧ w.heap.size ≤ b) (hn : NoCh wr F) (hO : ∀ b, O' b → (O b ∨ wr.heap.size ≤ b) ∧ b < w'.heap.size) : LR2 w w' D R i s t O' := by
  obtain ⟨vr, rs, h1, h2, h3, h4, h5, h6⟩ := h
  refine ⟨vr, rs, h1.step hc (fun b hb => ⟨.inl (hF b hb).1, (hF b hb).2⟩) hn (fun b hb => ?_), h2.same (fun b hb => hc.block b (h2.lt hb) (fun hf => h4 b (hF b hf).1 hb)) ⟨hc.os, hc.tape, hc.output, hc.size⟩, h3, fun b hb hr => ?_, h5, h6⟩
  · rcases hb with hb | hb
    · exact ⟨(hO b hb).1.imp .inl (fun e => e), (hO b hb).2⟩
    · exact ⟨.inl (.inr hb), Nat.lt_of_lt_of_le (h2.lt hb) hc.size⟩
  · rcases (hO b hb).1 with h | h
    · exact h4 b h hr
    · have := h2.lt hr; omega
theorem LS.rebase {w0 w wr : World} {D i : Nat} {s : SP} {O : Nat → Prop} (h : LS w wr D i s O) (hb : Below w0.heap.size w0 w) : LS w0 wr D i s O := by
  obtain ⟨M, vk, ks, h1, h2, h3, h4⟩ := h
  exact ⟨M, vk, ks, ⟨h1.st, Nat.le_trans hb.size h1.hD, Nat.le_trans hb.size h1.hM, fun b hk => Nat.le_trans hb.size (h1.hk b hk), hb.trans (h1.lo.mono hb.size)⟩, h2, h3, h4⟩
/-- Stores that are new: blocks ahead of them are none of theirs. -/
theorem LR2.early {w0 w wr : World} {D R i : Nat} {s t : SP} {O : Nat → Prop} (h : LR2 w wr D R i s t (fun _ => False)) (hb : Below w0.heap.size w0 w) (hO : ∀ b, O b → b < w.heap.size) : LR2 w0 wr D R i s t O := by
  obtain ⟨vr, rs, h1, h2, h3, -, h5, h6⟩ := h
  refine ⟨vr, rs, LS.rebase ?_ hb, h2, fun b hr => Nat.le_trans hb.size (h3 b hr), fun b hb' hr => ?_, h5, h6⟩
  · obtain ⟨M, vk, ks, g1, g2, g3, g4⟩ := h1
    refine ⟨M, vk, ks, g1, g2, g3, fun b hb' => ?_⟩
    rcases hb' with hb' | hb'
    · refine ⟨Nat.lt_of_lt_of_le (hO b hb') g1.lo.size, fun hm => ?_⟩
      have := g1.mine hm
      have := hO b hb'
      omega
    · exact g4 b (.inr hb')
  · have := h3 b hr
    have := hO b hb'
    omega
theorem lr_new {w w1 w2 : World} {D R : Nat} (h : LS w w1 D 0 sp0 (fun _ => False)) (hb : Below w1.heap.size w1 w2) (hR : w1.heap.size ≤ R) (hd : Blk w2 R 34 (SRC (.slice none 0 0) 0 0)) : LR2 w w2 D R 0 sp0 sp0 (fun _ => False) := by
  have hrb : ∀ b, SRB R (.slice none 0 0) [] b → b = R := fun b hb => by
    rcases hb with h | h | ⟨x, hx, -⟩
    · exact h
    · cases h
    · cases hx
  refine ⟨.slice none 0 0, [], (h.own hb hR hd.lt).less (fun b hb => hb.elim (fun h => h.elim) (fun h => .inr (hrb b h))), ⟨hd, ownG_nil _ _ _, inv0, by simp, by simp⟩, fun b hb => ?_, fun _ h => h.elim, by simp, by simp [sp0]⟩
  rw [hrb b hb]
  exact Nat.le_trans h.lo.size hR
theorem StoreF.noT {w : World} {O F : Nat → Prop} (h : StoreF w O F) {T : TypeId} (h1 : T ≠ 65) (h2 : T ≠ 9) : NoT T w F := fun b cur hb => h.cells b cur T (0, 0) hb h1 h2
theorem RS.noT {w : World} {R : Nat} {vr : Value} {rs : List RK} {s : SP} (h : RS w R vr rs s) {T : TypeId} (h1 : T ≠ 34) (h2 : T ≠ 121) : NoT T w (fun b => b = R ∨ vr.ownBlock = some b) := by
  intro b cur hb hF
  rcases hF with rfl | hF
  · exact cells_ne hb h.d h1 rfl
  · obtain ⟨_, _, cu2, h5⟩ := h.own.block hF
    exact cells_ne hb h5 h2 rfl
/-- What a store's call changes: none of O's blocks, no pairs, no buffer. -/
structure Away (w : World) (O F : Nat → Prop) : Prop where
  off : ∀ b, O b → ¬ F b
  p : NoT 51 w F
  d : NoT 130 w F
theorem LR2.installF {w wr : World} {D R i : Nat} {s t : SP} {O : Nat → Prop} (h : LR2 w wr D R i s t O) (hi : i ≤ 1000) {vl : Value} {L : List Pr} (hr : RdG PE w vl L) (hL : L.length ≤ 60) (n : Int) :
    Calls Tryz.prog 29 #[.pointer (some ⟨D, 0, none⟩), .int .i64 n, vl] wr fun e w' => e = .returned (.int .i64 (if instOk s n L = true then 0 else 2)) ∧ LR2 w w' D R (i + 1) (instP s n L) t O ∧ ∃ F, Away wr O F ∧ Chg F wr w' := by
  obtain ⟨vr, rs, h1, h2, h3, h4, h5, h6⟩ := h
  refine (h1.installF hi (hr.kept h1.lo) hL (fun _ hb => hr.inB_lt hb) n).mono ?_
  rintro e w' ⟨he, k1, F, k2, k3, -⟩
  refine ⟨he, (LR2.step h1 h2 h3 h4 h5 h6 (by omega) k1 (fun b hb => ?_) k3.size).1, F, ⟨fun b hb => k2.off b (.inl hb), k2.noT (by decide) (by decide), k2.noT (by decide) (by decide)⟩, k3⟩
  obtain ⟨M, vk, ks, -, -, -, g4⟩ := h1
  exact k3.block b (g4 b hb).1 (k2.off b hb)
theorem LS.collectF {w wr : World} {D i : Nat} {s : SP} {O : Nat → Prop} (h : LS w wr D i s O) (hi : i ≤ 1000) (n : Int) :
    Calls Tryz.prog 32 #[.pointer (some ⟨D, 0, none⟩), .int .i64 n] wr fun e w' => e = .returned (.int .i64 (if collOk s n = true then 0 else 2)) ∧ LS w w' D i (collP s n) O ∧ ∃ F, StoreF wr O F ∧ Chg F wr w' := by
  obtain ⟨M, vk, ks, h1, h2, h3, h0⟩ := h
  refine (scollect_any h1.st (by omega) (by omega) n).mono ?_
  rintro e w' ⟨he, vk', ks', h4, h5, h6, h7⟩
  refine ⟨he, ⟨M, vk', ks', h1.act h4 h6 h7, by omega, ?_, fun b hb => mine_new (h0 b hb) h6.size h7⟩, Mine D M vk, ⟨fun b hb => (h0 b hb).2, fun b cs T p hb hT h9 hm => ?_⟩, h6⟩
  · unfold collP
    split <;> exact h3
  · rcases hm with rfl | rfl | hm
    · exact cells_ne hb h1.st.d hT rfl
    · exact cells_map hb h1.st.mp.block rfl
    · obtain ⟨_, _, cur, hc⟩ := h1.st.kk.block hm
      exact cells_ne hb hc h9 rfl
theorem LR2.collectF {w wr : World} {D R i : Nat} {s t : SP} {O : Nat → Prop} (h : LR2 w wr D R i s t O) (hi : i ≤ 1000) (n : Int) :
    Calls Tryz.prog 32 #[.pointer (some ⟨D, 0, none⟩), .int .i64 n] wr fun e w' => e = .returned (.int .i64 (if collOk s n = true then 0 else 2)) ∧ LR2 w w' D R i (collP s n) t O ∧ ∃ F, Away wr O F ∧ Chg F wr w' := by
  obtain ⟨vr, rs, h1, h2, h3, h4, h5, h6⟩ := h
  refine (h1.collectF hi n).mono ?_
  rintro e w' ⟨he, k1, F, k2, k3⟩
  refine ⟨he, (LR2.step h1 h2 h3 h4 h5 h6 (Nat.le_refl _) k1 (fun b hb => ?_) k3.size).1, F, ⟨fun b hb => k2.off b (.inl hb), k2.noT (by decide) (by decide), k2.noT (by decide) (by decide)⟩, k3⟩
  obtain ⟨M, vk, ks, -, -, -, g4⟩ := h1
  exact k3.block b (g4 b hb).1 (k2.off b hb)
theorem LR2.vinstallF {w wr : World} {D R i : Nat} {s t : SP} {O : Nat → Prop} (h : LR2 w wr D R i s t O) (hi : i ≤ 1000) {vl : Value} {L : List Pr} (hr : RdG PE w vl L) (hL : L.length ≤ 60) (n : Int) :
    Calls Tryz.prog 31 #[.pointer (some ⟨R, 0, none⟩), .int .i64 n, vl] wr fun e w' => e = .returned (.int .i64 (if instOk t n L = true then 0 else 2)) ∧ LR2 w w' D R (i + 1) s (instP t n L) O ∧ ∃ F, Away wr O F ∧ Chg F wr w' := by
  obtain ⟨vr, rs, h1, h2, h3, h4, h5, h6⟩ := h
  refine (vInstall_any h2 (hr.kept h1.lo) (fun b hb hq => by have := hr.inB_lt hb; have := h3 b hq; omega) (by omega) (by omega) n).mono ?_
  rintro e w' ⟨he, vr', rs', k1, k2, k3, k4, k5⟩
  exact ⟨he, (LR2.vstep h1 h2 h3 h4 (by omega) k1 k2 k3 (by omega) (inst_last h6)).1, _, ⟨fun b hb hf => h4 b hb (hf.elim .inl (fun h => .inr (.inl h))), h2.noT (by decide) (by decide), h2.noT (by decide) (by decide)⟩, k2⟩
theorem LR2.vcollectF {w wr : World} {D R i : Nat} {s t : SP} {O : Nat → Prop} (h : LR2 w wr D R i s t O) (hi : i ≤ 1000) (n : Int) :
    Calls Tryz.prog 33 #[.pointer (some ⟨R, 0, none⟩), .int .i64 n] wr fun e w' => e = .returned (.int .i64 (if collOk t n = true then 0 else 2)) ∧ LR2 w w' D R i s (collP t n) O ∧ ∃ F, Away wr O F ∧ Chg F wr w' := by
  obtain ⟨vr, rs, h1, h2, h3, h4, h5, h6⟩ := h
  refine (vCollect_any h2 (by omega) (by omega) n).mono ?_
  rintro e w' ⟨he, vr', rs', k1, k2, k3, k4, k5⟩
  refine ⟨he, (LR2.vstep h1 h2 h3 h4 (Nat.le_refl _) k1 (k2.mono (fun _ _ e => .inl e)) k3 (by omega) ?_).1, _, ⟨fun b hb hf => h4 b hb (hf.elim .inl (fun h => .inr (.inl h))), h2.noT (by decide) (by decide), h2.noT (by decide) (by decide)⟩, k2.mono (fun _ _ e => .inl e)⟩
  unfold collP
  split <;> exact h6
/-- Two stores and two sessions that the law made since w0; blocks of Z are none of theirs. -/
structure Tri (Z : Nat → Prop) (w0 w : World) (D R i : Nat) (s t : SP) (X Y : Nat) (id : Int) (o : Option (Tb × Tx)) (y : Option (Yb × Tx)) : Prop where
  lr : LR2 w0 w D R i s t (fun b => Z b ∨ SG X o b ∨ YG Y y b)
  ss : SesAt w w0.heap.size X id o
  rr : YAt w w0.heap.size Y id y
  ne : ∀ b, SG X o b → ¬ YG Y y b
  nz : ∀ b, Z b → ¬ SG X o b ∧ ¬ YG Y y b
section
variable {Z : Nat → Prop} {w0 w w' : World} {D R i j : Nat} {s s' t t' : SP} {X Y : Nat} {id : Int} {o o' : Option (Tb × Tx)} {y y' : Option (Yb × Tx)}
theorem Tri.kept (h : Tri Z w0 w D R i s t X Y id o y) (hb : Below w.heap.size w w') : Tri Z w0 w' D R i s t X Y id o y := ⟨h.lr.kept hb, h.ss.kept hb, h.rr.kept hb, h.ne, h.nz⟩
theorem Tri.mono (h : Tri Z w0 w D R i s t X Y id o y) (hij : i ≤ j) : Tri Z w0 w D R j s t X Y id o y := ⟨h.lr.mono hij, h.ss, h.rr, h.ne, h.nz⟩
theorem Tri.lo (h : Tri Z w0 w D R i s t X Y id o y) : Below w0.heap.size w0 w := h.lr.lo
theorem Tri.duo (h : Tri Z w0 w D R i s t X Y id o y) : Duo w0 w D i s X id o := ⟨h.lr.ls.less (fun _ hb => .inr (.inl hb)), h.ss⟩
theorem Tri.zlt (h : Tri Z w0 w D R i s t X Y id o y) {b : Nat} (hb : Z b) : b < w.heap.size := h.lr.lt (.inl hb)
theorem Tri.less {Z' : Nat → Prop} (h : Tri Z w0 w D R i s t X Y id o y) (hZ : ∀ b, Z' b → Z b) : Tri Z' w0 w D R i s t X Y id o y := ⟨h.lr.less (fun b hb => hb.elim (fun e => .inl (hZ b e)) .inr), h.ss, h.rr, h.ne, fun b hb => h.nz b (hZ b hb)⟩
/-- A block that is new is none of theirs. -/
theorem Tri.own (h : Tri Z w0 w D R i s t X Y id o y) (hb : Below w.heap.size w w') {E : Nat} (hE : w.heap.size ≤ E) (hE' : E < w'.heap.size) : Tri (fun b => b = E) w0 w' D R i s t X Y id o y := by
  refine ⟨(h.lr.own hb hE hE').less (fun b hb => ?_), h.ss.kept hb, h.rr.kept hb, h.ne, fun b e => ?_⟩
  · rcases hb with hb | hb
    · exact .inr hb
    · exact .inl (.inr hb)
  · subst e
    refine ⟨fun hk => ?_, fun hk => ?_⟩
    · have := h.ss.lt hk; omega
    · have := (h.rr.lt hk).2; omega
/-- An act of the session's. -/
theorem Tri.sg (h : Tri Z w0 w D R i s t X Y id o y) (hs : SesAt w' w0.heap.size X id o') {F : Nat → Prop} (hc : Chg F w w') (hF : ∀ k, F k → SG X o k) (hG : ∀ k, SG X o' k → SG X o k ∨ w.heap.size ≤ k) : Tri Z w0 w' D R i s t X Y id o' y ∧ Same Z w w' := by
  refine ⟨⟨h.lr.grow hc (fun k hk => ⟨.inr (.inl (hF k hk)), h.ss.ge (hF k hk)⟩) (fun b cur hb hk => h.ss.noch b cur hb (hF b hk)) (fun k hk => ?_), hs, h.rr.chg hc (fun k hk hf => h.ne k (hF k hf) hk) (fun b cur hb hk => h.ss.noT (by decide) (by decide) (by decide) b cur hb (hF b hk)), fun k hk hy => ?_, fun k hk => ⟨fun hq => ?_, (h.nz k hk).2⟩⟩, fun k hk => hc.block k (h.zlt hk) (fun hf => (h.nz k hk).1 (hF k hf))⟩
  · rcases hk with hk | hk | hk
    · exact ⟨.inl (.inl hk), Nat.lt_of_lt_of_le (h.zlt hk) hc.size⟩
    · exact ⟨(hG k hk).imp (fun e => .inr (.inl e)) (fun e => e), hs.lt hk⟩
    · exact ⟨.inl (.inr (.inr hk)), Nat.lt_of_lt_of_le (h.rr.lt hk).2 hc.size⟩
  · rcases hG k hk with hq | hq
    · exact h.ne k hq hy
    · have := (h.rr.lt hy).2; omega
  · rcases hG k hq with hq | hq
    · exact (h.nz k hk).1 hq
    · have := h.zlt hk; omega
/-- An act of the document's session. -/
theorem Tri.yg (h : Tri Z w0 w D R i s t X Y id o y) (hs : YAt w' w0.heap.size Y id y') {F : Nat → Prop} (hc : Chg F w w') (hF : ∀ k, F k → YG Y y k) (hG : ∀ k, YG Y y' k → YG Y y k ∨ w.heap.size ≤ k) : Tri Z w0 w' D R i s t X Y id o y' ∧ Same Z w w' := by
  have hn : ∀ {T : TypeId}, T ≠ 47 → T ≠ 93 → T ≠ 58 → NoT T w F := fun h1 h2 h3 b cur hb hk => h.rr.noT h1 h2 h3 b cur hb (hF b hk)
  refine ⟨⟨h.lr.grow hc (fun k hk => ⟨.inr (.inr (hF k hk)), (h.rr.lt (hF k hk)).1⟩) (hn (by decide) (by decide) (by decide)) (fun k hk => ?_), h.ss.chgT hc (fun k hk hf => h.ne k hk (hF k hf)) (hn (by decide) (by decide) (by decide)) (hn (by decide) (by decide) (by decide)), hs, fun k hk hy => ?_, fun k hk => ⟨(h.nz k hk).1, fun hq => ?_⟩⟩, fun k hk => hc.block k (h.zlt hk) (fun hf => (h.nz k hk).2 (hF k hf))⟩
  · rcases hk with hk | hk | hk
    · exact ⟨.inl (.inl hk), Nat.lt_of_lt_of_le (h.zlt hk) hc.size⟩
    · exact ⟨.inl (.inr (.inl hk)), Nat.lt_of_lt_of_le (h.ss.lt hk) hc.size⟩
    · exact ⟨(hG k hk).imp (fun e => .inr (.inr e)) (fun e => e), (hs.lt hk).2⟩
  · rcases hG k hy with hq | hq
    · exact h.ne k hk hq
    · have := h.ss.lt hk; omega
  · rcases hG k hq with hq | hq
    · exact (h.nz k hk).2 hq
    · have := h.zlt hk; omega
/-- An act of a store's. -/
theorem Tri.st (h : Tri Z w0 w D R i s t X Y id o y) (hl : LR2 w0 w' D R j s' t' (fun b => Z b ∨ SG X o b ∨ YG Y y b)) {F : Nat → Prop} (hF : Away w (fun b => Z b ∨ SG X o b ∨ YG Y y b) F) (hc : Chg F w w') : Tri Z w0 w' D R j s' t' X Y id o y ∧ Same Z w w' :=
  ⟨⟨hl, h.ss.chgT hc (fun k hk => hF.off k (.inr (.inl hk))) hF.p hF.d, h.rr.chg hc (fun k hk => hF.off k (.inr (.inr hk))) hF.p, h.ne, h.nz⟩, fun k hk => hc.block k (h.zlt hk) (hF.off k (.inl hk))⟩
end
theorem Tri.new {w0 w w2 : World} {D R X Y : Nat} {id : Int} (hX : SesAt w w0.heap.size X id none) (hY : YAt w w0.heap.size Y id none) (hXY : X ≠ Y) (hl : LR2 w w2 D R 0 sp0 sp0 (fun _ => False)) (hb : Below w0.heap.size w0 w) : Tri (fun _ => False) w0 w2 D R 0 sp0 sp0 X Y id none none := by
  refine ⟨hl.early hb (fun b hb => ?_), hX.kept hl.lo, hY.kept hl.lo, fun b h1 h2 => ?_, fun _ h => h.elim⟩
  · rcases hb with hb | hb | hb
    · exact hb.elim
    · exact hX.lt hb
    · exact (hY.lt hb).2
  · cases h1
    exact hXY h2
end Go.Proofs.YtcicekggeampcaaGreat
