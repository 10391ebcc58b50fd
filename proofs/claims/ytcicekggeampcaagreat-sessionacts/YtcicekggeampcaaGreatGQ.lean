/-
  Texts that ride together: PfRa PfQ Region9 Region11.
-/
import Derived.RangeFuncNested
import Derived.RangeFuncLeaves
import Derived.RangeFuncBound
import Derived.RangeFuncCalls
import Derived.Shelf.Abstract
import Derived.Shelf.RegionOpen
import Derived.WalkKit
import Derived.OwnWalkIn
import Derived.TacticsInMore
import Derived.LoopNIn
import Derived.LoopIn
import Derived.Test.YtcicekggeampcaaGreatGG
/-
  A range over a function that itself ranges over a function: what such a function may count on, and the law of a loop over it.
-/
namespace Go.Proofs.YtcicekggeampcaaGreat
open Go.RowKit Go.Shelf
theorem round_any {n m l f : Nat} {P : Program} {tmps : Array Value} {assign body : Code} {w : World} {R : Ending → World → Prop} (h : RoundIn Fence.wide n P l f tmps assign body w R) : RoundIn Fence.wide m P l f tmps assign body w R :=
  ⟨h.1, fun c cs _ => h.2 c cs (room_wide _)⟩
theorem keeps_below {B : Nat} {W W' : World} (h : Below W.heap.size W W') : KeepsFrom B W W' :=
  ⟨h.size, fun k _ _ hk _ => (h.block k (Array.getElem?_eq_some_iff.1 hk).1).trans hk⟩
theorem keeps_put {B l : Nat} {W : World} (hl : l < B) (o : Obj) : KeepsFrom B W (W.putObj l o) :=
  ⟨by simp, fun k _ hB hk _ => (World.putObj_heap_other (by omega)).trans hk⟩
theorem keeps_mono {B B' : Nat} {W W' : World} (h : KeepsFrom B W W') (hB : B ≤ B') : KeepsFrom B' W W' := ⟨h.size, fun k o hk => h.same k o (by omega)⟩
theorem keeps_chg {F : Nat → Prop} {W W' : World} {B : Nat} (h : Chg F W W') (hF : ∀ k o, F k → W.heap[k]? = some o → o.isCells = true) : KeepsFrom B W W' :=
  ⟨h.size, fun k o _ hk ho => by
    have hlt : k < W.heap.size := (Array.getElem?_eq_some_iff.1 hk).1
    rw [h.block k hlt (fun hf => by rw [hF k o hf hk] at ho; cases ho)]
    exact hk⟩
theorem chg_put {W : World} {G : Nat → Prop} {l : Nat} (h : G l) (o : Obj) : Chg G W (W.putObj l o) :=
  ⟨rfl, rfl, rfl, by simp, fun k _ hk => World.putObj_heap_other (fun e => hk (e ▸ h))⟩
/-- What lies in a block of cells is not touched where a loop's record is. -/
theorem Blk.put10 {W : World} {b l : Nat} {T : TypeId} {cs : List Value} {o0 o : Obj} (h : Blk W b T cs) (hl : W.heap[l]? = some o0) (hn : o0.isCells = false) : Blk (W.putObj l o) b T cs := by
  have hne : b ≠ l := fun e => by
    subst e
    have := h.symm.trans hl
    simp only [Option.some.injEq] at this
    subst this
    cases hn
  exact (World.putObj_heap_other hne).trans h
/-- How a round is left: what is no cells and lies from B0 on is as it was, only blocks of G have turned, and I holds, or Ix of the jump. -/
def roundEnds4 (B0 : Nat) (G : Nat → Prop) (I : World → Prop) (Ix : Code → World → Prop) (W : World) : Exit → Act → World → Prop
  | .normal, _, W' => KeepsFrom B0 W W' ∧ Chg G W W' ∧ I W'
  | .exit id, _, W' => KeepsFrom B0 W W' ∧ Chg G W W' ∧ Ix (.exit id) W'
  | .ret, _, W' => KeepsFrom B0 W W' ∧ Chg G W W' ∧ Ix .ret W'
  | _, _, _ => False
/-- What a function that is ranged over does with whatever rounds it is handed: the rounds change blocks of G, the loop's record, and what is new since it handed out the first one. -/
def Hands3 {α : Type} (P : Program) (gf : Nat) (lb : Array Value) (encs : α → Array Value) (R : List α → α → Prop) (S : List α → Prop) (G : Nat → Prop) (w : World) : Prop :=
  ∀ (l : Nat) (J Jx : Nat → List α → World → Prop) (W : World), Below w.heap.size w W → w.heap.size ≤ l → l < W.heap.size →
    (∀ X, Below W.heap.size W X → J X.heap.size [] X) →
    (∀ B pre X Y, J B pre X → Below X.heap.size X Y → J B pre Y) → (∀ B pre X Y, Jx B pre X → Below X.heap.size X Y → Jx B pre Y) →
    (∀ B pre X k o0 o, W.heap.size ≤ k → X.heap[k]? = some o0 → o0.isCells = false → J B pre X → J B pre (X.putObj k o)) → (∀ B pre X k o0 o, W.heap.size ≤ k → X.heap[k]? = some o0 → o0.isCells = false → Jx B pre X → Jx B pre (X.putObj k o)) →
    (∀ B pre x X, W.heap.size ≤ B → J B pre X → R pre x → YieldAt Fence.wide 0 P l (encs x) X fun e Y => Chg (fun k => G k ∨ k = l ∨ B ≤ k) X Y ∧ KeepsFrom W.heap.size X Y ∧ ((e = .returned (.bool true) ∧ J B (pre ++ [x]) Y) ∨ (e = .returned (.bool false) ∧ Jx B (pre ++ [x]) Y))) →
    Calls P gf (#[.func (.yield l) #[] #[]] ++ lb) W fun e Y => (∃ v, e = .returned v) ∧ ((∃ B xs, S xs ∧ J B xs Y) ∨ ∃ B xs, Jx B xs Y)
theorem wp_ranged4 {α : Type} {P : Program} {n gf : Nat} {lb : Array Value} {g : Operand} {ps : Array Tmp} {assign body : Code} {Q : Exit → Act → World → Prop} {a : Act} {w : World}
    (hg : a.eval g = .func (.func gf) #[] lb) (eg : ∀ args w, (callFunc gf args).run P w = .ok (.enter gf args) w)
    {encs : α → Array Value} (hps : ∀ x, (encs x).size = ps.size) {R : List α → α → Prop} {S : List α → Prop} (I : Nat → List α → World → Prop) (Ix : Code → Nat → List α → World → Prop)
    (hIp : ∀ B pre W l o0 o, w.heap.size ≤ l → W.heap[l]? = some o0 → o0.isCells = false → I B pre W → I B pre (W.putObj l o))
    (hXp : ∀ c B pre W l o0 o, w.heap.size ≤ l → W.heap[l]? = some o0 → o0.isCells = false → Ix c B pre W → Ix c B pre (W.putObj l o))
    (hIb : ∀ B pre X Y, I B pre X → Below X.heap.size X Y → I B pre Y)
    (hXb : ∀ c B pre X Y, Ix c B pre X → Below X.heap.size X Y → Ix c B pre Y)
    (h0 : ∀ X, Below w.heap.size w X → w.heap.size < X.heap.size → I X.heap.size [] X) {G : Nat → Prop} (hH : Hands3 P gf lb encs R S G w) (a1 : α → Nat → Act) (Aft : α → Nat → World → Prop)
    (hAp : ∀ x h W l o0 o, w.heap.size ≤ l → W.heap[l]? = some o0 → o0.isCells = false → Aft x h W → Aft x h (W.putObj l o))
    (hassign : ∀ (m l : Nat) (x : α) (W : World) (K : Act → World → Prop), w.heap.size ≤ W.heap.size → (∀ W', Below W.heap.size W W' → Aft x W.heap.size W' → K (a1 x W.heap.size) W') →
      assign.wpIn (Fence.wide.inRound l) m P (Exit.then K (fun _ _ _ => False)) { tmps := (ps.zip (encs x)).foldl (fun t (p, v) => t.setIfInBounds p v) a.tmps, defers := [] } W)
    (hbody : ∀ (m l B : Nat) (pre : List α) (x : α) (h : Nat) (W : World), w.heap.size < B → B ≤ h → w.heap.size ≤ W.heap.size → I B pre W → R pre x → Aft x h W → body.wpIn (Fence.wide.inRound l) m P (roundEnds4 w.heap.size (fun k => G k ∨ B ≤ k) (I B (pre ++ [x])) (fun c => Ix c B (pre ++ [x])) W) (a1 x h) W)
    (hdone : ∀ (D B : Nat) (xs : List α) (W : World), w.heap.size ≤ D → D < B → S xs → I B xs W → W.heap[D]? = some (.deferred (some [])) → Q .normal { a with defers := { target := .collected D, args := #[] } :: a.defers } W)
    (hleft : ∀ (D B : Nat) (c : Code) (xs : List α) (W : World), w.heap.size ≤ D → D < B → Ix c B xs W → W.heap[D]? = some (.deferred (some [])) → c.wpIn Fence.wide n P Q { a with defers := { target := .collected D, args := #[] } :: a.defers } W) :
    (Code.rangeFunc g ps assign body).wpIn Fence.wide n P Q a w := by
  refine wpIn_rangeFunc fun fn hfn => ?_
  obtain ⟨mk, hmk⟩ : ∃ mk : LoopState → Option Code → Loop, mk = fun s c => { state := s, pending := c, fn := fn, tmps := a.tmps, params := ps, assign := assign, body := body, defers := w.heap.size } := ⟨_, rfl⟩
  obtain ⟨V, hV⟩ : ∃ V, V = (w.alloc (.deferred (some []))).alloc (.loop (mk .ready none)) := ⟨_, rfl⟩
  have hVl : V.heap[w.heap.size + 1]? = some (.loop (mk .ready none)) := by
    have := World.alloc_heap_new (w.alloc (.deferred (some []))) (.loop (mk .ready none))
    rw [World.size_alloc] at this
    rw [hV]; exact this
  have hVd : V.heap[w.heap.size]? = some (.deferred (some [])) := by
    rw [hV, Below.heap_alloc _ _ _ (by simp)]
    exact World.alloc_heap_new w _
  have hVb : Below w.heap.size w V := by
    rw [hV]; exact ((Below.refl _ w).alloc (Nat.le_refl _) _).alloc (by simp) _
  have hVs : V.heap.size = w.heap.size + 2 := by rw [hV]; simp
  have hin : (Instr.enterLoop fn a.tmps ps assign body Fence.wide.round).run P w = .ok (w.heap.size + 1, [{ target := .collected w.heap.size, args := #[] }]) V := by
    rw [hV, hmk]; exact run_enterLoop_outer fn a.tmps ps assign body
  refine ⟨_, _, V, { target := .fn (.func gf) lb, args := #[.func (.yield (w.heap.size + 1)) #[] #[]] }, V, gf, #[.func (.yield (w.heap.size + 1)) #[] #[]] ++ lb, V, hin, ?_, fun _ _ => trivial, ?_, fun h => by simp [Fence.wide] at h, ?_⟩
  · simp only [resolve, hg]
    simp [go_sem]
  · simp [invoke, go_sem, eg]
  refine callsIn_wide.2 ((hH (w.heap.size + 1) (fun B pre W => I B pre W ∧ w.heap.size + 2 ≤ B ∧ B ≤ W.heap.size ∧ W.heap[w.heap.size + 1]? = some (.loop (mk .ready none)) ∧ W.heap[w.heap.size]? = some (.deferred (some [])))
    (fun B pre W => ∃ c, Ix c B pre W ∧ w.heap.size + 2 ≤ B ∧ B ≤ W.heap.size ∧ W.heap[w.heap.size + 1]? = some (.loop (mk .done (some c))) ∧ W.heap[w.heap.size]? = some (.deferred (some []))) V hVb (by omega) (by omega) ?_ ?_ ?_ ?_ ?_ ?_).mono ?_)
  · intro X hX
    have h1 := hX.size
    exact ⟨h0 X (hVb.trans (hX.mono (by omega))) (by omega), by omega, Nat.le_refl _, (hX.block _ (by omega)).trans hVl, (hX.block _ (by omega)).trans hVd⟩
  · rintro B pre X Y ⟨h1, h2, h3, h4, h5⟩ hb
    exact ⟨hIb _ _ _ _ h1 hb, h2, Nat.le_trans h3 hb.size, (hb.block _ (Array.getElem?_eq_some_iff.1 h4).1).trans h4, (hb.block _ (Array.getElem?_eq_some_iff.1 h5).1).trans h5⟩
  · rintro B pre X Y ⟨c, h1, h2, h3, h4, h5⟩ hb
    exact ⟨c, hXb _ _ _ _ _ h1 hb, h2, Nat.le_trans h3 hb.size, (hb.block _ (Array.getElem?_eq_some_iff.1 h4).1).trans h4, (hb.block _ (Array.getElem?_eq_some_iff.1 h5).1).trans h5⟩
  · rintro B pre X k o0 o hk hX hn ⟨h1, h2, h3, h4, h5⟩
    exact ⟨hIp _ _ _ _ _ _ (by omega) hX hn h1, h2, by simpa using h3, (World.putObj_heap_other (by omega)).trans h4, (World.putObj_heap_other (by omega)).trans h5⟩
  · rintro B pre X k o0 o hk hX hn ⟨c, h1, h2, h3, h4, h5⟩
    exact ⟨c, hXp _ _ _ _ _ _ _ (by omega) hX hn h1, h2, by simpa using h3, (World.putObj_heap_other (by omega)).trans h4, (World.putObj_heap_other (by omega)).trans h5⟩
  · rintro B pre x X0 hWB ⟨h10, hB2, hB3, h20, h30⟩ hR0
    have hlt0 : w.heap.size + 1 < X0.heap.size := (Array.getElem?_eq_some_iff.1 h20).1
    have hy := run_yield (P := P) (args := encs x) h20 (by rw [hmk]; exact hps x)
    rw [hmk] at hy
    refine ⟨fn, _, assign, body, hy, roundIn_of_wpIn hfn (hassign 0 _ x X0 _ (by omega) ?_)⟩
    intro X hX0 hA
    have h1 := hIb _ _ _ _ h10 hX0
    have h2 := (hX0.block _ (Array.getElem?_eq_some_iff.1 h20).1).trans h20
    have h3 := (hX0.block _ (Array.getElem?_eq_some_iff.1 h30).1).trans h30
    have hlt : w.heap.size + 1 < X.heap.size := (Array.getElem?_eq_some_iff.1 h2).1
    refine ⟨_, run_beginRound h2 (by rw [hmk]), ?_⟩
    obtain ⟨X1, hX1⟩ : ∃ X1, X1 = X.putObj (w.heap.size + 1) (.loop { mk .ready none with state := .busy }) := ⟨_, rfl⟩
    rw [← hX1]
    have g2 : X1.heap[w.heap.size + 1]? = some (.loop (mk .busy none)) := by rw [hX1, hmk]; exact World.putObj_heap_same hlt
    have g3 : X1.heap[w.heap.size]? = some (.deferred (some [])) := by rw [hX1]; exact (World.putObj_heap_other (by omega)).trans h3
    have gb1 : Chg (fun k => G k ∨ k = w.heap.size + 1 ∨ B ≤ k) X X1 := by rw [hX1]; exact chg_put (.inr (.inl rfl)) _
    have gk1 : KeepsFrom V.heap.size X X1 := by rw [hX1]; exact keeps_put (by omega) _
    have gb : Chg (fun k => G k ∨ k = w.heap.size + 1 ∨ B ≤ k) X0 X1 := (Chg.of_below hX0).trans gb1
    have gk : KeepsFrom V.heap.size X0 X1 := (keeps_below hX0).trans gk1
    refine wpIn_mono (hbody 0 _ B pre x X0.heap.size X1 (by omega) hB3 (by have := gb.size; omega) (by rw [hX1]; exact hIp _ _ _ _ _ _ (by omega) h2 rfl h1) hR0 (by rw [hX1]; exact hAp _ _ _ _ _ _ (by omega) h2 rfl hA)) ?_
    have hfin : ∀ X2, KeepsFrom w.heap.size X1 X2 → Chg (fun k => G k ∨ B ≤ k) X1 X2 → ∀ o, X2.heap[w.heap.size + 1]? = some (.loop (mk .busy none)) ∧ X2.heap[w.heap.size]? = some (.deferred (some [])) ∧
        Chg (fun k => G k ∨ k = w.heap.size + 1 ∨ B ≤ k) X0 (X2.putObj (w.heap.size + 1) o) ∧ KeepsFrom V.heap.size X0 (X2.putObj (w.heap.size + 1) o) ∧ B ≤ (X2.putObj (w.heap.size + 1) o).heap.size := by
      intro X2 k1 k2 o
      refine ⟨k1.same _ _ (by omega) g2 rfl, k1.same _ _ (Nat.le_refl _) g3 rfl, (gb.trans (k2.mono (fun i _ h => by rcases h with h | h; exact .inl h; exact .inr (.inr h)))).trans (chg_put (.inr (.inl rfl)) _), (gk.trans (keeps_mono k1 (by omega))).trans (keeps_put (by omega) _), ?_⟩
      have q1 := gb.size
      have q2 := k2.size
      have : (X2.putObj (w.heap.size + 1) o).heap.size = X2.heap.size := by simp
      omega
    rintro e a2 X2 hp
    cases e with
    | normal =>
      obtain ⟨k1, k2, k3⟩ := hp
      obtain ⟨q2, q3, q4, q5, q6⟩ := hfin X2 k1 k2 (.loop (mk .ready none))
      have hl2 : w.heap.size + 1 < X2.heap.size := (Array.getElem?_eq_some_iff.1 q2).1
      have hend := run_endRound (P := P) none q2
      rw [hmk] at hend q4 q5 q6
      refine ⟨_, _, hend, q4, q5, .inl ⟨rfl, hIp _ _ _ _ _ _ (by omega) q2 rfl k3, by omega, q6, ?_, ?_⟩⟩
      · rw [hmk]; exact World.putObj_heap_same hl2
      · exact (World.putObj_heap_other (by omega)).trans q3
    | exit id =>
      obtain ⟨k1, k2, k3⟩ := hp
      obtain ⟨q2, q3, q4, q5, q6⟩ := hfin X2 k1 k2 (.loop (mk .done (some (.exit id))))
      have hl2 : w.heap.size + 1 < X2.heap.size := (Array.getElem?_eq_some_iff.1 q2).1
      have hend := run_endRound (P := P) (some (.exit id)) q2
      rw [hmk] at hend q4 q5 q6
      refine ⟨_, _, hend, q4, q5, .inr ⟨rfl, .exit id, hXp _ _ _ _ _ _ _ (by omega) q2 rfl k3, by omega, q6, ?_, ?_⟩⟩
      · rw [hmk]; exact World.putObj_heap_same hl2
      · exact (World.putObj_heap_other (by omega)).trans q3
    | goto t => exact hp.elim
    | ret =>
      obtain ⟨k1, k2, k3⟩ := hp
      obtain ⟨q2, q3, q4, q5, q6⟩ := hfin X2 k1 k2 (.loop (mk .done (some .ret)))
      have hl2 : w.heap.size + 1 < X2.heap.size := (Array.getElem?_eq_some_iff.1 q2).1
      have hend := run_endRound (P := P) (some .ret) q2
      rw [hmk] at hend q4 q5 q6
      refine ⟨_, _, hend, q4, q5, .inr ⟨rfl, .ret, hXp _ _ _ _ _ _ _ (by omega) q2 rfl k3, by omega, q6, ?_, ?_⟩⟩
      · rw [hmk]; exact World.putObj_heap_same hl2
      · exact (World.putObj_heap_other (by omega)).trans q3
    | panic c => exact hp.elim
    | outgrown => exact hp.elim
  · rintro e Y ⟨⟨v, rfl⟩, ⟨B, xs, hS, h1, h2, h3, h4, h5⟩ | ⟨B, xs, c, h1, h2, h3, h4, h5⟩⟩
    · have hend := run_endLoop (P := P) h4 (by rw [hmk]; simp)
      have hpn : (mk .ready none).pending = none := by rw [hmk]
      rw [hpn] at hend
      exact ⟨none, _, hend, hdone _ B xs _ (Nat.le_refl _) (by omega) hS (hIp _ _ _ _ _ _ (by omega) h4 rfl h1) ((World.putObj_heap_other (by omega)).trans h5)⟩
    · have hend := run_endLoop (P := P) h4 (by rw [hmk]; simp)
      have hpn : (mk .done (some c)).pending = some c := by rw [hmk]
      rw [hpn] at hend
      exact ⟨some c, _, hend, hleft _ B c xs _ (Nat.le_refl _) (by omega) (hXp _ _ _ _ _ _ _ (by omega) h4 rfl h1) ((World.putObj_heap_other (by omega)).trans h5)⟩
end Go.Proofs.YtcicekggeampcaaGreat

/-
  Regions that draw their order inside a round of a range over a function.
-/
namespace Go.Proofs.YtcicekggeampcaaGreat
open Go.RowKit Go.Shelf
/-- Whatever order is drawn. -/
def RegAny (P : Program) (ops : Array Oper) (Q : Exit → Act → World → Prop) (a : Act) (w : World) : Prop := wpAny P .any ops Q ops.size (Array.replicate ops.size false) a { w with drawn := w.drawn + 1 }
def noDefer (ops : Array Oper) : Bool := ops.all fun o => match o.op with | .defer _ => false | _ => true
theorem op_in {P : Program} {n l : Nat} {o : Oper} {a : Act} {w : World} {K : Act → World → Prop} {Q : Exit → Act → World → Prop} (hd : ∀ c, o.op ≠ .defer c) (h : o.wp P a w K Q) : o.wpIn (Fence.wide.inRound l) n P a w K Q := by
  refine ⟨fun _ _ => trivial, ?_⟩
  unfold Oper.wp at h
  rw [Oper.semAt_eq _ _ _ hd]
  cases hr : (execOp a.eval o).run P w with
  | ok x w' =>
    rw [hr] at h
    cases x with
    | value v => exact h
    | skip => exact h
    | defer d => exact h
    | enter f args => exact ⟨fun h => by simp [Fence.wide] at h, callsIn_wide.2 h⟩
    | row r args =>
      refine ⟨fun h => by simp [Fence.wide] at h, fun c cs _ => ?_⟩
      obtain ⟨v, w2, h1, h2⟩ := h c cs
      exact ⟨v, w2, h1, stepsIn_wide.2 h2⟩
    | _ => exact False.elim h
  | halt x w' =>
    rw [hr] at h
    cases x with
    | panic v => exact h
    | _ => exact False.elim h
theorem any_in {P : Program} {n l : Nat} {ops : Array Oper} {Q : Exit → Act → World → Prop} (hd : noDefer ops = true) (hQ : ¬ LetsOut Q) : ∀ (fuel : Nat) (listed : Array Bool) (a : Act) (w : World), wpAny P .any ops Q fuel listed a w → wpAnyIn (Fence.wide.inRound l) n P .any ops Q fuel listed a w
  | 0, _, _, _, h => h
  | fuel + 1, listed, a, w, h => by
    refine ⟨h.1, fun i hi => ?_⟩
    have := h.2 i hi
    unfold wpOp at this
    unfold wpOpIn
    cases ho : ops[i]? with
    | none => rw [ho] at this; exact any_in hd hQ fuel _ _ _ this
    | some o =>
      rw [ho] at this
      simp only at this ⊢
      have hno : ∀ c, o.op ≠ .defer c := fun c e => by
        have hm : o ∈ ops := Array.mem_of_getElem? ho
        have := (Array.all_eq_true_iff_forall_mem.1 hd) o hm
        rw [e] at this
        cases this
      cases hw : Region.wanted o (yielded ops a.tmps) with
      | true =>
        rw [hw, if_pos rfl] at this
        rw [if_pos rfl]
        rcases this with h1 | h1
        · exact op_in hno (Oper.wp_mono (fun a' w' h' => any_in hd hQ fuel _ _ _ h') h1)
        · exact absurd h1.2 hQ
      | false =>
        rw [hw, if_neg (by simp)] at this
        rw [if_neg (by simp)]
        exact ⟨fun _ _ => trivial, any_in hd hQ fuel _ _ _ this⟩
theorem region_in {P : Program} {n l id : Nat} {ops : Array Oper} {Q : Exit → Act → World → Prop} {a : Act} {w : World} (hm : P.follows .mixedOrders = true) (hd : noDefer ops = true) (hQ : ¬ LetsOut Q) (h : RegAny P ops Q a w) : (Code.region id ops true).wpIn (Fence.wide.inRound l) n P Q a w :=
  wpIn_region_any hm (any_in hd hQ _ _ _ _ h)
theorem J_any {P : Program} {ops : Array Oper} {Q : Exit → Act → World → Prop} {a0 : Act} {w : World} (J : (Nat → Bool) → Act → World → Prop)
    (n : Nat) (hn : a0.tmps.size = n) (hf : formB ops n = true) (h0 : ∀ w', w'.heap = w.heap → Gr w w' → J (fun _ => false) a0 w')
    (hstep : ∀ (i : Nat) (o : Oper), ops[i]? = some o → ∀ (l : Nat → Bool) a w, J l a w → a.tmps.size = n → a.defers = a0.defers → Kept ops a0 a → l i = false → waitsB o l = true →
      o.guard = none ∧ o.wp P a w (fun a' w' => ∃ v, a' = a.put o.dst v ∧ J (fun k => l k || k == i) a' w') Q)
    (hQ : ∀ (l : Nat → Bool) a w, (∀ i, i < ops.size → l i = true) → J l a w → a.tmps.size = n → a.defers = a0.defers → Kept ops a0 a → Q .normal a w) : RegAny P ops Q a0 w := by
  subst hn
  refine wpAny_J J hf hstep hQ ops.size _ a0 _ ?_ (by simp) rfl rfl (fun _ _ => rfl) ?_
  · simp [List.countP_replicate]
  · have e : (fun i => (Array.replicate ops.size false).getD i false) = fun _ => false := by
      funext i
      by_cases hi : i < ops.size
      · simp [hi]
      · simp [hi]
    rw [e]
    exact h0 _ rfl ⟨rfl, rfl, rfl, Nat.le_refl _, fun _ _ => rfl⟩
theorem inv_any {P : Program} {ops : Array Oper} {Q : Exit → Act → World → Prop} {a0 : Act} {w : World} (S : Nat → World → Value → Prop)
    (n : Nat) (hn : a0.tmps.size = n) (hf : formB ops n = true) (hmono : ∀ i w w' x, Gr w w' → S i w x → S i w' x)
    (hstep : AllFrom (fun i o => ∀ a w', Gr w w' → Kept ops a0 a → Deps ops S a w' o.after.toList → StepOk P ops S i o a w') 0 ops.toList)
    (hQ : ∀ a w', a.tmps.size = a0.tmps.size → a.defers = a0.defers → Kept ops a0 a →
      (∀ (i : Nat) (o : Oper) (d : Nat), ops[i]? = some o → o.dst = some d → S i w' (a.eval (.tmp d))) → Gr w w' → Q .normal a w') : RegAny P ops Q a0 w := by
  subst hn
  refine wpAny_inv hf hmono hstep hQ ops.size _ a0 _ ?_ ⟨by simp, rfl, rfl, fun _ _ => rfl, fun i o d ho hl _ => ?_, ?_⟩
  · simp [List.countP_replicate]
  · have hlt : i < ops.size := (Array.getElem?_eq_some_iff.1 ho).1
    simp [hlt] at hl
  · exact ⟨rfl, rfl, rfl, Nat.le_refl _, fun _ _ => rfl⟩
theorem tails_any {P : Program} {ops : Array Oper} {Q : Exit → Act → World → Prop} {a0 : Act} {w : World} (S : Nat → World → Value → Prop)
    (n : Nat) (hn : a0.tmps.size = n) (hf : formB ops n = true) (k : Nat) (hk0 : k < ops.size) (hlb : tailsB ops k = true) (hmono : ∀ i w w' x, Gr w w' → S i w x → S i w' x)
    (hstep : AllFrom (fun i o => o.guard = none ∧ ∀ a w', Gr w w' → Kept ops a0 a → Deps ops S a w' o.after.toList → ∀ Q, o.wp P a w' (fun a' w'' => ∃ v, a' = a.put o.dst v ∧ S i w'' v ∧ Gr w' w'') Q) 0 (ops.toList.take k))
    (hQ : ∀ a w', a.tmps.size = a0.tmps.size → a.defers = a0.defers → Kept ops a0 a →
      (∀ (i : Nat) (o : Oper) (d : Nat), i < k → ops[i]? = some o → o.dst = some d → S i w' (a.eval (.tmp d))) → Gr w w' → wpSeq P Q (ops.toList.drop k) a w') : RegAny P ops Q a0 w := by
  subst hn
  have hdrop : ∀ {i : Nat} {o : Oper}, ops[i]? = some o → ops.toList.drop i = o :: ops.toList.drop (i + 1) := by
    intro i o ho
    have hi : i < ops.toList.length := by have := (Array.getElem?_eq_some_iff.1 ho).1; simpa using this
    rw [List.drop_eq_getElem_cons hi]
    congr 1
    have : ops.toList[i]? = some o := by simpa using ho
    rw [List.getElem?_eq_getElem hi] at this
    exact Option.some.inj this
  refine J_any (TJ P ops S Q k w) a0.tmps.size rfl hf ?_ ?_ ?_
  · intro w' _ hg
    exact ⟨fun i o _ hl => by simp at hl, fun _ => ⟨fun i o d _ hl => by simp at hl, hg⟩, fun ⟨i, _, _, hl⟩ => by simp at hl⟩
  · intro i o ho l a w1 hJ hsz hdf hkp hli hwt
    have hi : i < ops.size := (Array.getElem?_eq_some_iff.1 ho).1
    by_cases hr : ∃ j, k ≤ j ∧ j < ops.size ∧ l j = true
    · obtain ⟨m, hkm, hms, hdone, hnot, hseq⟩ := hJ.right hr
      have him : m ≤ i := Nat.le_of_not_lt fun h => by rw [hdone i h] at hli; cases hli
      have hall := tailsB_at hJ.closed hlb ho (by omega) hwt
      obtain rfl : i = m := by
        rcases Nat.lt_or_ge m i with h | h
        · have := hall m h
          rw [hnot m (Nat.le_refl _) (by omega)] at this
          cases this
        · omega
      rw [hdrop ho] at hseq
      refine ⟨hseq.1, Oper.wp_mono ?_ hseq.2⟩
      rintro a' w' ⟨v, rfl, hs⟩
      refine ⟨v, rfl, hJ.closed.step ho hwt, fun h => ?_, fun _ => ⟨i + 1, by omega, by omega, fun j hj => ?_, fun j h1 h2 => ?_, hs⟩⟩
      · have := h i (by omega) hi
        simp at this
      · rcases Nat.lt_or_ge j i with h | h
        · simp [hdone j h]
        · obtain rfl : j = i := by omega
          simp
      · have : (j == i) = false := by simp; omega
        simp [hnot j (by omega) h2, this]
    · have hno : ∀ j, k ≤ j → j < ops.size → l j = false := fun j h1 h2 => by
        cases hl : l j with
        | false => rfl
        | true => exact absurd ⟨j, h1, h2, hl⟩ hr
      obtain ⟨hS, hg⟩ := hJ.left hno
      by_cases hik : i < k
      · have hst := AllFrom.at (i := i) hstep (by rw [List.getElem?_take_of_lt hik]; simpa using ho)
        rw [Nat.zero_add] at hst
        refine ⟨hst.1, Oper.wp_mono ?_ (hst.2 a w1 hg hkp (Deps.of fun e he hb o' ho' d' hd' => hS e.on o' d' ho' (waitsB_at hwt e.on (by
          rw [Array.any_eq_true']
          exact ⟨e, by simpa using he, by simp [hb]⟩)) hd') Q)⟩
        rintro a' w' ⟨v, rfl, hv, hgr⟩
        refine ⟨v, rfl, hJ.closed.step ho hwt, fun _ => ⟨fun j oj d hj hl hd => ?_, hg.trans hgr⟩, fun ⟨j, h1, h2, h3⟩ => ?_⟩
        · by_cases hij : i = j
          · subst hij
            rw [ho] at hj
            simp only [Option.some.injEq] at hj
            subst hj
            rw [hd, eval_put_same (by rw [hsz]; exact ((formB_spec hf ho).2 d hd).1)]
            exact hv
          · rw [eval_put_other (fun e => hij (formB_ne hf ho hj e hd))]
            refine hmono j w1 w' _ hgr (hS j oj d hj ?_ hd)
            have : (j == i) = false := by simp; omega
            simpa [this] using hl
        · have : (j == i) = false := by simp; omega
          rw [hno j h1 h2, this] at h3
          cases h3
      · have hall := tailsB_at hJ.closed hlb ho (by omega) hwt
        obtain rfl : i = k := by
          rcases Nat.lt_or_ge k i with h | h
          · have := hall k h
            rw [hno k (Nat.le_refl _) (by omega)] at this
            cases this
          · omega
        have hseq := hQ a w1 hsz hdf hkp (fun j o' d h1 h2 h3 => hS j o' d h2 (hall j h1) h3) hg
        rw [hdrop ho] at hseq
        refine ⟨hseq.1, Oper.wp_mono ?_ hseq.2⟩
        rintro a' w' ⟨v, rfl, hs⟩
        refine ⟨v, rfl, hJ.closed.step ho hwt, fun h => ?_, fun _ => ⟨i + 1, by omega, by omega, fun j hj => ?_, fun j h1 h2 => ?_, hs⟩⟩
        · have := h i (by omega) hi
          simp at this
        · rcases Nat.lt_or_ge j i with h | h
          · simp [hall j h]
          · obtain rfl : j = i := by omega
            simp
        · have : (j == i) = false := by simp; omega
          simp [hno j (by omega) h2, this]
  · intro l a w1 hall hJ _ _ _
    obtain ⟨m, hkm, hms, _, hnot, hseq⟩ := hJ.right ⟨k, Nat.le_refl _, hk0, hall k hk0⟩
    obtain rfl : m = ops.size := by
      rcases Nat.lt_or_ge m ops.size with h | h
      · have := hnot m (Nat.le_refl _) h
        rw [hall m h] at this
        cases this
      · omega
    rw [List.drop_of_length_le (by simp)] at hseq
    exact hseq
/-- One behind the other, inside a fence. -/
def wpSeqIn (F : Fence) (n0 : Nat) (P : Program) (Q : Exit → Act → World → Prop) : List Oper → Act → World → Prop
  | [], a, w => Q .normal a w
  | o :: r, a, w => o.guard = none ∧ o.wpIn F n0 P a w (fun a' w' => ∃ v, a' = a.put o.dst v ∧ wpSeqIn F n0 P Q r a' w') Q
structure TJin (F : Fence) (n0 : Nat) (P : Program) (ops : Array Oper) (S : Nat → World → Value → Prop) (Q : Exit → Act → World → Prop) (k : Nat) (w0 : World) (l : Nat → Bool) (a : Act) (w : World) : Prop where
  closed : Closed ops l
  left : (∀ i, k ≤ i → i < ops.size → l i = false) → (∀ (i : Nat) (o : Oper) (d : Nat), ops[i]? = some o → l i = true → o.dst = some d → S i w (a.eval (.tmp d))) ∧ Gr w0 w
  right : (∃ i, k ≤ i ∧ i < ops.size ∧ l i = true) → ∃ m, k < m ∧ m ≤ ops.size ∧ (∀ i, i < m → l i = true) ∧ (∀ i, m ≤ i → i < ops.size → l i = false) ∧ wpSeqIn F n0 P Q (ops.toList.drop m) a w
end Go.Proofs.YtcicekggeampcaaGreat

/-
  A region that draws its order, whose last operations wait for all ahead of them, and write to what is read ahead of them: one step an operation for those ahead, then one behind the other.
-/
namespace Go.Proofs.YtcicekggeampcaaGreat
open Go.RowKit
/-- What no operation ahead of number k writes is as it was. -/
def KeptK (ops : Array Oper) (k : Nat) (a0 a : Act) : Prop := ∀ t : Nat, (∀ (i : Nat) (o : Oper), i < k → ops[i]? = some o → o.dst ≠ some t) → a.eval (.tmp t) = a0.eval (.tmp t)
def freeK (ops : Array Oper) (k t : Nat) : Bool := (ops.toList.take k).all fun o => o.dst != some t
theorem KeptK.at {ops : Array Oper} {k : Nat} {a0 a : Act} (h : KeptK ops k a0 a) (t : Nat) (hb : freeK ops k t = true) : a.eval (.tmp t) = a0.eval (.tmp t) :=
  h t fun i o hi ho => by
    have hm : o ∈ ops.toList.take k := List.mem_of_getElem? (i := i) (by rw [List.getElem?_take_of_lt hi]; simpa using ho)
    have := (List.all_eq_true.1 hb) o hm
    simpa using this
theorem KeptK.all {ops : Array Oper} {k : Nat} {a0 a : Act} (h : KeptK ops k a0 a) : Kept ops a0 a := fun t ht => h t (fun i o _ ho => ht i o ho)
structure TJ9 (P : Program) (ops : Array Oper) (S : Nat → World → Value → Prop) (Q : Exit → Act → World → Prop) (k : Nat) (a0 : Act) (w0 : World) (l : Nat → Bool) (a : Act) (w : World) : Prop where
  closed : Closed ops l
  left : (∀ i, k ≤ i → i < ops.size → l i = false) → (∀ (i : Nat) (o : Oper) (d : Nat), ops[i]? = some o → l i = true → o.dst = some d → S i w (a.eval (.tmp d))) ∧ Gr w0 w ∧ KeptK ops k a0 a
  right : (∃ i, k ≤ i ∧ i < ops.size ∧ l i = true) → ∃ m, k < m ∧ m ≤ ops.size ∧ (∀ i, i < m → l i = true) ∧ (∀ i, m ≤ i → i < ops.size → l i = false) ∧ wpSeq P Q (ops.toList.drop m) a w
end Go.Proofs.YtcicekggeampcaaGreat

/-
  Regions that draw their order, by whatever law of what is kept: in a walk, or in one inside a fence: variables made in it; stores one behind the other with reads between them.
-/
namespace Go.Proofs.YtcicekggeampcaaGreat
open Go.RowKit
/-- Whatever is kept of what is done so far leads there. -/
def JLaw (P : Program) (ops : Array Oper) (Q : Exit → Act → World → Prop) (a0 : Act) (w : World) (concl : Prop) : Prop :=
  ∀ (J : (Nat → Bool) → Act → World → Prop) (n : Nat), a0.tmps.size = n → formB ops n = true → (∀ w', w'.heap = w.heap → Gr w w' → J (fun _ => false) a0 w') →
    (∀ (i : Nat) (o : Oper), ops[i]? = some o → ∀ (l : Nat → Bool) a w, J l a w → a.tmps.size = n → a.defers = a0.defers → Kept ops a0 a → l i = false → waitsB o l = true →
      o.guard = none ∧ o.wp P a w (fun a' w' => ∃ v, a' = a.put o.dst v ∧ J (fun k => l k || k == i) a' w') Q) →
    (∀ (l : Nat → Bool) a w, (∀ i, i < ops.size → l i = true) → J l a w → a.tmps.size = n → a.defers = a0.defers → Kept ops a0 a → Q .normal a w) → concl
theorem jl_wp {P : Program} {id : Nat} {ops : Array Oper} {Q : Exit → Act → World → Prop} {a0 : Act} {w : World} (hm : P.follows .mixedOrders = true) : JLaw P ops Q a0 w ((Code.region id ops true).wp P Q a0 w) :=
  fun J n hn hf h0 hs hq => wp_region_J hm J n hn hf h0 hs hq
/-- Are the first b of ps done, and no others? -/
structure PJ11 (P : Program) (ops : Array Oper) (V : Nat → Value) (C : Nat → World → Prop) (Q : Exit → Act → World → Prop) (ps : List Nat) (k : Nat) (a0 : Act) (l : Nat → Bool) (a : Act) (w : World) : Prop where
  closed : Closed ops l
  left : (∀ i, k ≤ i → i < ops.size → l i = false) → (∀ (i : Nat) (o : Oper) (d : Nat), ops[i]? = some o → l i = true → o.dst = some d → a.eval (.tmp d) = V i) ∧ KeptK ops k a0 a ∧ ∃ b, b ≤ ps.length ∧ (∀ (j p : Nat), ps[j]? = some p → (l p = true ↔ j < b)) ∧ C b w
  right : (∃ i, k ≤ i ∧ i < ops.size ∧ l i = true) → ∃ m, k < m ∧ m ≤ ops.size ∧ (∀ i, i < m → l i = true) ∧ (∀ i, m ≤ i → i < ops.size → l i = false) ∧ wpSeq P Q (ops.toList.drop m) a w
/-- Does each of them wait for the one ahead of it? -/
def chainB (ops : Array Oper) : List Nat → Bool
  | p :: q :: r => (match ops[q]? with | some o => o.after.any (fun e => Region.binds .any e && e.on == p) | none => false) && chainB ops (q :: r)
  | _ => true
theorem chain_at {ops : Array Oper} : ∀ {ps : List Nat} (_ : chainB ops ps = true) {j p q : Nat} (_ : ps[j]? = some p) (_ : ps[j + 1]? = some q) {o : Oper} (_ : ops[q]? = some o) {l : Nat → Bool} (_ : waitsB o l = true), l p = true
  | x :: y :: r, h, 0, p, q, hp, hq, o, ho, l, hw => by
    simp only [List.getElem?_cons_zero, Option.some.injEq] at hp
    simp only [Nat.zero_add, List.getElem?_cons_succ, List.getElem?_cons_zero, Option.some.injEq] at hq
    subst hp hq
    unfold chainB at h
    rw [Bool.and_eq_true, ho] at h
    exact waitsB_at hw x h.1
  | x :: y :: r, h, j + 1, p, q, hp, hq, o, ho, l, hw => by
    unfold chainB at h
    rw [Bool.and_eq_true] at h
    exact chain_at h.2 (j := j) (by simpa using hp) (by simpa using hq) ho hw
  | [x], h, j, p, q, hp, hq, o, ho, l, hw => by simp at hq
  | [], h, j, p, q, hp, hq, o, ho, l, hw => by simp at hp
/-- **STORES ONE BEHIND THE OTHER, WITH READS BETWEEN THEM THAT DO NOT SEE THEM**, by whatever law. -/
theorem pivots_by {P : Program} {concl : Prop} {ops : Array Oper} {Q : Exit → Act → World → Prop} {a0 : Act} {w : World} (hJ : JLaw P ops Q a0 w concl) (V : Nat → Value) (C : Nat → World → Prop) (ps : List Nat)
    (n : Nat) (hn : a0.tmps.size = n) (hf : formB ops n = true) (k : Nat) (hk0 : k < ops.size) (hpk : ∀ p ∈ ps, p < k) (hnd : ps.Nodup) (hch : chainB ops ps = true) (hlb : tailsB ops k = true) (h0 : ∀ w', w'.heap = w.heap → Gr w w' → C 0 w')
    (hstep : AllFrom (fun i o => o.guard = none ∧ (i ∉ ps → ∀ a b w', C b w' → KeptK ops k a0 a → (∀ j d, depB ops o.after j d = true → a.eval (.tmp d) = V j) → ∀ Q, o.wp P a w' (fun a' w'' => a' = a.put o.dst (V i) ∧ C b w'') Q) ∧
      (∀ j, ps[j]? = some i → o.dst = none ∧ ∀ a w', C j w' → KeptK ops k a0 a → (∀ j d, depB ops o.after j d = true → a.eval (.tmp d) = V j) → ∀ Q, o.wp P a w' (fun a' w'' => a' = a.put o.dst undef ∧ C (j + 1) w'') Q)) 0 (ops.toList.take k))
    (hQ : ∀ a w', a.tmps.size = a0.tmps.size → a.defers = a0.defers → KeptK ops k a0 a →
      (∀ (i : Nat) (o : Oper) (d : Nat), i < k → ops[i]? = some o → o.dst = some d → a.eval (.tmp d) = V i) → C ps.length w' → wpSeq P Q (ops.toList.drop k) a w') : concl := by
  subst hn
  have hdrop : ∀ {i : Nat} {o : Oper}, ops[i]? = some o → ops.toList.drop i = o :: ops.toList.drop (i + 1) := by
    intro i o ho
    have hi : i < ops.toList.length := by have := (Array.getElem?_eq_some_iff.1 ho).1; simpa using this
    rw [List.drop_eq_getElem_cons hi]
    congr 1
    have : ops.toList[i]? = some o := by simpa using ho
    rw [List.getElem?_eq_getElem hi] at this
    exact Option.some.inj this
  refine hJ (PJ11 P ops V C Q ps k a0) a0.tmps.size rfl hf ?_ ?_ ?_
  · intro w' hh hg
    exact ⟨fun i o _ hl => by simp at hl, fun _ => ⟨fun i o d _ hl => by simp at hl, fun _ _ => rfl, 0, Nat.zero_le _, fun j p _ => by simp, h0 w' hh hg⟩, fun ⟨i, _, _, hl⟩ => by simp at hl⟩
  · intro i o ho l a w1 hJJ hsz hdf hkp hli hwt
    have hi : i < ops.size := (Array.getElem?_eq_some_iff.1 ho).1
    by_cases hr : ∃ j, k ≤ j ∧ j < ops.size ∧ l j = true
    · obtain ⟨m, hkm, hms, hdone, hnot, hseq⟩ := hJJ.right hr
      have him : m ≤ i := Nat.le_of_not_lt fun h => by rw [hdone i h] at hli; cases hli
      have hall := tailsB_at hJJ.closed hlb ho (by omega) hwt
      obtain rfl : i = m := by
        rcases Nat.lt_or_ge m i with h | h
        · have := hall m h
          rw [hnot m (Nat.le_refl _) (by omega)] at this
          cases this
        · omega
      rw [hdrop ho] at hseq
      refine ⟨hseq.1, Oper.wp_mono ?_ hseq.2⟩
      rintro a' w' ⟨v, rfl, hs⟩
      refine ⟨v, rfl, hJJ.closed.step ho hwt, fun h => ?_, fun _ => ⟨i + 1, by omega, by omega, fun j hj => ?_, fun j h1 h2 => ?_, hs⟩⟩
      · have := h i (by omega) hi
        simp at this
      · rcases Nat.lt_or_ge j i with h | h
        · simp [hdone j h]
        · obtain rfl : j = i := by omega
          simp
      · have : (j == i) = false := by simp; omega
        simp [hnot j (by omega) h2, this]
    · have hno : ∀ j, k ≤ j → j < ops.size → l j = false := fun j h1 h2 => by
        cases hl : l j with
        | false => rfl
        | true => exact absurd ⟨j, h1, h2, hl⟩ hr
      obtain ⟨hS, hkk, b, hbl, hbp, hg⟩ := hJJ.left hno
      by_cases hik : i < k
      · have hst := AllFrom.at (i := i) hstep (by rw [List.getElem?_take_of_lt hik]; simpa using ho)
        rw [Nat.zero_add] at hst
        have hdeps : ∀ j d, depB ops o.after j d = true → a.eval (.tmp d) = V j := by
          intro j d hdb
          unfold depB at hdb
          simp only [Bool.and_eq_true, beq_iff_eq] at hdb
          obtain ⟨h1, h2⟩ := hdb
          cases hoj : ops[j]? with
          | none => rw [hoj] at h2; cases h2
          | some oj =>
            rw [hoj] at h2
            exact hS j oj d hoj (waitsB_at hwt j h1) (by simpa using h2)
        have hkk' : ∀ v, KeptK ops k a0 (a.put o.dst v) := fun v t ht => (eval_put_other (fun e => ht i o hik ho e)).trans (hkk t ht)
        by_cases hip : i ∈ ps
        · obtain ⟨j, hj⟩ := List.getElem?_of_mem hip
          obtain ⟨hdn, hw⟩ := hst.2.2 j hj
          have hjb : j = b := by
            have h1 : ¬ j < b := fun h => by rw [(hbp j i hj).2 h] at hli; cases hli
            have h2 : ¬ b < j := fun h => by
              obtain ⟨m, rfl⟩ : ∃ m, j = m + 1 := ⟨j - 1, by omega⟩
              have hlt : m < ps.length := by have := (List.getElem?_eq_some_iff.1 hj).1; omega
              have hm := chain_at hch (List.getElem?_eq_getElem hlt) hj ho hwt
              have := (hbp m _ (List.getElem?_eq_getElem hlt)).1 hm
              omega
            omega
          subst hjb
          refine ⟨hst.1, Oper.wp_mono ?_ (hw a w1 hg hkk hdeps Q)⟩
          rintro a' w' ⟨rfl, hc⟩
          refine ⟨undef, rfl, hJJ.closed.step ho hwt, fun _ => ⟨fun j' oj d hj' hl hd => ?_, hkk' _, j + 1, (List.getElem?_eq_some_iff.1 hj).1, fun j' p' hp' => ?_, hc⟩, fun ⟨j', h1, h2, h3⟩ => ?_⟩
          · by_cases hij : i = j'
            · subst hij
              rw [ho] at hj'
              simp only [Option.some.injEq] at hj'
              subst hj'
              rw [hdn] at hd
              cases hd
            · rw [hdn, eval_put_other (by simp)]
              refine hS j' oj d hj' ?_ hd
              have : (j' == i) = false := by simp; omega
              simpa [this] using hl
          · by_cases hpi : p' = i
            · subst hpi
              have hjj : j' = j := (List.getElem?_inj (List.getElem?_eq_some_iff.1 hp').1 hnd).1 (hp'.trans hj.symm)
              subst hjj
              simp
            · have hne : j' ≠ j := fun e => hpi (by rw [e, hj] at hp'; exact (Option.some.inj hp').symm)
              have : (p' == i) = false := by simp [hpi]
              rw [this, Bool.or_false, hbp j' p' hp']
              omega
          · have : (j' == i) = false := by simp; omega
            rw [hno j' h1 h2, this] at h3
            cases h3
        · refine ⟨hst.1, Oper.wp_mono ?_ (hst.2.1 hip a b w1 hg hkk hdeps Q)⟩
          rintro a' w' ⟨rfl, hc⟩
          refine ⟨V i, rfl, hJJ.closed.step ho hwt, fun _ => ⟨fun j oj d hj hl hd => ?_, hkk' _, b, hbl, fun j' p' hp' => ?_, hc⟩, fun ⟨j, h1, h2, h3⟩ => ?_⟩
          · by_cases hij : i = j
            · subst hij
              rw [ho] at hj
              simp only [Option.some.injEq] at hj
              subst hj
              rw [hd, eval_put_same (by rw [hsz]; exact ((formB_spec hf ho).2 d hd).1)]
            · rw [eval_put_other (fun e => hij (formB_ne hf ho hj e hd))]
              refine hS j oj d hj ?_ hd
              have : (j == i) = false := by simp; omega
              simpa [this] using hl
          · have hpi : p' ≠ i := fun e => hip (e ▸ List.mem_of_getElem? hp')
            have : (p' == i) = false := by simp [hpi]
            rw [this, Bool.or_false]
            exact hbp j' p' hp'
          · have : (j == i) = false := by simp; omega
            rw [hno j h1 h2, this] at h3
            cases h3
      · have hall := tailsB_at hJJ.closed hlb ho (by omega) hwt
        obtain rfl : i = k := by
          rcases Nat.lt_or_ge k i with h | h
          · have := hall k h
            rw [hno k (Nat.le_refl _) (by omega)] at this
            cases this
          · omega
        have hbe : b = ps.length := by
          rcases Nat.lt_or_ge b ps.length with h | h
          · have := (hbp b _ (List.getElem?_eq_getElem h)).1 (hall _ (hpk _ (List.getElem_mem h)))
            omega
          · omega
        rw [hbe] at hg
        have hseq := hQ a w1 hsz hdf hkk (fun j o' d h1 h2 h3 => hS j o' d h2 (hall j h1) h3) hg
        rw [hdrop ho] at hseq
        refine ⟨hseq.1, Oper.wp_mono ?_ hseq.2⟩
        rintro a' w' ⟨v, rfl, hs⟩
        refine ⟨v, rfl, hJJ.closed.step ho hwt, fun h => ?_, fun _ => ⟨i + 1, by omega, by omega, fun j hj => ?_, fun j h1 h2 => ?_, hs⟩⟩
        · have := h i (by omega) hi
          simp at this
        · rcases Nat.lt_or_ge j i with h | h
          · simp [hall j h]
          · obtain rfl : j = i := by omega
            simp
        · have : (j == i) = false := by simp; omega
          simp [hno j (by omega) h2, this]
  · intro l a w1 hall hJJ _ _ _
    obtain ⟨m, hkm, hms, _, hnot, hseq⟩ := hJJ.right ⟨k, Nat.le_refl _, hk0, hall k hk0⟩
    obtain rfl : m = ops.size := by
      rcases Nat.lt_or_ge m ops.size with h | h
      · have := hnot m (Nat.le_refl _) h
        rw [hall m h] at this
        cases this
      · omega
    rw [List.drop_of_length_le (by simp)] at hseq
    exact hseq
end Go.Proofs.YtcicekggeampcaaGreat
