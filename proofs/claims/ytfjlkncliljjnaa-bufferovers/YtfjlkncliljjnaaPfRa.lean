/-
  A range over a function that itself ranges over a function: what such a function may count on, and the law of a loop over it.
-/
import Derived.RangeFuncNested
import Derived.RangeFuncLeaves
import Derived.RangeFuncBound
import Derived.RangeFuncCalls
import Derived.Shelf.Abstract
import Derived.Shelf.RegionOpen
import Derived.WalkKit
import Derived.OwnWalkIn
import Derived.TacticsInMore
import Derived.LoopNIn
import Derived.LoopIn
import Derived.Test.YtfjlkncliljjnaaBfK
import Derived.Test.YtfjlkncliljjnaaRegion6
namespace Go.Proofs.Ytfjlkncliljjnaa
open Go.RowKit Go.Shelf
/-- A round may be called from whatever depth. -/
theorem round_wide {n m l f l' : Nat} {P : Program} {tmps : Array Value} {assign body : Code} {w : World} {R : Ending → World → Prop} (h : RoundIn Fence.wide n P l f tmps assign body w R) : RoundIn (Fence.wide.inRound l') m P l f tmps assign body w R :=
  ⟨h.1, fun c cs _ => h.2 c cs (room_wide _)⟩
theorem round_any {n m l f : Nat} {P : Program} {tmps : Array Value} {assign body : Code} {w : World} {R : Ending → World → Prop} (h : RoundIn Fence.wide n P l f tmps assign body w R) : RoundIn Fence.wide m P l f tmps assign body w R :=
  ⟨h.1, fun c cs _ => h.2 c cs (room_wide _)⟩
theorem keeps_below {B : Nat} {W W' : World} (h : Below W.heap.size W W') : KeepsFrom B W W' :=
  ⟨h.size, fun k _ _ hk _ => (h.block k (Array.getElem?_eq_some_iff.1 hk).1).trans hk⟩
theorem keeps_put {B l : Nat} {W : World} (hl : l < B) (o : Obj) : KeepsFrom B W (W.putObj l o) :=
  ⟨by simp, fun k _ hB hk _ => (World.putObj_heap_other (by omega)).trans hk⟩
theorem keeps_mono {B B' : Nat} {W W' : World} (h : KeepsFrom B W W') (hB : B ≤ B') : KeepsFrom B' W W' := ⟨h.size, fun k o hk => h.same k o (by omega)⟩
theorem keeps_chg {F : Nat → Prop} {W W' : World} {B : Nat} (h : Chg F W W') (hF : ∀ k o, F k → W.heap[k]? = some o → o.isCells = true) : KeepsFrom B W W' :=
  ⟨h.size, fun k o _ hk ho => by
    have hlt : k < W.heap.size := (Array.getElem?_eq_some_iff.1 hk).1
    rw [h.block k hlt (fun hf => by rw [hF k o hf hk] at ho; cases ho)]
    exact hk⟩
theorem chg_put {W : World} {G : Nat → Prop} {l : Nat} (h : G l) (o : Obj) : Chg G W (W.putObj l o) :=
  ⟨rfl, rfl, rfl, by simp, fun k _ hk => World.putObj_heap_other (fun e => hk (e ▸ h))⟩
/-- What lies in a block of cells is not touched where a loop's record is. -/
theorem Blk.put10 {W : World} {b l : Nat} {T : TypeId} {cs : List Value} {o0 o : Obj} (h : Blk W b T cs) (hl : W.heap[l]? = some o0) (hn : o0.isCells = false) : Blk (W.putObj l o) b T cs := by
  have hne : b ≠ l := fun e => by
    subst e
    have := h.symm.trans hl
    simp only [Option.some.injEq] at this
    subst this
    cases hn
  exact (World.putObj_heap_other hne).trans h
/-- How a round is left: what is no cells and lies from B0 on is as it was, only blocks of G have turned, and I holds, or Ix of the jump. -/
def roundEnds4 (B0 : Nat) (G : Nat → Prop) (I : World → Prop) (Ix : Code → World → Prop) (W : World) : Exit → Act → World → Prop
  | .normal, _, W' => KeepsFrom B0 W W' ∧ Chg G W W' ∧ I W'
  | .exit id, _, W' => KeepsFrom B0 W W' ∧ Chg G W W' ∧ Ix (.exit id) W'
  | .ret, _, W' => KeepsFrom B0 W W' ∧ Chg G W W' ∧ Ix .ret W'
  | _, _, _ => False
/-- What a function that is ranged over does with whatever rounds it is handed: the rounds change blocks of G, the loop's record, and what is new since it handed out the first one. -/
def Hands3 {α : Type} (P : Program) (gf : Nat) (lb : Array Value) (encs : α → Array Value) (R : List α → α → Prop) (S : List α → Prop) (G : Nat → Prop) (w : World) : Prop :=
  ∀ (l : Nat) (J Jx : Nat → List α → World → Prop) (W : World), Below w.heap.size w W → w.heap.size ≤ l → l < W.heap.size →
    (∀ X, Below W.heap.size W X → J X.heap.size [] X) →
    (∀ B pre X Y, J B pre X → Below X.heap.size X Y → J B pre Y) → (∀ B pre X Y, Jx B pre X → Below X.heap.size X Y → Jx B pre Y) →
    (∀ B pre X k o0 o, W.heap.size ≤ k → X.heap[k]? = some o0 → o0.isCells = false → J B pre X → J B pre (X.putObj k o)) → (∀ B pre X k o0 o, W.heap.size ≤ k → X.heap[k]? = some o0 → o0.isCells = false → Jx B pre X → Jx B pre (X.putObj k o)) →
    (∀ B pre x X, W.heap.size ≤ B → J B pre X → R pre x → YieldAt Fence.wide 0 P l (encs x) X fun e Y => Chg (fun k => G k ∨ k = l ∨ B ≤ k) X Y ∧ KeepsFrom W.heap.size X Y ∧ ((e = .returned (.bool true) ∧ J B (pre ++ [x]) Y) ∨ (e = .returned (.bool false) ∧ Jx B (pre ++ [x]) Y))) →
    Calls P gf (#[.func (.yield l) #[] #[]] ++ lb) W fun e Y => (∃ v, e = .returned v) ∧ ((∃ B xs, S xs ∧ J B xs Y) ∨ ∃ B xs, Jx B xs Y)
theorem wp_ranged4 {α : Type} {P : Program} {n gf : Nat} {lb : Array Value} {g : Operand} {ps : Array Tmp} {assign body : Code} {Q : Exit → Act → World → Prop} {a : Act} {w : World}
    (hg : a.eval g = .func (.func gf) #[] lb) (eg : ∀ args w, (callFunc gf args).run P w = .ok (.enter gf args) w)
    {encs : α → Array Value} (hps : ∀ x, (encs x).size = ps.size) {R : List α → α → Prop} {S : List α → Prop} (I : Nat → List α → World → Prop) (Ix : Code → Nat → List α → World → Prop)
    (hIp : ∀ B pre W l o0 o, w.heap.size ≤ l → W.heap[l]? = some o0 → o0.isCells = false → I B pre W → I B pre (W.putObj l o))
    (hXp : ∀ c B pre W l o0 o, w.heap.size ≤ l → W.heap[l]? = some o0 → o0.isCells = false → Ix c B pre W → Ix c B pre (W.putObj l o))
    (hIb : ∀ B pre X Y, I B pre X → Below X.heap.size X Y → I B pre Y)
    (hXb : ∀ c B pre X Y, Ix c B pre X → Below X.heap.size X Y → Ix c B pre Y)
    (h0 : ∀ X, Below w.heap.size w X → w.heap.size < X.heap.size → I X.heap.size [] X) {G : Nat → Prop} (hH : Hands3 P gf lb encs R S G w) (a1 : α → Nat → Act) (Aft : α → Nat → World → Prop)
    (hAp : ∀ x h W l o0 o, w.heap.size ≤ l → W.heap[l]? = some o0 → o0.isCells = false → Aft x h W → Aft x h (W.putObj l o))
    (hassign : ∀ (m l : Nat) (x : α) (W : World) (K : Act → World → Prop), w.heap.size ≤ W.heap.size → (∀ W', Below W.heap.size W W' → Aft x W.heap.size W' → K (a1 x W.heap.size) W') →
      assign.wpIn (Fence.wide.inRound l) m P (Exit.then K (fun _ _ _ => False)) { tmps := (ps.zip (encs x)).foldl (fun t (p, v) => t.setIfInBounds p v) a.tmps, defers := [] } W)
    (hbody : ∀ (m l B : Nat) (pre : List α) (x : α) (h : Nat) (W : World), w.heap.size < B → B ≤ h → w.heap.size ≤ W.heap.size → I B pre W → R pre x → Aft x h W → body.wpIn (Fence.wide.inRound l) m P (roundEnds4 w.heap.size (fun k => G k ∨ B ≤ k) (I B (pre ++ [x])) (fun c => Ix c B (pre ++ [x])) W) (a1 x h) W)
    (hdone : ∀ (D B : Nat) (xs : List α) (W : World), w.heap.size ≤ D → D < B → S xs → I B xs W → W.heap[D]? = some (.deferred (some [])) → Q .normal { a with defers := { target := .collected D, args := #[] } :: a.defers } W)
    (hleft : ∀ (D B : Nat) (c : Code) (xs : List α) (W : World), w.heap.size ≤ D → D < B → Ix c B xs W → W.heap[D]? = some (.deferred (some [])) → c.wpIn Fence.wide n P Q { a with defers := { target := .collected D, args := #[] } :: a.defers } W) :
    (Code.rangeFunc g ps assign body).wpIn Fence.wide n P Q a w := by
  refine wpIn_rangeFunc fun fn hfn => ?_
  obtain ⟨mk, hmk⟩ : ∃ mk : LoopState → Option Code → Loop, mk = fun s c => { state := s, pending := c, fn := fn, tmps := a.tmps, params := ps, assign := assign, body := body, defers := w.heap.size } := ⟨_, rfl⟩
  obtain ⟨V, hV⟩ : ∃ V, V = (w.alloc (.deferred (some []))).alloc (.loop (mk .ready none)) := ⟨_, rfl⟩
  have hVl : V.heap[w.heap.size + 1]? = some (.loop (mk .ready none)) := by
    have := World.alloc_heap_new (w.alloc (.deferred (some []))) (.loop (mk .ready none))
    rw [World.size_alloc] at this
    rw [hV]; exact this
  have hVd : V.heap[w.heap.size]? = some (.deferred (some [])) := by
    rw [hV, Below.heap_alloc _ _ _ (by simp)]
    exact World.alloc_heap_new w _
  have hVb : Below w.heap.size w V := by
    rw [hV]; exact ((Below.refl _ w).alloc (Nat.le_refl _) _).alloc (by simp) _
  have hVs : V.heap.size = w.heap.size + 2 := by rw [hV]; simp
  have hin : (Instr.enterLoop fn a.tmps ps assign body Fence.wide.round).run P w = .ok (w.heap.size + 1, [{ target := .collected w.heap.size, args := #[] }]) V := by
    rw [hV, hmk]; exact run_enterLoop_outer fn a.tmps ps assign body
  refine ⟨_, _, V, { target := .fn (.func gf) lb, args := #[.func (.yield (w.heap.size + 1)) #[] #[]] }, V, gf, #[.func (.yield (w.heap.size + 1)) #[] #[]] ++ lb, V, hin, ?_, fun _ _ => trivial, ?_, fun h => by simp [Fence.wide] at h, ?_⟩
  · simp only [resolve, hg]
    simp [go_sem]
  · simp [invoke, go_sem, eg]
  refine callsIn_wide.2 ((hH (w.heap.size + 1) (fun B pre W => I B pre W ∧ w.heap.size + 2 ≤ B ∧ B ≤ W.heap.size ∧ W.heap[w.heap.size + 1]? = some (.loop (mk .ready none)) ∧ W.heap[w.heap.size]? = some (.deferred (some [])))
    (fun B pre W => ∃ c, Ix c B pre W ∧ w.heap.size + 2 ≤ B ∧ B ≤ W.heap.size ∧ W.heap[w.heap.size + 1]? = some (.loop (mk .done (some c))) ∧ W.heap[w.heap.size]? = some (.deferred (some []))) V hVb (by omega) (by omega) ?_ ?_ ?_ ?_ ?_ ?_).mono ?_)
  · intro X hX
    have h1 := hX.size
    exact ⟨h0 X (hVb.trans (hX.mono (by omega))) (by omega), by omega, Nat.le_refl _, (hX.block _ (by omega)).trans hVl, (hX.block _ (by omega)).trans hVd⟩
  · rintro B pre X Y ⟨h1, h2, h3, h4, h5⟩ hb
    exact ⟨hIb _ _ _ _ h1 hb, h2, Nat.le_trans h3 hb.size, (hb.block _ (Array.getElem?_eq_some_iff.1 h4).1).trans h4, (hb.block _ (Array.getElem?_eq_some_iff.1 h5).1).trans h5⟩
  · rintro B pre X Y ⟨c, h1, h2, h3, h4, h5⟩ hb
    exact ⟨c, hXb _ _ _ _ _ h1 hb, h2, Nat.le_trans h3 hb.size, (hb.block _ (Array.getElem?_eq_some_iff.1 h4).1).trans h4, (hb.block _ (Array.getElem?_eq_some_iff.1 h5).1).trans h5⟩
  · rintro B pre X k o0 o hk hX hn ⟨h1, h2, h3, h4, h5⟩
    exact ⟨hIp _ _ _ _ _ _ (by omega) hX hn h1, h2, by simpa using h3, (World.putObj_heap_other (by omega)).trans h4, (World.putObj_heap_other (by omega)).trans h5⟩
  · rintro B pre X k o0 o hk hX hn ⟨c, h1, h2, h3, h4, h5⟩
    exact ⟨c, hXp _ _ _ _ _ _ _ (by omega) hX hn h1, h2, by simpa using h3, (World.putObj_heap_other (by omega)).trans h4, (World.putObj_heap_other (by omega)).trans h5⟩
  · rintro B pre x X0 hWB ⟨h10, hB2, hB3, h20, h30⟩ hR0
    have hlt0 : w.heap.size + 1 < X0.heap.size := (Array.getElem?_eq_some_iff.1 h20).1
    have hy := run_yield (P := P) (args := encs x) h20 (by rw [hmk]; exact hps x)
    rw [hmk] at hy
    refine ⟨fn, _, assign, body, hy, roundIn_of_wpIn hfn (hassign 0 _ x X0 _ (by omega) ?_)⟩
    intro X hX0 hA
    have h1 := hIb _ _ _ _ h10 hX0
    have h2 := (hX0.block _ (Array.getElem?_eq_some_iff.1 h20).1).trans h20
    have h3 := (hX0.block _ (Array.getElem?_eq_some_iff.1 h30).1).trans h30
    have hlt : w.heap.size + 1 < X.heap.size := (Array.getElem?_eq_some_iff.1 h2).1
    refine ⟨_, run_beginRound h2 (by rw [hmk]), ?_⟩
    obtain ⟨X1, hX1⟩ : ∃ X1, X1 = X.putObj (w.heap.size + 1) (.loop { mk .ready none with state := .busy }) := ⟨_, rfl⟩
    rw [← hX1]
    have g2 : X1.heap[w.heap.size + 1]? = some (.loop (mk .busy none)) := by rw [hX1, hmk]; exact World.putObj_heap_same hlt
    have g3 : X1.heap[w.heap.size]? = some (.deferred (some [])) := by rw [hX1]; exact (World.putObj_heap_other (by omega)).trans h3
    have gb1 : Chg (fun k => G k ∨ k = w.heap.size + 1 ∨ B ≤ k) X X1 := by rw [hX1]; exact chg_put (.inr (.inl rfl)) _
    have gk1 : KeepsFrom V.heap.size X X1 := by rw [hX1]; exact keeps_put (by omega) _
    have gb : Chg (fun k => G k ∨ k = w.heap.size + 1 ∨ B ≤ k) X0 X1 := (Chg.of_below hX0).trans gb1
    have gk : KeepsFrom V.heap.size X0 X1 := (keeps_below hX0).trans gk1
    refine wpIn_mono (hbody 0 _ B pre x X0.heap.size X1 (by omega) hB3 (by have := gb.size; omega) (by rw [hX1]; exact hIp _ _ _ _ _ _ (by omega) h2 rfl h1) hR0 (by rw [hX1]; exact hAp _ _ _ _ _ _ (by omega) h2 rfl hA)) ?_
    have hfin : ∀ X2, KeepsFrom w.heap.size X1 X2 → Chg (fun k => G k ∨ B ≤ k) X1 X2 → ∀ o, X2.heap[w.heap.size + 1]? = some (.loop (mk .busy none)) ∧ X2.heap[w.heap.size]? = some (.deferred (some [])) ∧
        Chg (fun k => G k ∨ k = w.heap.size + 1 ∨ B ≤ k) X0 (X2.putObj (w.heap.size + 1) o) ∧ KeepsFrom V.heap.size X0 (X2.putObj (w.heap.size + 1) o) ∧ B ≤ (X2.putObj (w.heap.size + 1) o).heap.size := by
      intro X2 k1 k2 o
      refine ⟨k1.same _ _ (by omega) g2 rfl, k1.same _ _ (Nat.le_refl _) g3 rfl, (gb.trans (k2.mono (fun i _ h => by rcases h with h | h; exact .inl h; exact .inr (.inr h)))).trans (chg_put (.inr (.inl rfl)) _), (gk.trans (keeps_mono k1 (by omega))).trans (keeps_put (by omega) _), ?_⟩
      have q1 := gb.size
      have q2 := k2.size
      have : (X2.putObj (w.heap.size + 1) o).heap.size = X2.heap.size := by simp
      omega
    rintro e a2 X2 hp
    cases e with
    | normal =>
      obtain ⟨k1, k2, k3⟩ := hp
      obtain ⟨q2, q3, q4, q5, q6⟩ := hfin X2 k1 k2 (.loop (mk .ready none))
      have hl2 : w.heap.size + 1 < X2.heap.size := (Array.getElem?_eq_some_iff.1 q2).1
      have hend := run_endRound (P := P) none q2
      rw [hmk] at hend q4 q5 q6
      refine ⟨_, _, hend, q4, q5, .inl ⟨rfl, hIp _ _ _ _ _ _ (by omega) q2 rfl k3, by omega, q6, ?_, ?_⟩⟩
      · rw [hmk]; exact World.putObj_heap_same hl2
      · exact (World.putObj_heap_other (by omega)).trans q3
    | exit id =>
      obtain ⟨k1, k2, k3⟩ := hp
      obtain ⟨q2, q3, q4, q5, q6⟩ := hfin X2 k1 k2 (.loop (mk .done (some (.exit id))))
      have hl2 : w.heap.size + 1 < X2.heap.size := (Array.getElem?_eq_some_iff.1 q2).1
      have hend := run_endRound (P := P) (some (.exit id)) q2
      rw [hmk] at hend q4 q5 q6
      refine ⟨_, _, hend, q4, q5, .inr ⟨rfl, .exit id, hXp _ _ _ _ _ _ _ (by omega) q2 rfl k3, by omega, q6, ?_, ?_⟩⟩
      · rw [hmk]; exact World.putObj_heap_same hl2
      · exact (World.putObj_heap_other (by omega)).trans q3
    | goto t => exact hp.elim
    | ret =>
      obtain ⟨k1, k2, k3⟩ := hp
      obtain ⟨q2, q3, q4, q5, q6⟩ := hfin X2 k1 k2 (.loop (mk .done (some .ret)))
      have hl2 : w.heap.size + 1 < X2.heap.size := (Array.getElem?_eq_some_iff.1 q2).1
      have hend := run_endRound (P := P) (some .ret) q2
      rw [hmk] at hend q4 q5 q6
      refine ⟨_, _, hend, q4, q5, .inr ⟨rfl, .ret, hXp _ _ _ _ _ _ _ (by omega) q2 rfl k3, by omega, q6, ?_, ?_⟩⟩
      · rw [hmk]; exact World.putObj_heap_same hl2
      · exact (World.putObj_heap_other (by omega)).trans q3
    | panic c => exact hp.elim
    | outgrown => exact hp.elim
  · rintro e Y ⟨⟨v, rfl⟩, ⟨B, xs, hS, h1, h2, h3, h4, h5⟩ | ⟨B, xs, c, h1, h2, h3, h4, h5⟩⟩
    · have hend := run_endLoop (P := P) h4 (by rw [hmk]; simp)
      have hpn : (mk .ready none).pending = none := by rw [hmk]
      rw [hpn] at hend
      exact ⟨none, _, hend, hdone _ B xs _ (Nat.le_refl _) (by omega) hS (hIp _ _ _ _ _ _ (by omega) h4 rfl h1) ((World.putObj_heap_other (by omega)).trans h5)⟩
    · have hend := run_endLoop (P := P) h4 (by rw [hmk]; simp)
      have hpn : (mk .done (some c)).pending = some c := by rw [hmk]
      rw [hpn] at hend
      exact ⟨some c, _, hend, hleft _ B c xs _ (Nat.le_refl _) (by omega) (hXp _ _ _ _ _ _ _ (by omega) h4 rfl h1) ((World.putObj_heap_other (by omega)).trans h5)⟩
#print axioms wp_ranged4
end Go.Proofs.Ytfjlkncliljjnaa
