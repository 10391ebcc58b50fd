/-
  A range over a function whose rounds may leave it, where what is handed to a round is known in the world of that round, and laid into new variables: one law.
-/
import Derived.RangeFuncNested
import Derived.RangeFuncLeaves
import Derived.RangeFuncBound
import Derived.Test.YtinlpaabmojmkaaDoorGen9
namespace Go.Proofs.YtinlpaabmojmkaaDoor
open Go.RowKit

/-- How a round is left: what is no cells and lies from B on is as it was, only blocks of G have turned, and I holds, or Ix of the jump. -/
def roundEnds (B : Nat) (G : Nat → Prop) (I : World → Prop) (Ix : Code → World → Prop) (W : World) : Exit → Act → World → Prop
  | .normal, _, W' => KeepsFrom B W W' ∧ Chg G W W' ∧ I W'
  | .exit id, _, W' => KeepsFrom B W W' ∧ Chg G W W' ∧ Ix (.exit id) W'
  | .ret, _, W' => KeepsFrom B W W' ∧ Chg G W W' ∧ Ix .ret W'
  | _, _, _ => False

/-- What a function that is ranged over does with whatever rounds it is handed. -/
def Hands2 {α : Type} (P : Program) (n gf : Nat) (lb : Array Value) (encs : α → Array Value) (R : List α → α → World → Prop) (S : List α → Prop) (G : Nat → Prop) (w : World) : Prop :=
  ∀ (l : Nat) (J Jx : List α → World → Prop) (W : World), Below w.heap.size w W → (∀ pre X Y, J pre X → Below X.heap.size X Y → J pre Y) → (∀ pre X Y, Jx pre X → Below X.heap.size X Y → Jx pre Y) → J [] W →
    (∀ pre x X, J pre X → R pre x X → YieldAt Fence.wide (n - 1) P l (encs x) X fun e Y => Chg G X Y ∧ ((e = .returned (.bool true) ∧ J (pre ++ [x]) Y) ∨ (e = .returned (.bool false) ∧ Jx (pre ++ [x]) Y))) →
    CallsIn Fence.wide n P gf (#[.func (.yield l) #[] #[]] ++ lb) W fun e Y => (∃ v, e = .returned v) ∧ ((∃ xs, S xs ∧ J xs Y) ∨ ∃ xs, Jx xs Y)

theorem chg_put {W : World} {G : Nat → Prop} {l : Nat} (h : G l) (o : Obj) : Chg G W (W.putObj l o) :=
  ⟨rfl, rfl, rfl, by simp, fun k _ hk => World.putObj_heap_other (fun e => hk (e ▸ h))⟩

theorem wp_ranged3 {α : Type} {P : Program} {n gf : Nat} {lb : Array Value} {g : Operand} {ps : Array Tmp} {assign body : Code} {Q : Exit → Act → World → Prop} {a : Act} {w : World}
    (hg : a.eval g = .func (.func gf) #[] lb) (eg : ∀ args w, (callFunc gf args).run P w = .ok (.enter gf args) w)
    {encs : α → Array Value} (hps : ∀ x, (encs x).size = ps.size) {R : List α → α → World → Prop} {S : List α → Prop} (I : List α → World → Prop) (Ix : Code → List α → World → Prop)
    (hIp : ∀ pre W l r o, w.heap.size ≤ l → W.heap[l]? = some (.loop r) → I pre W → I pre (W.putObj l o))
    (hXp : ∀ c pre W l r o, w.heap.size ≤ l → W.heap[l]? = some (.loop r) → Ix c pre W → Ix c pre (W.putObj l o))
    (hIb : ∀ pre X Y, I pre X → Below X.heap.size X Y → I pre Y)
    (hXb : ∀ c pre X Y, Ix c pre X → Below X.heap.size X Y → Ix c pre Y)
    (hRp : ∀ pre x W l r o, w.heap.size ≤ l → W.heap[l]? = some (.loop r) → R pre x W → R pre x (W.putObj l o))
    (hRb : ∀ pre x X Y, R pre x X → Below X.heap.size X Y → R pre x Y)
    (h0 : I [] w) {G : Nat → Prop} (hG : ∀ k, w.heap.size ≤ k → G k) (hH : Hands2 P (n - 1) gf lb encs R S G w) (a1 : α → Nat → Act) (Aft : α → Nat → World → Prop)
    (hAp : ∀ x h W l r o, w.heap.size ≤ l → W.heap[l]? = some (.loop r) → Aft x h W → Aft x h (W.putObj l o))
    (hassign : ∀ (l : Nat) (x : α) (W : World) (K : Act → World → Prop), w.heap.size ≤ W.heap.size → (∀ W', Below W.heap.size W W' → Aft x W.heap.size W' → K (a1 x W.heap.size) W') →
      assign.wpIn (Fence.wide.inRound l) (n - 1 - 1) P (Exit.then K (fun _ _ _ => False)) { tmps := (ps.zip (encs x)).foldl (fun t (p, v) => t.setIfInBounds p v) a.tmps, defers := [] } W)
    (hbody : ∀ (l : Nat) (pre : List α) (x : α) (h : Nat) (W : World), w.heap.size ≤ W.heap.size → w.heap.size ≤ h → I pre W → R pre x W → Aft x h W → body.wpIn (Fence.wide.inRound l) (n - 1 - 1) P (roundEnds w.heap.size G (I (pre ++ [x])) (fun c => Ix c (pre ++ [x])) W) (a1 x h) W)
    (hdone : ∀ (D : Nat) (xs : List α) (W : World), w.heap.size ≤ D → S xs → I xs W → W.heap[D]? = some (.deferred (some [])) → Q .normal { a with defers := { target := .collected D, args := #[] } :: a.defers } W)
    (hleft : ∀ (D : Nat) (c : Code) (xs : List α) (W : World), w.heap.size ≤ D → Ix c xs W → W.heap[D]? = some (.deferred (some [])) → c.wpIn Fence.wide n P Q { a with defers := { target := .collected D, args := #[] } :: a.defers } W) :
    (Code.rangeFunc g ps assign body).wpIn Fence.wide n P Q a w := by
  refine wpIn_rangeFunc fun fn hfn => ?_
  obtain ⟨mk, hmk⟩ : ∃ mk : LoopState → Option Code → Loop, mk = fun s c => { state := s, pending := c, fn := fn, tmps := a.tmps, params := ps, assign := assign, body := body, defers := w.heap.size } := ⟨_, rfl⟩
  obtain ⟨V, hV⟩ : ∃ V, V = (w.alloc (.deferred (some []))).alloc (.loop (mk .ready none)) := ⟨_, rfl⟩
  have hVl : V.heap[w.heap.size + 1]? = some (.loop (mk .ready none)) := by
    have := World.alloc_heap_new (w.alloc (.deferred (some []))) (.loop (mk .ready none))
    rw [World.size_alloc] at this
    rw [hV]; exact this
  have hVd : V.heap[w.heap.size]? = some (.deferred (some [])) := by
    rw [hV, Below.heap_alloc _ _ _ (by simp)]
    exact World.alloc_heap_new w _
  have hVb : Below w.heap.size w V := by
    rw [hV]; exact ((Below.refl _ w).alloc (Nat.le_refl _) _).alloc (by simp) _
  have hin : (Instr.enterLoop fn a.tmps ps assign body Fence.wide.round).run P w = .ok (w.heap.size + 1, [{ target := .collected w.heap.size, args := #[] }]) V := by
    rw [hV, hmk]; exact run_enterLoop_outer fn a.tmps ps assign body
  refine ⟨_, _, V, { target := .fn (.func gf) lb, args := #[.func (.yield (w.heap.size + 1)) #[] #[]] }, V, gf, #[.func (.yield (w.heap.size + 1)) #[] #[]] ++ lb, V, hin, ?_, fun _ _ => trivial, ?_, fun h => by simp [Fence.wide] at h, ?_⟩
  · simp only [resolve, hg]
    simp [go_sem]
  · simp [invoke, go_sem, eg]
  refine (hH (w.heap.size + 1) (fun pre W => I pre W ∧ W.heap[w.heap.size + 1]? = some (.loop (mk .ready none)) ∧ W.heap[w.heap.size]? = some (.deferred (some [])))
    (fun pre W => ∃ c, Ix c pre W ∧ W.heap[w.heap.size + 1]? = some (.loop (mk .done (some c))) ∧ W.heap[w.heap.size]? = some (.deferred (some []))) V hVb ?_ ?_ ⟨hIb _ _ _ h0 hVb, hVl, hVd⟩ ?_).mono ?_
  · rintro pre X Y ⟨h1, h2, h3⟩ hb
    exact ⟨hIb _ _ _ h1 hb, (hb.block _ (Array.getElem?_eq_some_iff.1 h2).1).trans h2, (hb.block _ (Array.getElem?_eq_some_iff.1 h3).1).trans h3⟩
  · rintro pre X Y ⟨c, h1, h2, h3⟩ hb
    exact ⟨c, hXb _ _ _ _ h1 hb, (hb.block _ (Array.getElem?_eq_some_iff.1 h2).1).trans h2, (hb.block _ (Array.getElem?_eq_some_iff.1 h3).1).trans h3⟩
  · rintro pre x X0 ⟨h10, h20, h30⟩ hR0
    have hlt0 : w.heap.size + 1 < X0.heap.size := (Array.getElem?_eq_some_iff.1 h20).1
    have hy := run_yield (P := P) (args := encs x) h20 (by rw [hmk]; exact hps x)
    rw [hmk] at hy
    refine ⟨fn, _, assign, body, hy, roundIn_of_wpIn hfn (hassign _ x X0 _ (by omega) ?_)⟩
    intro X hX0 hA
    have h1 := hIb _ _ _ h10 hX0
    have h2 := (hX0.block _ (Array.getElem?_eq_some_iff.1 h20).1).trans h20
    have h3 := (hX0.block _ (Array.getElem?_eq_some_iff.1 h30).1).trans h30
    have hR := hRb _ _ _ _ hR0 hX0
    have hlt : w.heap.size + 1 < X.heap.size := (Array.getElem?_eq_some_iff.1 h2).1
    refine ⟨_, run_beginRound h2 (by rw [hmk]), ?_⟩
    obtain ⟨X1, hX1⟩ : ∃ X1, X1 = X.putObj (w.heap.size + 1) (.loop { mk .ready none with state := .busy }) := ⟨_, rfl⟩
    rw [← hX1]
    have g2 : X1.heap[w.heap.size + 1]? = some (.loop (mk .busy none)) := by rw [hX1, hmk]; exact World.putObj_heap_same hlt
    have g3 : X1.heap[w.heap.size]? = some (.deferred (some [])) := by rw [hX1]; exact (World.putObj_heap_other (by omega)).trans h3
    have gb1 : Chg G X X1 := by rw [hX1]; exact chg_put (hG _ (by omega)) _
    have gb : Chg G X0 X1 := (Chg.of_below hX0).trans gb1
    refine wpIn_mono (hbody _ pre x X0.heap.size X1 (by have := gb.size; omega) (by omega) (by rw [hX1]; exact hIp _ _ _ _ _ (by omega) h2 h1) (by rw [hX1]; exact hRp _ _ _ _ _ _ (by omega) h2 hR) (by rw [hX1]; exact hAp _ _ _ _ _ _ (by omega) h2 hA)) ?_
    rintro e a2 X2 hp
    cases e with
    | normal =>
      obtain ⟨k1, k2, k3⟩ := hp
      have q2 := k1.same _ _ (by omega) g2 rfl
      have q3 := k1.same _ _ (Nat.le_refl _) g3 rfl
      have hl2 : w.heap.size + 1 < X2.heap.size := (Array.getElem?_eq_some_iff.1 q2).1
      refine ⟨_, _, run_endRound none q2, (gb.trans k2).trans (chg_put (hG _ (by omega)) _), .inl ⟨rfl, hIp _ _ _ _ _ (by omega) q2 k3, ?_, ?_⟩⟩
      · rw [hmk]; exact World.putObj_heap_same hl2
      · exact (World.putObj_heap_other (by omega)).trans q3
    | exit id =>
      obtain ⟨k1, k2, k3⟩ := hp
      have q2 := k1.same _ _ (by omega) g2 rfl
      have q3 := k1.same _ _ (Nat.le_refl _) g3 rfl
      have hl2 : w.heap.size + 1 < X2.heap.size := (Array.getElem?_eq_some_iff.1 q2).1
      refine ⟨_, _, run_endRound (some (.exit id)) q2, (gb.trans k2).trans (chg_put (hG _ (by omega)) _), .inr ⟨rfl, .exit id, hXp _ _ _ _ _ _ (by omega) q2 k3, ?_, ?_⟩⟩
      · rw [hmk]; exact World.putObj_heap_same hl2
      · exact (World.putObj_heap_other (by omega)).trans q3
    | goto t => exact hp.elim
    | ret =>
      obtain ⟨k1, k2, k3⟩ := hp
      have q2 := k1.same _ _ (by omega) g2 rfl
      have q3 := k1.same _ _ (Nat.le_refl _) g3 rfl
      have hl2 : w.heap.size + 1 < X2.heap.size := (Array.getElem?_eq_some_iff.1 q2).1
      refine ⟨_, _, run_endRound (some .ret) q2, (gb.trans k2).trans (chg_put (hG _ (by omega)) _), .inr ⟨rfl, .ret, hXp _ _ _ _ _ _ (by omega) q2 k3, ?_, ?_⟩⟩
      · rw [hmk]; exact World.putObj_heap_same hl2
      · exact (World.putObj_heap_other (by omega)).trans q3
    | panic c => exact hp.elim
    | outgrown => exact hp.elim
  · rintro e Y ⟨⟨v, rfl⟩, ⟨xs, hS, h1, h2, h3⟩ | ⟨xs, c, h1, h2, h3⟩⟩
    · have hend := run_endLoop (P := P) h2 (by rw [hmk]; simp)
      have hpn : (mk .ready none).pending = none := by rw [hmk]
      rw [hpn] at hend
      exact ⟨none, _, hend, hdone _ xs _ (Nat.le_refl _) hS (hIp _ _ _ _ _ (by omega) h2 h1) ((World.putObj_heap_other (by omega)).trans h3)⟩
    · have hend := run_endLoop (P := P) h2 (by rw [hmk]; simp)
      have hpn : (mk .done (some c)).pending = some c := by rw [hmk]
      rw [hpn] at hend
      exact ⟨some c, _, hend, hleft _ c xs _ (Nat.le_refl _) (hXp _ _ _ _ _ _ (by omega) h2 h1) ((World.putObj_heap_other (by omega)).trans h3)⟩
#print axioms wp_ranged3
end Go.Proofs.YtinlpaabmojmkaaDoor
