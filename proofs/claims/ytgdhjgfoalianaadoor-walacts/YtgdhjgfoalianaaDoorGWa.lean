/-
  Texts that ride together: Ranged WalA WalF WalS WalB.
-/
import Derived.RangeFuncNested
import Derived.RangeFuncLeaves
import Derived.RangeFuncBound
import Derived.Test.YtgdhjgfoalianaaDoorGDa
import Derived.Test.YtgdhjgfoalianaaDoorGSb
import Derived.Test.YtgdhjgfoalianaaDoorGDc
import Derived.RangeFuncCalls
import Derived.Shelf.Abstract
import Derived.Shelf.RegionOpen
import Derived.WalkKit
import Derived.OwnWalkIn
import Derived.TacticsInMore
import Derived.LoopNIn
import Derived.LoopIn
import Derived.Maps.AppendAt
/-
  A range over a function whose rounds all go on, where what is handed to a round is known in the world of that round (a relation R of the author's choice): one law.
-/
namespace Go.Proofs.YtgdhjgfoalianaaDoor
open Go.RowKit

/-- How a round that goes on is left: what is no cells and lies from B on is as it was, only blocks of G have turned, and I holds. -/
def roundGoes (B : Nat) (G : Nat → Prop) (I : World → Prop) (W : World) : Exit → Act → World → Prop
  | .normal, _, W' => KeepsFrom B W W' ∧ Chg G W W' ∧ I W'
  | _, _, _ => False

/-- What a function that is ranged over does with whatever rounds it is handed. -/
def Hands {α : Type} (P : Program) (n gf : Nat) (lb : Array Value) (encs : α → Array Value) (R : α → World → Prop) (S : List α → Prop) (N : Nat) (G : Nat → Prop) (w : World) : Prop :=
  ∀ (l : Nat) (J : List α → World → Prop) (W : World), Below w.heap.size w W → (∀ pre X Y, J pre X → Below X.heap.size X Y → J pre Y) → J [] W →
    (∀ pre x X, J pre X → R x X → pre.length < N → YieldAt Fence.wide (n - 1) P l (encs x) X fun e Y => e = .returned (.bool true) ∧ J (pre ++ [x]) Y ∧ Chg G X Y) →
    CallsIn Fence.wide n P gf (#[.func (.yield l) #[] #[]] ++ lb) W fun e Y => (∃ v, e = .returned v) ∧ ∃ xs, S xs ∧ J xs Y

theorem chg_put {W : World} {G : Nat → Prop} {l : Nat} (h : G l) (o : Obj) : Chg G W (W.putObj l o) :=
  ⟨rfl, rfl, rfl, by simp, fun k _ hk => World.putObj_heap_other (fun e => hk (e ▸ h))⟩

theorem wp_ranged {α : Type} {P : Program} {n gf : Nat} {lb : Array Value} {g : Operand} {ps : Array Tmp} {assign body : Code} {Q : Exit → Act → World → Prop} {a : Act} {w : World}
    (hg : a.eval g = .func (.func gf) #[] lb) (eg : ∀ args w, (callFunc gf args).run P w = .ok (.enter gf args) w)
    {encs : α → Array Value} (hps : ∀ x, (encs x).size = ps.size) {R : α → World → Prop} {S : List α → Prop} (I : List α → World → Prop)
    (hIp : ∀ pre W l r o, w.heap.size ≤ l → W.heap[l]? = some (.loop r) → I pre W → I pre (W.putObj l o))
    (hIb : ∀ pre X Y, I pre X → Below X.heap.size X Y → I pre Y)
    (hRp : ∀ x W l r o, w.heap.size ≤ l → W.heap[l]? = some (.loop r) → R x W → R x (W.putObj l o))
    (h0 : I [] w) {N : Nat} {G : Nat → Prop} (hG : ∀ k, w.heap.size ≤ k → G k) (hH : Hands P (n - 1) gf lb encs R S N G w) (a1 : α → Act)
    (hassign : ∀ (l : Nat) (x : α) (W : World) (K : Act → World → Prop), K (a1 x) W →
      assign.wpIn (Fence.wide.inRound l) (n - 1 - 1) P (Exit.then K (fun _ _ _ => False)) { tmps := (ps.zip (encs x)).foldl (fun t (p, v) => t.setIfInBounds p v) a.tmps, defers := [] } W)
    (hbody : ∀ (l : Nat) (pre : List α) (x : α) (W : World), w.heap.size ≤ W.heap.size → I pre W → R x W → pre.length < N → body.wpIn (Fence.wide.inRound l) (n - 1 - 1) P (roundGoes w.heap.size G (I (pre ++ [x])) W) (a1 x) W)
    (hdone : ∀ (D : Nat) (xs : List α) (W : World), w.heap.size ≤ D → S xs → I xs W → W.heap[D]? = some (.deferred (some [])) → Q .normal { a with defers := { target := .collected D, args := #[] } :: a.defers } W) :
    (Code.rangeFunc g ps assign body).wpIn Fence.wide n P Q a w := by
  refine wpIn_rangeFunc fun fn hfn => ?_
  obtain ⟨mk, hmk⟩ : ∃ mk : LoopState → Loop, mk = fun s => { state := s, pending := none, fn := fn, tmps := a.tmps, params := ps, assign := assign, body := body, defers := w.heap.size } := ⟨_, rfl⟩
  obtain ⟨V, hV⟩ : ∃ V, V = (w.alloc (.deferred (some []))).alloc (.loop (mk .ready)) := ⟨_, rfl⟩
  have hVl : V.heap[w.heap.size + 1]? = some (.loop (mk .ready)) := by
    have := World.alloc_heap_new (w.alloc (.deferred (some []))) (.loop (mk .ready))
    rw [World.size_alloc] at this
    rw [hV]; exact this
  have hVd : V.heap[w.heap.size]? = some (.deferred (some [])) := by
    rw [hV, Below.heap_alloc _ _ _ (by simp)]
    exact World.alloc_heap_new w _
  have hVb : Below w.heap.size w V := by
    rw [hV]; exact ((Below.refl _ w).alloc (Nat.le_refl _) _).alloc (by simp) _
  have hin : (Instr.enterLoop fn a.tmps ps assign body Fence.wide.round).run P w = .ok (w.heap.size + 1, [{ target := .collected w.heap.size, args := #[] }]) V := by
    rw [hV, hmk]; exact run_enterLoop_outer fn a.tmps ps assign body
  refine ⟨_, _, V, { target := .fn (.func gf) lb, args := #[.func (.yield (w.heap.size + 1)) #[] #[]] }, V, gf, #[.func (.yield (w.heap.size + 1)) #[] #[]] ++ lb, V, hin, ?_, fun _ _ => trivial, ?_, fun h => by simp [Fence.wide] at h, ?_⟩
  · simp only [resolve, hg]
    simp [go_sem]
  · simp [invoke, go_sem, eg]
  refine (hH (w.heap.size + 1) (fun pre W => I pre W ∧ W.heap[w.heap.size + 1]? = some (.loop (mk .ready)) ∧ W.heap[w.heap.size]? = some (.deferred (some []))) V hVb ?_ ⟨hIb _ _ _ h0 hVb, hVl, hVd⟩ ?_).mono ?_
  · rintro pre X Y ⟨h1, h2, h3⟩ hb
    exact ⟨hIb _ _ _ h1 hb, (hb.block _ (Array.getElem?_eq_some_iff.1 h2).1).trans h2, (hb.block _ (Array.getElem?_eq_some_iff.1 h3).1).trans h3⟩
  · rintro pre x X ⟨h1, h2, h3⟩ hR hlen
    have hlt : w.heap.size + 1 < X.heap.size := (Array.getElem?_eq_some_iff.1 h2).1
    have hy := run_yield (P := P) (args := encs x) h2 (by rw [hmk]; exact hps x)
    rw [hmk] at hy
    refine ⟨fn, _, assign, body, hy, roundIn_of_wpIn hfn (hassign _ x X _ ?_)⟩
    refine ⟨_, run_beginRound h2 (by rw [hmk]), ?_⟩
    obtain ⟨X1, hX1⟩ : ∃ X1, X1 = X.putObj (w.heap.size + 1) (.loop { mk .ready with state := .busy }) := ⟨_, rfl⟩
    rw [← hX1]
    have g2 : X1.heap[w.heap.size + 1]? = some (.loop (mk .busy)) := by rw [hX1, hmk]; exact World.putObj_heap_same hlt
    have g3 : X1.heap[w.heap.size]? = some (.deferred (some [])) := by rw [hX1]; exact (World.putObj_heap_other (by omega)).trans h3
    have gb : Chg G X X1 := by rw [hX1]; exact chg_put (hG _ (by omega)) _
    refine wpIn_mono (hbody _ pre x X1 (by have := gb.size; omega) (by rw [hX1]; exact hIp _ _ _ _ _ (by omega) h2 h1) (by rw [hX1]; exact hRp _ _ _ _ _ (by omega) h2 hR) hlen) ?_
    rintro e a2 X2 hp
    cases e with
    | normal =>
      obtain ⟨k1, k2, k3⟩ := hp
      have q2 := k1.same _ _ (by omega) g2 rfl
      have q3 := k1.same _ _ (Nat.le_refl _) g3 rfl
      have hl2 : w.heap.size + 1 < X2.heap.size := (Array.getElem?_eq_some_iff.1 q2).1
      refine ⟨_, _, run_endRound none q2, rfl, ⟨hIp _ _ _ _ _ (by omega) q2 k3, ?_, ?_⟩, ?_⟩
      · rw [hmk]; exact World.putObj_heap_same hl2
      · exact (World.putObj_heap_other (by omega)).trans q3
      · exact (gb.trans k2).trans (chg_put (hG _ (by omega)) _)
    | exit id => exact hp.elim
    | goto t => exact hp.elim
    | ret => exact hp.elim
    | panic c => exact hp.elim
    | outgrown => exact hp.elim
  · rintro e Y ⟨⟨v, rfl⟩, xs, hS, h1, h2, h3⟩
    have hend := run_endLoop (P := P) h2 (by rw [hmk]; simp)
    have hpn : (mk .ready).pending = none := by rw [hmk]
    rw [hpn] at hend
    exact ⟨none, _, hend, hdone _ xs _ (Nat.le_refl _) hS (hIp _ _ _ _ _ (by omega) h2 h1) ((World.putObj_heap_other (by omega)).trans h3)⟩
#print axioms wp_ranged
end Go.Proofs.YtgdhjgfoalianaaDoor

/-
  Package wal's small functions: roundUp, isNought: what the calls do; frames side by side, plain.
-/
namespace Go.Proofs.YtgdhjgfoalianaaDoor
open Go.RowKit

theorem hide {p : Prop} (h : p) : Hid p := h
/-- A slice from place i up to place j. -/
theorem slice_both (a : Option Addr) (n cap i j : Nat) (hi : i ≤ j) (hj : j ≤ n) (hn : n ≤ cap) :
    ∃ a', (∀ W, (Instr.sliceAt 33 (.slice a n cap) (some (.int .i64 (i : Int))) (some (.int .i64 (j : Int))) none).run Tryd.prog W = .ok (.slice a' (j - i) (cap - i)) W) ∧
      (∀ w l, Rd w (.slice a n cap) l → Rd w (.slice a' (j - i) (cap - i)) ((l.drop i).take (j - i))) := by
  have e1 : (i : Int) ≤ (j : Int) := by omega
  have e2 : (j : Int) ≤ (cap : Int) := by omega
  refine ⟨if cap = i then a else a.map (·.add i), fun W => ?_, fun w l hr => ?_⟩
  · have hsz := Tryd.size5
    cases hq : Tryd.prog.info? 5 with
    | none => simp [hq] at hsz
    | some k =>
      have hk : k.size = 1 := by simpa [hq] using hsz
      simp [Instr.sliceAt, Instr.slice, run_underlying Tryd.underlying33, Instr.sliceBounds, run_sliceBound, e1, e2, sizeOf, typeInfo, hq, hk]
  · refine Rd.take (n := n - i) (l := l.drop i) ?_ (j - i) (by omega)
    obtain ⟨a0, cap0, e, h1, h2, h3, h4⟩ := hr
    simp only [Value.slice.injEq] at e
    obtain ⟨rfl, rfl, rfl⟩ := e
    refine ⟨if cap = i then a else a.map (·.add i), cap - i, by simp, by simp; omega, by omega, fun h => ?_, fun hp => ?_⟩
    · by_cases hcc : cap = i
      · omega
      · rw [if_neg hcc] at h
        have := h3 (by simpa using h)
        omega
    · simp at hp
      obtain ⟨b, off, rfl, hlt, hcell⟩ := h4 (by omega)
      rw [if_neg (by omega)]
      refine ⟨b, off + i, by simp [Addr.add_mid], hlt, fun j u hj => ?_⟩
      rw [Nat.add_assoc]
      refine hcell (i + j) u ?_
      rw [← hj]
      simp [By, List.getElem?_drop]
/-- Whole sectors. -/
def ru (n : Nat) : Nat := (n + 31) / 32 * 32
theorem ru_ge (n : Nat) : n ≤ ru n := by unfold ru; omega
theorem ru_lt (n : Nat) : ru n < n + 32 := by unfold ru; omega
theorem ru_mod (n : Nat) : ru n % 32 = 0 := by unfold ru; omega
theorem ru_pos {n : Nat} (h : 0 < n) : 32 ≤ ru n := by unfold ru; omega
/-- Are all bytes noughts? -/
def nought (l : List UInt8) : Bool := l.all (· == 0)

set_option maxRecDepth 100000 in
theorem roundUp_any (n : Nat) (hn : n ≤ 140737488355328) (w : World) : Calls Tryd.prog 58 #[.int .i64 (n : Int)] w fun e w' => e = .returned (.int .i64 (ru n : Int)) ∧ w' = w := by
  have e1 : ((n : Int) + 32 - 1) / 32 * 32 = (ru n : Int) := by unfold ru; omega
  have hr := ru_lt n
  have e2 : ((n : Int) + 32 - 1).tdiv 32 = ((n : Int) + 32 - 1) / 32 := Int.tdiv_eq_ediv_of_nonneg (by omega)
  go_enter Tryd.func58, Tryd.ntmps58
  go_wp2
  go_ret
  exact ⟨rfl, rfl⟩

theorem Tryd.sizeW : (Tryd.prog.info? 100).map (·.size) = some 32 := by kernel_rfl
theorem zeroW (w : World) : (zeroValue 100).run Tryd.prog w = .ok (.agg (By Zs).toArray) w := by kernel_rfl
theorem slice_wsec (g : Nat) (W : World) : (Instr.sliceAt 100 (.pointer (some ⟨g, 0, none⟩)) none none none).run Tryd.prog W = .ok (.slice (some ⟨g, 0, none⟩) 32 32) W := by
  kernel_rfl
theorem eq_wsec (S R : List UInt8) (hS : S.length = 32) (hR : R.length = 32) (W : World) : (binOp .eql 100 (.agg (By S).toArray) (.agg (By R).toArray)).run Tryd.prog W = .ok (.bool (S == R)) W := by
  have := run_equalIn_bytes (P := Tryd.prog) W 9998 100 5 32 Tryd.underlying100 Tryd.underlying5 size5w S R hS hR
  have e : ∀ l : List UInt8, By l = l.map Extern.Stop.cell := fun l => rfl
  rw [run_eql_struct]
  rw [e, e, this]
  rfl
theorem over_none (l : List UInt8) : over (By Zs) 0 (By l) = By (l ++ List.replicate (32 - l.length) 0) := by
  unfold over
  rw [By_append, By_length, List.take_zero, List.nil_append, Nat.zero_add]
  unfold By Zs
  rw [List.map_replicate, List.drop_replicate, List.map_replicate]
theorem nought_zs (l : List UInt8) (h : l.length ≤ 32) : (l ++ List.replicate (32 - l.length) 0 == Zs) = nought l := by
  rw [Bool.eq_iff_iff, beq_iff_eq]
  unfold nought Zs
  rw [List.all_eq_true]
  constructor
  · intro e x hx
    have : x ∈ List.replicate 32 (0 : UInt8) := by rw [← e]; exact List.mem_append_left _ hx
    simp at this
    simp [this]
  · intro hx
    have e : l = List.replicate l.length 0 := List.eq_replicate_of_mem (fun x h => by simpa using hx x h)
    conv => lhs; lhs; rw [e]
    rw [List.replicate_append_replicate]
    congr 1
    omega

set_option maxRecDepth 100000 in
theorem isNought_any (v : Value) (l : List UInt8) (w : World) (hr : Rd w v l) (hl : l.length ≤ 32) :
    Calls Tryd.prog 62 #[v] w fun e w' => e = .returned (.bool (nought l)) ∧ Below w.heap.size w w' := by
  have ba : Below w.heap.size w (w.alloc (.cells (By Zs).toArray 100)) := (Below.refl _ _).alloc (Nat.le_refl _) _
  have R1 : Hid (Rd (w.alloc (.cells (By Zs).toArray 100)) v l) := hr.kept ba
  have B1 : Hid (Blk (w.alloc (.cells (By Zs).toArray 100)) w.heap.size 100 (By Zs)) := Blk.new w 100 (By Zs)
  have hz := zeroW
  have hs := slice_wsec
  have hlz : (By Zs).length = 32 := by simp [By_length, Zs]
  obtain ⟨Y, hY⟩ : ∃ Y, Y = l ++ List.replicate (32 - l.length) 0 := ⟨_, rfl⟩
  have hYl : Y.length = 32 := by rw [hY]; simp; omega
  have hYn : (Y == Zs) = nought l := by rw [hY]; exact nought_zs l hl
  have B2 : Hid (Blk ((w.alloc (.cells (By Zs).toArray 100)).setCells w.heap.size 0 (By l)) w.heap.size 100 (By Y)) := by
    rw [hY, ← over_none]
    exact Blk.over (By l) B1.out 0 (by rw [By_length]; omega)
  have b2 : Below w.heap.size w ((w.alloc (.cells (By Zs).toArray 100)).setCells w.heap.size 0 (By l)) := ba.trans ((But.setCells _ _ _ _).below (Nat.le_refl _) (by simp))
  have heq := eq_wsec Y Zs hYl (by simp [Zs])
  rw [hYn] at heq
  clear hY hYn
  generalize nought l = q at heq ⊢
  go_enter Tryd.func62, Tryd.ntmps62
  go_wp2_with (first
    | (refine wpList_copy_bytes rfl _ _ 33 33 rfl 5 Tryd.underlying33 Tryd.size5 w.heap.size 0 32 32 v l rfl rfl R1.out l l.length (List.take_of_length_le hl) rfl 100 (By Zs) B1.out (by omega) ?_)
    | (refine wpList_load_row rfl 100 (.tmp 3) rfl w.heap.size rfl 100 (By Y).toArray (0, 0) (.array 32 5) B2.out Tryd.underlying100 rfl (by rw [Tryd.sizeW]; simp [By_length, hYl]) ?_)
    | (refine wpList_buildK rfl 100 #[] rfl (.agg (By Zs).toArray) (by kernel_rfl) ?_))
  go_ret
  exact ⟨rfl, b2⟩
#print axioms isNought_any
end Go.Proofs.YtgdhjgfoalianaaDoor

/-
  wal.frames and its function: what is handed to whatever loop goes over it.
-/
namespace Go.Proofs.YtgdhjgfoalianaaDoor
open Go.RowKit Go.Shelf
attribute [local go_sem] Oper.semAt_some

/-- A call in a walk at the wide fence. -/
theorem wide_call {P : Program} {n m f : Nat} {args : Array Value} {w : World} {R R' : Ending → World → Prop} (h : Calls P f args w R) (hm : ∀ e w', R e w' → R' e w') :
    Fence.wide.fn f ∧ (Fence.wide.depth.isSome = true → 1 ≤ n) ∧ CallsIn Fence.wide m P f args w R' :=
  ⟨trivial, fun h => by simp [Fence.wide] at h, (callsIn_wide.2 h).mono hm⟩
/-- Is there a whole frame at this place, with its noughts? -/
def okAt (b : List UInt8) (p : Nat) : Bool :=
  (opn (b.drop p)).2.2 && decide (p + ru (opn (b.drop p)).2.1 ≤ b.length) && nought ((b.drop (p + (opn (b.drop p)).2.1)).take (ru (opn (b.drop p)).2.1 - (opn (b.drop p)).2.1))
/-- The frames from a place on: where the next one begins, and what is framed. -/
def frs (b : List UInt8) : Nat → Nat → List (Nat × List UInt8)
  | 0, _ => []
  | f + 1, p => if okAt b p then (p + ru (opn (b.drop p)).2.1, (opn (b.drop p)).1) :: frs b f (p + ru (opn (b.drop p)).2.1) else []
theorem frs_stop {b : List UInt8} {p f : Nat} (h : okAt b p = false) : frs b f p = [] := by
  cases f with
  | zero => rfl
  | succ f => unfold frs; rw [h]; rfl
theorem frs_go {b : List UInt8} {p f : Nat} (h : okAt b p = true) : frs b (f + 1) p = (p + ru (opn (b.drop p)).2.1, (opn (b.drop p)).1) :: frs b f (p + ru (opn (b.drop p)).2.1) := by
  rw [frs, if_pos h]
theorem frs_length (b : List UInt8) : ∀ (f p : Nat), (frs b f p).length ≤ f
  | 0, _ => by simp [frs]
  | f + 1, p => by
    rw [frs]
    split
    · have := frs_length b f (p + ru (opn (b.drop p)).2.1)
      simp
      omega
    · simp
theorem opn_size {l : List UInt8} (h : (opn l).2.2 = true) : 5 ≤ (opn l).2.1 ∧ (opn l).2.1 ≤ l.length ∧ (opn l).1.length + 5 ≤ (opn l).2.1 ∧ (opn l).1.length ≤ 8192 := by
  rcases gn_cases l with hg | ⟨n, k, hg⟩
  · rw [opn_no hg (by simp)] at h; simp at h
  · obtain ⟨h1, h2, h3, h4, h5⟩ := gn_ok hg
    by_cases hc : n ≤ 8192 ∧ k + n + 4 ≤ l.length ∧ be4 (crc (l.take (k + n))) = (l.drop (k + n)).take 4
    · rw [opn_yes hg hc.1 hc.2.1 hc.2.2]
      simp
      omega
    · rw [opn_no hg (fun x => hc x.2)] at h; simp at h

theorem opn_none {l : List UInt8} (h : (opn l).2.2 = false) : opn l = ([], 0, false) := by
  unfold opn at h ⊢
  split
  · rename_i hc; rw [if_pos hc] at h; simp at h
  · rfl
theorem Chg.cellAt {F : Nat → Prop} {w w' : World} (h : Chg F w w') {b j : Nat} (hb : b < w.heap.size) (hF : ¬ F b) : w'.cell? ⟨b, j, none⟩ = w.cell? ⟨b, j, none⟩ := by
  simp [World.cell?, h.block b hb hF]
theorem Tab.chg {F : Nat → Prop} {w w' : World} (h : Tab w) (hc : Chg F w w') (hF : ¬ F 0) : Tab w' :=
  ⟨Nat.lt_of_lt_of_le h.1 hc.size, fun i hi => (hc.cellAt h.1 hF).trans (h.2 i hi)⟩
/-- What is handed to a round: where the next frame begins, a slice, and what it reads as. -/
abbrev Frm : Type := Nat × Value × List UInt8
def frmV (x : Frm) : Array Value := #[.int .i64 (x.1 : Int), x.2.1]
def frmR (B : Nat) (x : Frm) (W : World) : Prop := Own W B x.2.1 x.2.2
def frmS (b : List UInt8) (xs : List Frm) : Prop := xs.map (fun x => (x.1, x.2.2)) = frs b (b.length / 32 + 1) 0

set_option maxRecDepth 100000 in
set_option maxHeartbeats 4000000 in
theorem frames1_hands (n Bn : Nat) (a : Option Addr) (cap : Nat) (b : List UInt8) (w : World) (hbox : w.cell? ⟨Bn, 0, none⟩ = some (.slice a b.length cap)) (hBn : Bn < w.heap.size) (hT : Tab w) (hr : Rd w (.slice a b.length cap) b) (hl : b.length ≤ 140737488300000) {G : Nat → Prop} (hG0 : ¬ G 0) (hGb : ¬ G Bn) (hGr : ∀ x, InB (.slice a b.length cap) x → ¬ G x) :
    Hands Tryd.prog n 60 #[.pointer (some ⟨Bn, 0, none⟩)] frmV (frmR w.heap.size) (frmS b) (b.length / 32 + 1) G w := by
  intro l J W hW hJ h0 hY
  have hcap := rd_cap hr
  have HS : Hid (∃ f, frs b f 0 = frs b (b.length / 32 + 1) 0 ∧ b.length < 0 + 32 * f) := ⟨_, rfl, by omega⟩
  refine callsIn_of_wp Tryd.func60 rfl trivial ?_ rfl
  simp only [Tryd.ntmps60, List.size_toArray, List.length_cons, List.length_nil, Nat.reduceAdd, Nat.reduceSub, Array.replicate_succ, Array.replicate_zero, List.push_toArray, List.append_toArray, List.nil_append, List.cons_append]
  gi_wp2
  gi_loopw [3] (fun p wr => ∃ (pre : List Frm) (at_ : Nat), p = .int .i64 (at_ : Int) ∧ J pre wr ∧ Chg G w wr ∧ at_ ≤ b.length ∧ Hid (∃ f, pre.map (fun x => (x.1, x.2.2)) ++ frs b f at_ = frs b (b.length / 32 + 1) 0 ∧ b.length < at_ + 32 * f))
    (fun p _ => b.length - (intOf p).toNat)
  case atStart => exact ⟨[], 0, rfl, h0, Chg.of_below hW, Nat.zero_le _, HS⟩
  case round =>
    obtain ⟨pre, p, rfl, hJp, hbp, hpb, HF⟩ := hrel
    have hc0 : wr.cell? ⟨Bn, 0, none⟩ = some (.slice a b.length cap) := (hbp.cellAt hBn hGb).trans hbox
    have HR : Hid (Rd wr (.slice a b.length cap) b) := hr.chg hbp hGr
    have HT : Hid (Tab wr) := hT.chg hbp hG0
    obtain ⟨a', hsl, hrd, -⟩ := slice_from (P := Tryd.prog) Tryd.underlying33 Tryd.size5 a b.length cap p hpb hcap
    have HD : Hid (Rd wr (.slice a' (b.length - p) (cap - p)) (b.drop p)) := hrd _ _ HR.out
    clear hrd
    obtain ⟨t, sz, ok, ho⟩ : ∃ t sz ok, opn (b.drop p) = (t, sz, ok) := ⟨_, _, _, rfl⟩
    have HO : Hid (opn (b.drop p) = (t, sz, ok)) := ho
    clear ho
    gi_wp2_with fail
    refine wide_call (open_any _ (b.drop p) _ HT.out HD.out (by simp; omega)) ?_
    intro e w1 hop
    unfold OpenPost at hop
    rw [HO.out] at hop
    obtain ⟨v1, rfl, ho1, hb1⟩ := hop
    have hc1 : w1.cell? ⟨Bn, 0, none⟩ = some (.slice a b.length cap) := (hb1.cell (p := ⟨Bn, 0, none⟩) (Nat.lt_of_lt_of_le hBn hbp.size)).trans hc0
    have HR1 : Hid (Rd w1 (.slice a b.length cap) b) := HR.out.kept hb1
    have hbw : Chg G w w1 := hbp.trans (Chg.of_below hb1)
    have HW : Hid (Own w1 w.heap.size v1 t) := ho1.mono hbp.size
    have hs8 : p + sz ≤ b.length := by
      cases ok with
      | true => have := opn_size (l := b.drop p) (by rw [HO.out]); rw [HO.out] at this; simp at this; omega
      | false => have := opn_none (l := b.drop p) (by rw [HO.out]); rw [HO.out] at this; simp at this; omega
    obtain ⟨N, hN⟩ : ∃ N, N = ru sz := ⟨_, rfl⟩
    have hru : N < sz + 32 := by rw [hN]; exact ru_lt sz
    have hrg : sz ≤ N := by rw [hN]; exact ru_ge sz
    have HN : Hid (N = ru sz) := hN
    have hro := roundUp_any sz (by omega) w1
    rw [← hN] at hro
    have HRO := hide hro
    clear hN hro
    gi_wp2_with fail
    refine wide_call HRO.out ?_
    rintro e w2 ⟨rfl, hw2⟩
    subst w2
    have hrest : okAt b p = false → (∃ v : Value, Ending.returned (.tuple #[]) = Ending.returned v) ∧ ∃ xs, frmS b xs ∧ J xs w1 := fun hno => by
      obtain ⟨f, hf, -⟩ := HF.out
      rw [frs_stop hno, List.append_nil] at hf
      exact ⟨⟨_, rfl⟩, pre, hf, hJ _ _ _ hJp hb1⟩
    have HE := hide hrest
    clear hrest
    cases ok with
    | false =>
      have hno : okAt b p = false := by unfold okAt; rw [HO.out]; rfl
      gi_wp2_with fail
      refine ⟨trivial, ?_⟩
      gi_wp2_with fail
      refine ⟨fun _ _ => trivial, ?_⟩
      gi_wp2_with fail
      refine bodyPost_ret (results_none rfl _ _ _) rfl ?_
      exact HE.out hno
    | true =>
      by_cases hfit : p + N ≤ b.length
      · obtain ⟨a2, hsl2, hrd2⟩ := slice_both a b.length cap (p + sz) (p + N) (by omega) hfit hcap
        have HZ := hide (hrd2 _ _ HR1.out)
        clear hrd2
        push_cast at hsl2
        have hno := fun hq : nought ((b.drop (p + sz)).take (p + N - (p + sz))) = false => HE.out (by unfold okAt; rw [HO.out]; simp only [← HN.out]; rw [show N - sz = p + N - (p + sz) by omega, hq]; simp)
        have hyes := fun hq : nought ((b.drop (p + sz)).take (p + N - (p + sz))) = true => show okAt b p = true by
          unfold okAt; rw [HO.out]; simp only [← HN.out]; rw [show N - sz = p + N - (p + sz) by omega, hq]; simp [hfit]
        have HNO := hide hno
        have HYES := hide hyes
        clear hno hyes
        gi_wp2_with fail
        refine wide_call (isNought_any _ _ _ HZ.out (by simp; omega)) ?_
        generalize nought ((b.drop (p + sz)).take (p + N - (p + sz))) = q at HNO HYES ⊢
        rintro e w2 ⟨rfl, hb2⟩
        cases q with
        | false =>
          have HX := hide (HNO.out rfl)
          gi_wp2_with fail
          refine ⟨fun _ _ => trivial, ?_⟩
          gi_wp2_with fail
          refine bodyPost_ret (results_none rfl _ _ _) rfl ?_
          obtain ⟨h1, xs, h2, h3⟩ := HX.out
          exact ⟨h1, xs, h2, hJ _ _ _ h3 hb2⟩
        | true =>
          have hgo := HYES.out rfl
          have HJ2 : Hid (J pre w2) := hJ _ _ _ (hJ _ _ _ hJp hb1) hb2
          have hpl : pre.length < b.length / 32 + 1 := by
            obtain ⟨f, hf, hlt⟩ := HF.out
            have h1 := frs_length b (b.length / 32 + 1) 0
            cases f with
            | zero => omega
            | succ f =>
              rw [← hf, frs_go hgo] at h1
              simp at h1
              omega
          obtain ⟨fn, tmps, assign, body, hy, hR⟩ := hY pre (p + N, v1, t) w2 HJ2.out (HW.out.kept hb2) hpl
          simp only [frmV] at hy
          push_cast at hy
          have HRR := hide hR
          clear hR
          have hsz := opn_size (l := b.drop p) (by rw [HO.out])
          rw [HO.out] at hsz
          simp only at hsz
          have hN1 : 32 ≤ N := by rw [HN.out]; exact ru_pos (by omega)
          gi_wp2_with fail
          refine ⟨fun h => by simp [Fence.wide] at h, HRR.out.mono ?_⟩
          rintro e w3 ⟨rfl, hJ3, hb3⟩
          gi_wp2_with fail
          go_roundw
          case rel =>
            obtain ⟨f, hf, hlt⟩ := HF.out
            refine ⟨pre ++ [(p + N, v1, t)], p + N, by simp, hJ3, (hbw.trans (Chg.of_below hb2)).trans hb3, hfit, ?_⟩
            cases f with
            | zero => omega
            | succ f =>
              refine ⟨f, ?_, by omega⟩
              rw [frs_go hgo, HO.out] at hf
              simp only [← HN.out] at hf
              rw [← hf]
              simp
          case measure => simp only [intOf]; simp; omega
      · have hno : okAt b p = false := by unfold okAt; rw [HO.out]; simp only [← HN.out]; simp [hfit]
        gi_wp2_with fail
        refine ⟨trivial, ?_⟩
        gi_wp2_with fail
        refine ⟨fun _ _ => trivial, ?_⟩
        gi_wp2_with fail
        refine bodyPost_ret (results_none rfl _ _ _) rfl ?_
        exact HE.out hno
#print axioms frames1_hands
end Go.Proofs.YtgdhjgfoalianaaDoor

/-
  wal.frames and wal.Scan: what the calls do, whatever bytes come in.
-/
namespace Go.Proofs.YtgdhjgfoalianaaDoor
open Go.RowKit Go.Shelf
attribute [local go_sem] Oper.semAt_some

/-- The rows L lie in new memory, from block B on. -/
def OwnR (w : World) (B : Nat) (v : Value) (L : List (List UInt8)) : Prop :=
  ∃ us : List Value, us.length = L.length ∧ w.ownsRow B 33 1 v L.length us ∧ ∀ j (h1 : j < us.length) (h2 : j < L.length), Own w B us[j] L[j]
/-- What is framed in b, and where that ends. -/
def texts (b : List UInt8) : List (List UInt8) := (frs b (b.length / 32 + 1) 0).map (·.2)
def lastN (l : List (Nat × List UInt8)) : Nat := (l.getLast?.map (·.1)).getD 0
def ends (b : List UInt8) : Nat := lastN (frs b (b.length / 32 + 1) 0)
theorem Tryd.infoB : (Tryd.prog.info? 33).map (fun i => (i.zero, i.size, i.bytes)) = some (some (.slice none 0 0), 1, 24) := by kernel_rfl

/-- What lies in a row of slices' block is no row of bytes. -/
theorem Own.past {w w' : World} {B B' n : Nat} {v u : Value} {m : List UInt8} {us : List Value} (hu : Own w B' u m) (hv : w.ownsRow B 33 1 v n us) (hg : w.grownBy w' v.ownBlock) : Own w' B' u m := by
  obtain ⟨h1, h2⟩ := hu
  refine ⟨h1, ?_⟩
  rcases h2 with h2 | ⟨g, cap, cur, rfl, hB, hh, hr⟩
  · exact .inl h2
  · refine .inr ⟨g, cap, cur, rfl, hB, ?_, hr⟩
    refine (hg.block g (Array.getElem?_eq_some_iff.1 hh).1 (fun e => ?_)).trans hh
    rcases hv.2 with ⟨rfl, _⟩ | ⟨k, _, cur', rfl, _, hk, _⟩
    · simp [Value.ownBlock] at e
    · simp [Value.ownBlock] at e
      subst e
      rw [hh] at hk
      simp at hk
theorem Own.put {w : World} {B : Nat} {v : Value} {l : List UInt8} (h : Own w B v l) {k : Nat} {o : Obj} (o' : Obj) (hk : w.heap[k]? = Option.some o) (ho : o.isCells = false) : Own (w.putObj k o') B v l := ownsRow_putObj h o' hk ho
theorem Own.box {w : World} {B : Nat} {v : Value} {l : List UInt8} (h : Own w B v l) {k : Nat} {t : TypeId} {x : Value} (hk : Boxed w k t x) (ht : t ≠ 5) (y : Value) : Own (w.setCell ⟨k, 0, none⟩ y) B v l :=
  World.ownsRow.kept h (grownBy_setCell' w k y) (.inr (hk.not_row ht h).symm)

theorem row_mono {w : World} {B B' e size n : Nat} {v : Value} {us : List Value} (h : w.ownsRow B e size v n us) (hB : B' ≤ B) : w.ownsRow B' e size v n us := by
  obtain ⟨h1, h2⟩ := h
  refine ⟨h1, ?_⟩
  rcases h2 with h2 | ⟨g, cap, cur, hv, hg, h⟩
  · exact .inl h2
  · exact .inr ⟨g, cap, cur, hv, Nat.le_trans hB hg, h⟩
theorem lastN_snoc (l : List (Nat × List UInt8)) (x : Nat × List UInt8) : lastN (l ++ [x]) = x.1 := by simp [lastN]
/-- What Scan's variables hold. -/
def ScanI (n0 g : Nat) (w : World) (pre : List Frm) (W : World) : Prop :=
  (∃ v, Boxed W g 49 v ∧ W.ownsRow n0 33 1 v pre.length (pre.map (·.2.1))) ∧ Boxed W (g + 1) 3 (.int .i64 (lastN (pre.map (fun x => (x.1, x.2.2))) : Int)) ∧ (∀ x ∈ pre, Own W n0 x.2.1 x.2.2) ∧ Below w.heap.size w W

set_option maxRecDepth 100000 in
theorem frames_any (a : Option Addr) (n cap : Nat) (w : World) : Calls Tryd.prog 51 #[.slice a n cap] w fun e w' => e = .returned (.func (.func 60) #[] #[.pointer (some ⟨w.heap.size, 0, none⟩)]) ∧ w' = w.alloc (.cells #[.slice a n cap] 33) := by
  go_enter Tryd.func51, Tryd.ntmps51
  go_wp2
  go_ret
  exact ⟨rfl, rfl⟩

set_option maxRecDepth 100000 in
set_option maxHeartbeats 4000000 in
theorem scan_any (v : Value) (b : List UInt8) (w : World) (hT : Tab w) (hr : Rd w v b) (hl : b.length ≤ 1000000) :
    Calls Tryd.prog 29 #[v] w fun e w' => ∃ u, e = .returned (.tuple #[u, .int .i64 (ends b : Int)]) ∧ OwnR w' w.heap.size u (texts b) ∧ Below w.heap.size w w' := by
  obtain ⟨a, cap, hv⟩ := hr.slice
  subst hv
  obtain ⟨i0, hi, hz0, hz1, hz2⟩ := info_parts Tryd.infoB
  obtain ⟨n, -⟩ : ∃ n : Nat, True := ⟨9, trivial⟩
  refine (callsIn_wide (n := n)).1 ?_
  refine callsIn_of_wp_marks Tryd.func29 rfl trivial ?_ rfl
  simp only [Tryd.ntmps29, List.size_toArray, List.length_cons, List.length_nil, Nat.reduceAdd, Nat.reduceSub, Array.replicate_succ, Array.replicate_zero, List.push_toArray, List.append_toArray, List.nil_append, List.cons_append]
  gi_wp2_with fail
  refine wide_call (frames_any a b.length cap _) ?_
  rintro e w1 ⟨rfl, hw1⟩
  have bT := ((Boxed.new w 49 (.slice none 0 0)).alloc (.cells #[Value.int .i64 0] 3)).alloc (.cells #[Value.slice a b.length cap] 33)
  have bE := Boxed.new (w.alloc (.cells #[Value.slice none 0 0] 49)) 3 (.int .i64 0)
  rw [World.size_alloc] at bE
  have bE := bE.alloc (.cells #[Value.slice a b.length cap] 33)
  have bB := Boxed.new ((w.alloc (.cells #[Value.slice none 0 0] 49)).alloc (.cells #[Value.int .i64 0] 3)) 33 (.slice a b.length cap)
  simp only [World.size_alloc] at bB
  have hb0 : Below w.heap.size w (((w.alloc (.cells #[Value.slice none 0 0] 49)).alloc (.cells #[Value.int .i64 0] 3)).alloc (.cells #[Value.slice a b.length cap] 33)) :=
    (((Below.refl _ w).alloc (Nat.le_refl _) _).alloc (by simp) _).alloc (by simp; omega) _
  have hs1 : w1.heap.size = w.heap.size + 3 := by rw [hw1]; simp
  rw [← hw1] at bT bE bB hb0
  simp only [World.size_alloc]
  have hT1 : Tab w1 := hT.kept hb0
  have hr1 : Rd w1 (.slice a b.length cap) b := hr.kept hb0
  have hG0 : ¬ (0 = w.heap.size ∨ 0 = w.heap.size + 1 ∨ w1.heap.size ≤ 0) := by have := hT.1; omega
  clear hw1
  have HS1 := hide hs1
  have hs2 : w.heap.size + 3 ≤ w1.heap.size := by omega
  clear hs1
  gi_wp2_with fail
  refine wp_ranged (n := n) (gf := 60) (lb := #[.pointer (some ⟨w.heap.size + 2, 0, none⟩)]) rfl (enters_of Tryd.func60 (by kernel_rfl) rfl) (encs := frmV) (fun _ => rfl) (R := frmR w1.heap.size) (S := frmS b) (ScanI w1.heap.size w.heap.size w) ?ip ?ib ?rp ?h0 (N := b.length / 32 + 1) (G := fun k => k = w.heap.size ∨ k = w.heap.size + 1 ∨ w1.heap.size ≤ k) (fun k hk => .inr (.inr hk))
    (frames1_hands (n - 1) (w.heap.size + 2) a cap b w1 bB.cell bB.lt hT1 hr1 (by omega) hG0 (by omega) (fun x hx h => by have := hr.inB_lt hx; omega))
    (fun x => { tmps := #[.slice a b.length cap, undef, .slice none 0 0, .int .i64 0, .pointer (some ⟨w.heap.size, 0, none⟩), .pointer (some ⟨w.heap.size + 1, 0, none⟩), .int .i64 (x.1 : Int), x.2.1, .slice a b.length cap, .func (.func 60) #[] #[.pointer (some ⟨w.heap.size + 2, 0, none⟩)], .int .i64 (x.1 : Int), x.2.1, undef, undef, undef, undef, undef, undef, undef], defers := [] }) ?assign ?body ?done
  case ip =>
    rintro pre W k r o hk hW ⟨⟨v, h1, h2⟩, h3, h4, h5⟩
    refine ⟨⟨v, ?_, ownsRow_putObj h2 o hW rfl⟩, ?_, fun x hx => (h4 x hx).put o hW rfl, ?_⟩
    · exact (World.putObj_heap_other (by omega)).trans h1
    · exact (World.putObj_heap_other (by omega)).trans h3
    · exact h5.trans ((chg_put (G := fun k => w.heap.size ≤ k) (by omega) o).below h5.size (fun k hk h => by omega))
  case ib =>
    rintro pre X Y ⟨⟨v, h1, h2⟩, h3, h4, h5⟩ hb
    refine ⟨⟨v, (hb.block _ h1.lt).trans h1, ?_⟩, (hb.block _ h3.lt).trans h3, fun x hx => (h4 x hx).kept hb, h5.trans (hb.mono h5.size)⟩
    obtain ⟨q1, q2⟩ := h2
    refine ⟨q1, ?_⟩
    rcases q2 with q2 | ⟨g, cp, cur, hv, hg, hh, q⟩
    · exact .inl q2
    · exact .inr ⟨g, cp, cur, hv, hg, (hb.block g (Array.getElem?_eq_some_iff.1 hh).1).trans hh, q⟩
  case rp => exact fun x W k r o _ hW hR => Own.put hR o hW rfl
  case h0 => exact ⟨⟨_, bT, World.ownsRow_nil _ _ _ _⟩, bE, fun x hx => by simp at hx, hb0⟩
  case assign =>
    intro l x W K hK
    simp only [frmV]
    gi_wp2
    exact hK
  case body =>
    rintro l pre ⟨nx, u, t⟩ W hle ⟨⟨v, h1, h2⟩, h3, h4, h5⟩ hR hlen
    have hc := h1.cell
    have hR' : Own W w1.heap.size u t := hR
    obtain ⟨ua, uc, hu⟩ := hR'.form
    subst hu
    gi_wp2_with (gi_at_builtin; refine wpListIn_append_own _ rfl _ _ 49 rfl w1.heap.size 33 i0 (.slice none 0 0) 1 24 Tryd.underlying49 hi hz0 hz1 hz2 rfl (by decide) _ _ _ rfl (h2.alloc _) ⟨W.heap.size, 0, none⟩ 1 1 [.slice ua t.length uc] rfl rfl (cell_one_new _ _ _) (by simp [Value.oneCell']) (by simp only [maxLen]; omega) (by omega) (by simp; omega) ?_; intro v' w2 hown' hgrow _; replace hgrow : (W.alloc (.cells #[Value.slice ua t.length uc] 33)).grownBy w2 v.ownBlock := hgrow; obtain ⟨g', cap', rfl⟩ := ownsRow_succ hown'; obtain ⟨hv1, hv2, -, hk2, hb2⟩ := h1.appended (by decide) (row_mono h2 (by omega)) h5.size (Nat.le_refl _) (row_mono hown' (by omega)) hgrow; have hc1 := hv1.cell; have hf1 := hv1.frozen; have he1 := ((h3.alloc _).kept hgrow (h3.not_row (by decide) h2)).other (B' := w.heap.size) (by omega) (.slice (some ⟨g', 0, none⟩) (pre.length + 1) cap'); have hc2 := he1.cell; have hf2 := he1.frozen)
    have ht2 : (w2.setCell ⟨w.heap.size, 0, none⟩ (.slice (some ⟨g', 0, none⟩) (pre.length + 1) cap')).ownsRow w1.heap.size 33 1 (.slice (some ⟨g', 0, none⟩) (pre.length + 1) cap') (pre.length + 1) (pre.map (·.2.1) ++ [.slice ua t.length uc]) :=
      hown'.kept (grownBy_setCell' w2 _ _) (.inr (hv1.not_row (by decide) hown').symm)
    have hch : Chg (fun k => k = w.heap.size ∨ k = w.heap.size + 1 ∨ w1.heap.size ≤ k) W w2 := (Chg.alloc _ W _).trans (Chg.of_grown hgrow (fun k hk _ => .inr (.inr (by
      rcases h2.2 with ⟨e, _⟩ | ⟨q, _, _, e, hq, _⟩
      · rw [e] at hk
        simp [Value.ownBlock] at hk
      · rw [e] at hk
        have : q = k := by simpa [Value.ownBlock] using hk
        omega))))
    have hold : ∀ y : Value, ∀ m : List UInt8, Own W w1.heap.size y m → Own ((w2.setCell ⟨w.heap.size, 0, none⟩ (.slice (some ⟨g', 0, none⟩) (pre.length + 1) cap')).setCell ⟨w.heap.size + 1, 0, none⟩ (.int .i64 (nx : Int))) w1.heap.size y m := fun y m hy =>
      (((hy.kept ((Below.refl _ _).alloc (Nat.le_refl _) _)).past (h2.alloc _) hgrow).box hv1 (by decide) _).box he1 (by decide) _
    refine ⟨(hk2.trans (KeepsOthers.setCell _ _ _)).from _, (hch.trans (Chg.setCell _ (.inl rfl) _ _)).trans (Chg.setCell _ (.inr (.inl rfl)) _ _), ⟨_, hv2.other (by omega) _, ?_⟩, ?_, ?_, ?_⟩
    · have := ht2.kept (grownBy_setCell' _ (w.heap.size + 1) (.int .i64 (nx : Int))) (.inr (he1.not_row (by decide) ht2).symm)
      simpa using this
    · rw [List.map_append, List.map_cons, List.map_nil, lastN_snoc]
      exact he1.set _
    · intro x hx
      rcases List.mem_append.1 hx with hx | hx
      · exact hold _ _ (h4 x hx)
      · simp at hx
        subst hx
        exact hold _ _ hR'
    · exact h5.trans (hb2.setCell (p := ⟨w.heap.size + 1, 0, none⟩) (Nat.le_succ _) _)
  case done =>
    rintro D xs W hD hS ⟨⟨v, h1, h2⟩, h3, h4, h5⟩ hK
    obtain ⟨va, vc, hv⟩ : ∃ va vc, v = .slice va xs.length vc := by
      rcases h2.2 with ⟨e, h0⟩ | ⟨g, cp, _, e, _⟩
      · exact ⟨none, 0, by rw [e, h0]⟩
      · exact ⟨_, _, e⟩
    subst hv
    have hc1 := h1.cell
    have hc2 := h3.cell
    have hmx : Tryd.prog.follows .mixedOrders = true := by kernel_rfl
    gi_wp2_with fail
    gi_region
    gi_wp2_with fail
    refine ⟨by simp, .inl ⟨_, _, rfl, run_takeDeferred hK, ?_⟩⟩
    have hf : frmS b xs := hS
    unfold frmS at hf
    have hx : texts b = xs.map (·.2.2) := by unfold texts; rw [← hf]; simp
    refine ⟨_, results_tmp2 rfl _ _ _, .slice va xs.length vc, ?_, ?_, ?_⟩
    · unfold ends
      rw [← hf]
      rfl
    · rw [hx]
      refine ⟨xs.map (·.2.1), by simp, ?_, fun j q1 q2 => ?_⟩
      · rw [List.length_map]
        exact row_mono (ownsRow_putObj h2 _ hK rfl) (by omega)
      · simp only [List.getElem_map]
        exact ((h4 _ (List.getElem_mem _)).put _ hK rfl).mono (by omega)
    · exact h5.trans (((Chg.drew (fun k => w.heap.size ≤ k) W).trans (chg_put (by omega) _)).below h5.size (fun k hk h => by omega))
#print axioms scan_any
end Go.Proofs.YtgdhjgfoalianaaDoor

/-
  wal.filled: a frame and its noughts.
-/
namespace Go.Proofs.YtgdhjgfoalianaaDoor
open Go.RowKit

/-- A frame, and noughts up to the next sector. -/
def pad (l : List UInt8) : List UInt8 := framed l ++ List.replicate (ru (framed l).length - (framed l).length) 0
theorem pad_length (l : List UInt8) : (pad l).length = ru (framed l).length := by
  have := ru_ge (framed l).length
  simp [pad]; omega
theorem own_of_blk {w : World} {B g n : Nat} {l : List UInt8} (h : Blk w g 5 (By l)) (hB : B ≤ g) (hn : l.length = n) (hm : n ≤ maxLen) : Own w B (.slice (some ⟨g, 0, none⟩) n n) l := by
  subst hn
  refine ⟨by simp [By_length], .inr ⟨g, l.length, (By l).toArray, rfl, hB, h, Nat.le_refl _, hm, by simp [By_length], ?_⟩⟩
  rw [List.toList_toArray, List.take_of_length_le (by simp [By_length])]

set_option maxRecDepth 100000 in
theorem filled_any (v : Value) (l : List UInt8) (w : World) (hT : Tab w) (hr : Rd w v l) (hl : l.length ≤ 8192) :
    Calls Tryd.prog 37 #[v] w fun e w' => ∃ v', e = .returned v' ∧ Own w' w.heap.size v' (pad l) ∧ Below w.heap.size w w' := by
  obtain ⟨i0, hi, hz0, hz1, hz2⟩ := info_parts Tryd.info5
  have HT := hide hT
  have HR := hide hr
  obtain ⟨F, hF⟩ : ∃ F, F = framed l := ⟨_, rfl⟩
  have HF := hide hF
  have hFl : F.length ≤ 8300 := by rw [hF, framed_length]; have := enc_length l.length; omega
  obtain ⟨N, hN⟩ : ∃ N, N = ru F.length := ⟨_, rfl⟩
  have HN := hide hN
  have hN1 : F.length ≤ N := by rw [hN]; exact ru_ge _
  have hN2 : N < F.length + 32 := by rw [hN]; exact ru_lt _
  clear hF hN hT hr
  go_enter Tryd.func37, Tryd.ntmps37
  go_wp2_with fail
  refine (frame_any v l w HT.out HR.out hl).mono ?_
  rw [← HF.out]
  rintro e w1 ⟨v1, rfl, ho1, hb1⟩
  obtain ⟨a, c, rfl⟩ := ho1.form
  have HO := hide ho1
  have hro := roundUp_any F.length (by omega) w1
  rw [← HN.out] at hro
  have HRO := hide hro
  clear hro ho1
  go_wp2_with fail
  refine HRO.out.mono ?_
  rintro e w2 ⟨rfl, hw2⟩
  subst w2
  have ba : Below w1.heap.size w1 (w1.alloc (.cells (List.replicate N (Value.int .u8 0)).toArray 5)) := (Below.refl _ _).alloc (Nat.le_refl _) _
  have R2 := hide (HO.out.rd.kept ba)
  have B2 := hide (Blk.new w1 5 (List.replicate N (Value.int .u8 0)))
  have B3 : Hid (Blk ((w1.alloc (.cells (List.replicate N (Value.int .u8 0)).toArray 5)).setCells w1.heap.size 0 (By F)) w1.heap.size 5 (By (pad l))) := by
    have := Blk.over (By F) B2.out 0 (by rw [By_length]; simp; omega)
    have e : over (List.replicate N (Value.int .u8 0)) 0 (By F) = By (pad l) := by
      unfold over pad
      rw [← HF.out, ← HN.out, By_append, By_length, List.take_zero, List.nil_append, Nat.zero_add, List.drop_replicate]
      simp [By]
    rw [e] at this
    exact this
  have b3 := hide (ba.trans ((But.setCells w1.heap.size (By F) 0 _).below (Nat.le_refl _) (by simp)))
  have hpl : (pad l).length = N := by rw [pad_length, ← HF.out, ← HN.out]
  go_wp2_with (first
    | (at_make; refine wpList_make_bytes _ rfl _ _ 33 rfl i0 Tryd.underlying33 hi hz0 hz1 hz2 _ _ _ _ N N rfl rfl rfl rfl (by omega) (by omega) ?_)
    | (refine wpList_copy_bytes rfl _ _ 33 33 rfl 5 Tryd.underlying33 Tryd.size5 w1.heap.size 0 N N _ F rfl rfl R2.out F F.length (List.take_of_length_le hN1) rfl 5 (List.replicate N (Value.int .u8 0)) B2.out (by simp) ?_))
  go_ret
  exact ⟨_, rfl, own_of_blk B3.out hb1.size hpl (by simp only [maxLen]; omega), hb1.trans (b3.out.mono hb1.size)⟩
#print axioms filled_any
end Go.Proofs.YtgdhjgfoalianaaDoor
