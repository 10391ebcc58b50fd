/-
  Texts that ride together: Gen9 Region6 BfP BfK BfM.
-/
import Derived.Test.YtcicekggeampcaaGreatGK
import Derived.Maps.OwnSet
/-
  What may change; rows of elements of any make in memory: what one reads as, what the call owns.
-/
namespace Go.Proofs.YtcicekggeampcaaGreat
open Go.RowKit
theorem hide {p : Prop} (h : p) : Hid p := h

/-- w' is w but for blocks of F; new blocks may be there. -/
structure Chg (F : Nat → Prop) (w w' : World) : Prop where
  os : w'.os = w.os
  tape : w'.tape = w.tape
  output : w'.output = w.output
  size : w.heap.size ≤ w'.heap.size
  block : ∀ k, k < w.heap.size → ¬ F k → w'.heap[k]? = w.heap[k]?
theorem Chg.refl (F : Nat → Prop) (w : World) : Chg F w w := ⟨rfl, rfl, rfl, Nat.le_refl _, fun _ _ _ => rfl⟩
theorem Chg.trans {F : Nat → Prop} {x y z : World} (h : Chg F x y) (k : Chg F y z) : Chg F x z :=
  ⟨k.os.trans h.os, k.tape.trans h.tape, k.output.trans h.output, Nat.le_trans h.size k.size, fun i hi hn => (k.block i (Nat.lt_of_lt_of_le hi h.size) hn).trans (h.block i hi hn)⟩
/-- .. where what may change behind is new, or may change ahead. -/
theorem Chg.then {F G : Nat → Prop} {x y z : World} (h : Chg F x y) (k : Chg G y z) (hG : ∀ i, i < x.heap.size → G i → F i) : Chg F x z :=
  ⟨k.os.trans h.os, k.tape.trans h.tape, k.output.trans h.output, Nat.le_trans h.size k.size, fun i hi hn => (k.block i (Nat.lt_of_lt_of_le hi h.size) (fun g => hn (hG i hi g))).trans (h.block i hi hn)⟩
theorem Chg.mono {F G : Nat → Prop} {w w' : World} (h : Chg F w w') (hF : ∀ i, i < w.heap.size → F i → G i) : Chg G w w' :=
  ⟨h.os, h.tape, h.output, h.size, fun i hi hn => h.block i hi (fun f => hn (hF i hi f))⟩
theorem Chg.of_below {F : Nat → Prop} {w w' : World} (h : Below w.heap.size w w') : Chg F w w' := ⟨h.os, h.tape, h.output, h.size, fun k hk _ => h.block k hk⟩
theorem Chg.of_but {F : Nat → Prop} {b : Nat} {w w' : World} (h : But b w w') (hb : F b) : Chg F w w' :=
  ⟨h.os, h.tape, h.output, h.size, fun k hk hn => h.block k hk (fun e => hn (e ▸ hb))⟩
theorem Chg.of_grown {F : Nat → Prop} {r : Option Nat} {w w' : World} (h : w.grownBy w' r) (hr : ∀ k, r = some k → k < w.heap.size → F k) : Chg F w w' :=
  ⟨h.os, h.tape, h.output, h.size, fun k hk hn => h.block k hk (fun e => hn (hr k e.symm hk))⟩
theorem Chg.below {F : Nat → Prop} {w w' : World} (h : Chg F w w') {B : Nat} (hB : B ≤ w.heap.size) (hF : ∀ k, k < B → ¬ F k) : Below B w w' :=
  ⟨h.os, h.tape, h.output, h.size, fun k hk => h.block k (by omega) (hF k hk)⟩
theorem Chg.alloc (F : Nat → Prop) (w : World) (o : Obj) : Chg F w (w.alloc o) := ⟨rfl, rfl, rfl, by simp, fun k hk _ => Below.heap_alloc _ _ _ hk⟩
theorem Chg.setCell {F : Nat → Prop} (w : World) {b : Nat} (hb : F b) (j : Nat) (v : Value) : Chg F w (w.setCell ⟨b, j, none⟩ v) := Chg.of_but (But.setCell b w j v) hb
theorem Chg.setCells {F : Nat → Prop} (w : World) {b : Nat} (hb : F b) (j : Nat) (ds : List Value) : Chg F w (w.setCells b j ds) := Chg.of_but (But.setCells b ds j w) hb
theorem Blk.chg {w w' : World} {b : Nat} {T : TypeId} {cs : List Value} (h : Blk w b T cs) {F : Nat → Prop} (hb : Chg F w w') (hF : ¬ F b) : Blk w' b T cs := (hb.block b h.lt hF).trans h


/-- The slice lies in block b. -/
def InB (v : Value) (b : Nat) : Prop := ∃ off n cap, v = .slice (some ⟨b, off, none⟩) n cap ∧ 0 < n
theorem Chg.cellAt {F : Nat → Prop} {w w' : World} (h : Chg F w w') {b j : Nat} (hb : b < w.heap.size) (hF : ¬ F b) : w'.cell? ⟨b, j, none⟩ = w.cell? ⟨b, j, none⟩ := by
  simp [World.cell?, h.block b hb hF]

/-- How an element lies in cells. -/
structure Enc (α : Type) where
  c : α → List Value
  n : Nat
  len : ∀ x, (c x).length = n
  one : ∀ x, ∀ u ∈ c x, u.oneCell' = true
def Enc.cs {α : Type} (E : Enc α) (L : List α) : List Value := L.flatMap E.c
section
variable {α : Type} {E : Enc α}
theorem Enc.cs_nil : E.cs [] = [] := rfl
theorem Enc.cs_cons (v : α) (L : List α) : E.cs (v :: L) = E.c v ++ E.cs L := rfl
theorem Enc.cs_append (L M : List α) : E.cs (L ++ M) = E.cs L ++ E.cs M := by simp [Enc.cs]
theorem Enc.cs_one1 (v : α) : E.cs [v] = E.c v := by simp [Enc.cs]
theorem Enc.cs_length : ∀ (L : List α), (E.cs L).length = L.length * E.n
  | [] => by simp [Enc.cs]
  | v :: L => by rw [Enc.cs_cons, List.length_append, E.len, Enc.cs_length L, List.length_cons, Nat.add_mul]; omega
theorem Enc.cs_one (L : List α) : ∀ u ∈ E.cs L, u.oneCell' = true := by
  intro u hu
  obtain ⟨v, _, h⟩ := List.mem_flatMap.1 hu
  exact E.one v u h
theorem Enc.cs_take : ∀ (L : List α) (k : Nat), E.cs (L.take k) = (E.cs L).take (k * E.n)
  | [], k => by simp [Enc.cs]
  | v :: L, 0 => by simp [Enc.cs]
  | v :: L, k + 1 => by
    rw [List.take_succ_cons, Enc.cs_cons, Enc.cs_cons, Enc.cs_take L k, List.take_append, E.len, List.take_of_length_le (l := E.c v) (by rw [E.len, Nat.add_mul]; omega)]
    congr 2
    rw [Nat.add_mul]
    omega
theorem Enc.cs_drop : ∀ (L : List α) (k : Nat), E.cs (L.drop k) = (E.cs L).drop (k * E.n)
  | [], k => by simp [Enc.cs]
  | v :: L, 0 => by simp [Enc.cs]
  | v :: L, k + 1 => by
    rw [List.drop_succ_cons, Enc.cs_cons, Enc.cs_drop L k, List.drop_append, E.len, List.drop_of_length_le (l := E.c v) (by rw [E.len, Nat.add_mul]; omega), List.nil_append]
    congr 1
    rw [Nat.add_mul]
    omega
theorem Enc.cs_get {L : List α} {j : Nat} (h : j < L.length) {i : Nat} {u : Value} (hi : (E.c L[j])[i]? = some u) : (E.cs L)[j * E.n + i]? = some u := by
  have e : E.cs L = E.cs (L.take j) ++ (E.c L[j] ++ E.cs (L.drop (j + 1))) := by
    rw [← Enc.cs_cons, ← Enc.cs_append, ← List.drop_eq_getElem_cons h, List.take_append_drop]
  have hlt := (List.getElem?_eq_some_iff.1 hi).1
  have hl : (E.cs (L.take j)).length = j * E.n := by rw [Enc.cs_length, List.length_take]; congr 1; omega
  rw [e, List.getElem?_append_right (by omega), hl, Nat.add_sub_cancel_left, List.getElem?_append_left hlt]
  exact hi
/-- The slice value v reads as the elements L. -/
def RdG (E : Enc α) (w : World) (v : Value) (L : List α) : Prop :=
  ∃ a cap, v = .slice a L.length cap ∧ L.length ≤ cap ∧ cap ≤ maxLen ∧ (a = none → cap = 0) ∧
    (0 < L.length → ∃ b off, a = some ⟨b, off, none⟩ ∧ b < w.heap.size ∧ ∀ j u, (E.cs L)[j]? = some u → w.cell? ⟨b, off + j, none⟩ = some u)
theorem RdG_nil (w : World) : RdG E w (.slice none 0 0) [] := ⟨none, 0, rfl, by simp, by simp, fun _ => rfl, fun h => by simp at h⟩
theorem RdG.chg {w w' : World} {v : Value} {L : List α} {F : Nat → Prop} (h : RdG E w v L) (hc : Chg F w w') (hF : ∀ b, InB v b → ¬ F b) : RdG E w' v L := by
  obtain ⟨a, cap, rfl, h1, h2, h3, h4⟩ := h
  refine ⟨a, cap, rfl, h1, h2, h3, fun hl => ?_⟩
  obtain ⟨b, off, rfl, hlt, hcell⟩ := h4 hl
  refine ⟨b, off, rfl, Nat.lt_of_lt_of_le hlt hc.size, fun j u hj => ?_⟩
  rw [← hcell j u hj]
  simp only [World.cell?]
  rw [hc.block b hlt (hF b ⟨off, _, _, rfl, hl⟩)]
theorem RdG.kept {w w' : World} {v : Value} {L : List α} (h : RdG E w v L) (hb : Below w.heap.size w w') : RdG E w' v L :=
  h.chg (F := fun _ => False) (Chg.of_below hb) (fun _ _ => id)
theorem RdG.slice {w : World} {v : Value} {L : List α} (h : RdG E w v L) : ∃ a cap, v = .slice a L.length cap := by
  obtain ⟨a, cap, rfl, -⟩ := h
  exact ⟨a, cap, rfl⟩
theorem RdG.inB_lt {w : World} {v : Value} {L : List α} (h : RdG E w v L) {b : Nat} (hb : InB v b) : b < w.heap.size := by
  obtain ⟨a, cap, rfl, h1, h2, h3, h4⟩ := h
  obtain ⟨off, n, cap', e, hn⟩ := hb
  simp only [Value.slice.injEq] at e
  obtain ⟨rfl, rfl, rfl⟩ := e
  obtain ⟨b', off', e, hlt, _⟩ := h4 hn
  simp only [Option.some.injEq, Addr.mk.injEq, and_true] at e
  obtain ⟨rfl, rfl⟩ := e
  exact hlt
/-- Where the elements lie. -/
theorem RdG.nth {w : World} {a : Option Addr} {n cap : Nat} {L : List α} (h : RdG E w (.slice a n cap) L) (hp : 0 < n) :
    ∃ b off, a = some ⟨b, off, none⟩ ∧ b < w.heap.size ∧ ∀ j (hj : j < L.length), w.rangeAt b (off + j * E.n) (E.c L[j]) := by
  obtain ⟨a', cap', e, h1, h2, h3, h4⟩ := h
  simp only [Value.slice.injEq] at e
  obtain ⟨rfl, rfl, rfl⟩ := e
  obtain ⟨b, off, rfl, hlt, hc⟩ := h4 hp
  refine ⟨b, off, rfl, hlt, fun j hj i u hi => ?_⟩
  rw [Nat.add_assoc]
  exact hc (j * E.n + i) u (Enc.cs_get hj hi)
theorem RdG.len {w : World} {a : Option Addr} {n cap : Nat} {L : List α} (h : RdG E w (.slice a n cap) L) : L.length = n := by
  obtain ⟨a', cap', e, _⟩ := h
  simp only [Value.slice.injEq] at e
  exact e.2.1.symm
theorem RdG.cap {w : World} {a : Option Addr} {n cap : Nat} {L : List α} (h : RdG E w (.slice a n cap) L) : n ≤ cap := by
  obtain ⟨a', cap', e, h1, _⟩ := h
  simp only [Value.slice.injEq] at e
  obtain ⟨_, rfl, rfl⟩ := e
  exact h1
theorem RdG.max {w : World} {a : Option Addr} {n cap : Nat} {L : List α} (h : RdG E w (.slice a n cap) L) : cap ≤ 9223372036854775807 := by
  obtain ⟨a', cap', e, h1, h2, _⟩ := h
  simp only [Value.slice.injEq] at e
  obtain ⟨_, rfl, rfl⟩ := e
  simpa [maxLen] using h2
/-- The slice value v, of a row of elements of type e from block B on, is the call's own and holds the elements L. -/
def OwnG (E : Enc α) (w : World) (B : Nat) (e : TypeId) (v : Value) (L : List α) : Prop := w.ownsRow B e E.n v L.length (E.cs L)
theorem OwnG.rd {w : World} {B : Nat} {e : TypeId} {v : Value} {L : List α} (h : OwnG E w B e v L) : RdG E w v L := by
  have hc := h
  obtain ⟨h1, h2⟩ := h
  rcases h2 with ⟨rfl, hn⟩ | ⟨g, cap, cur, rfl, hg, hh, hnc, hcm, hcs, htk⟩
  · have : L = [] := List.eq_nil_of_length_eq_zero hn
    subst this
    exact RdG_nil w
  · refine ⟨some ⟨g, 0, none⟩, cap, rfl, hnc, hcm, fun h => by simp at h, fun _ => ⟨g, 0, rfl, ?_, fun j u hj => ?_⟩⟩
    · exact (Array.getElem?_eq_some_iff.1 hh).1
    · have := World.ownsRow.cells hc (g := g) rfl j u hj
      simpa [Addr.add_lit] using this
theorem ownG_nil (w : World) (B : Nat) (e : TypeId) : OwnG E w B e (.slice none 0 0) [] := ⟨by simp [Enc.cs], .inl ⟨rfl, rfl⟩⟩
theorem OwnG.chg {w w' : World} {B : Nat} {e : TypeId} {v : Value} {L : List α} {F : Nat → Prop} (h : OwnG E w B e v L) (hc : Chg F w w') (hF : ∀ b, v.ownBlock = some b → ¬ F b) : OwnG E w' B e v L := by
  obtain ⟨h1, h2⟩ := h
  refine ⟨h1, ?_⟩
  rcases h2 with h2 | ⟨g, cap, cur, hv, hg, hh, r⟩
  · exact Or.inl h2
  · have hlt : g < w.heap.size := (Array.getElem?_eq_some_iff.1 hh).1
    exact Or.inr ⟨g, cap, cur, hv, hg, by rw [hc.block g hlt (hF g (by rw [hv]; rfl))]; exact hh, r⟩
theorem OwnG.kept {w w' : World} {B : Nat} {e : TypeId} {v : Value} {L : List α} (h : OwnG E w B e v L) (hb : Below w.heap.size w w') : OwnG E w' B e v L :=
  h.chg (F := fun _ => False) (Chg.of_below hb) (fun _ _ => id)
theorem OwnG.mono {w : World} {B B' : Nat} {e : TypeId} {v : Value} {L : List α} (h : OwnG E w B e v L) (hB : B' ≤ B) : OwnG E w B' e v L := by
  obtain ⟨h1, h2⟩ := h
  refine ⟨h1, ?_⟩
  rcases h2 with h2 | ⟨g, cap, cur, hv, hg, r⟩
  · exact Or.inl h2
  · exact Or.inr ⟨g, cap, cur, hv, Nat.le_trans hB hg, r⟩
theorem OwnG.block {w : World} {B : Nat} {e : TypeId} {v : Value} {L : List α} (h : OwnG E w B e v L) {b : Nat} (hb : v.ownBlock = some b) : B ≤ b ∧ b < w.heap.size ∧ ∃ cur, w.heap[b]? = some (.cells cur e (0, 0)) := by
  obtain ⟨h1, h2⟩ := h
  rcases h2 with ⟨rfl, _⟩ | ⟨g, cap, cur, rfl, hg, hh, r⟩
  · cases hb
  · cases hb
    exact ⟨hg, (Array.getElem?_eq_some_iff.1 hh).1, cur, hh⟩
theorem inB_own {v : Value} {b : Nat} (h : InB v b) : v.ownBlock = some b := by
  obtain ⟨off, n, cap, rfl, _⟩ := h
  rfl
/-- The block of an owned row, cell by cell. -/
theorem OwnG.blk {w : World} {B : Nat} {e : TypeId} {v : Value} {L : List α} (h : OwnG E w B e v L) (hp : 0 < L.length) :
    ∃ g cap, ∃ cur : List Value, v = .slice (some ⟨g, 0, none⟩) L.length cap ∧ B ≤ g ∧ Blk w g e cur ∧ cur.take (L.length * E.n) = E.cs L ∧ cur.length = cap * E.n ∧ L.length ≤ cap ∧ cap ≤ maxLen := by
  obtain ⟨h1, h2⟩ := h
  rcases h2 with ⟨_, hn⟩ | ⟨g, cap, cur, rfl, hg, hh, hnc, hcm, hcs, htk⟩
  · omega
  · exact ⟨g, cap, cur.toList, rfl, hg, by simpa [Blk] using hh, htk, by simpa using hcs, hnc, hcm⟩
theorem OwnG.of_blk {w : World} {B g cap : Nat} {e : TypeId} {L : List α} {cur : List Value} (hb : Blk w g e cur) (hB : B ≤ g) (ht : cur.take (L.length * E.n) = E.cs L) (hc : cur.length = cap * E.n) (h1 : L.length ≤ cap) (h2 : cap ≤ maxLen) : OwnG E w B e (.slice (some ⟨g, 0, none⟩) L.length cap) L :=
  ⟨Enc.cs_length L, .inr ⟨g, cap, cur.toArray, rfl, hB, hb, h1, h2, by simpa using hc, by simpa using ht⟩⟩
theorem RdG.src {P : Program} {w : World} {v : Value} {L : List α} (h : RdG E w v L) (t e : TypeId) (hk : P.underlying t = some (.slice e)) : Src P E.n t v L.length (E.cs L) w := by
  obtain ⟨a, cap, rfl, h1, h2, h3, h4⟩ := h
  cases a with
  | none =>
    have := h3 rfl
    have hl : L = [] := List.eq_nil_of_length_eq_zero (by omega)
    subst hl
    exact Src.ofNil w hk cap
  | some x =>
    refine Src.ofSlice w hk x L.length cap (E.cs L) (Enc.cs_length L) (fun j u hj => ?_) (Enc.cs_one L)
    have hjl : j < (E.cs L).length := (List.getElem?_eq_some_iff.1 hj).1
    rw [Enc.cs_length] at hjl
    have hp : 0 < L.length := by
      rcases Nat.eq_zero_or_pos L.length with h0 | h0
      · rw [h0] at hjl; omega
      · exact h0
    obtain ⟨b, off, e, _, hc⟩ := h4 hp
    simp only [Option.some.injEq] at e
    subst e
    rw [Addr.add_lit]
    exact hc j u hj
/-- append of elements. -/
theorem wpList_append_G {P : Program} (w : World) {ops : Array Oper} {rest : List Oper} {o : Oper} {a : Act} {Q : Exit → Act → World → Prop} (hgd : o.guard = none) (s x : Operand) (t tx : TypeId)
    (ho : o.op = .call { callee := .builtin .append, args := #[s, x], argTypes := #[t, tx] })
    (base : Nat) (e : TypeId) (z : Value) (bytes : Nat) (ht : P.underlying t = some (.slice e)) (hi : (P.info? e).map (fun i => (i.zero, i.size, i.bytes)) = some (some z, E.n, bytes)) (hzs : z.cells.size = E.n)
    (v : Value) (L : List α) (hv : a.eval s = v) (hown : OwnG E w base e v L)
    (xv : Value) (M : List α) (hx : a.eval x = xv) (hr : RdG E w xv M) (e' : TypeId) (htx : P.underlying tx = some (.slice e'))
    (hlen : (L.length + M.length) * bytes ≤ 140737488355328) (hm : L.length + M.length ≤ maxLen) (hbase : base ≤ w.heap.size)
    (h : ∀ v' w', OwnG E w' base e v' (L ++ M) → w.grownBy w' v.ownBlock → wpList P ops Q rest (a.put o.dst v') w') : wpList P ops Q (o :: rest) a w := by
  obtain ⟨i, hi0, hz0, hz1, hz2⟩ := info_parts hi
  refine wpList_append_mine w hgd s x t tx ho base e i z E.n bytes ht hi0 hz0 hz1 hz2 hzs v L.length (E.cs L) hv hown xv M.length (E.cs M) hx (hr.src tx e' htx) hm hlen hbase ?_
  intro v' w' h1 h2
  refine h v' w' ?_ h2
  unfold OwnG
  rw [List.length_append, Enc.cs_append]
  exact h1
/-- A row of one element. -/
theorem rdG_one (w : World) (T : TypeId) (v : α) : RdG E (w.alloc (.cells (E.c v).toArray T (0, 0))) (.slice (some ⟨w.heap.size, 0, none⟩) 1 1) [v] := by
  refine ⟨some ⟨w.heap.size, 0, none⟩, 1, rfl, by simp, by simp [maxLen], fun h => by simp at h, fun _ => ⟨w.heap.size, 0, rfl, by simp, fun j u hj => ?_⟩⟩
  have := (Blk.new w T (E.c v)).cell (j := j) (v := u) (by simpa [Enc.cs] using hj)
  rwa [Nat.zero_add]
theorem ownG_none (w : World) (B : Nat) (T : TypeId) (hB : B ≤ w.heap.size) : OwnG E (w.alloc (.cells #[] T (0, 0))) B T (.slice (some ⟨w.heap.size, 0, none⟩) 0 0) [] :=
  OwnG.of_blk (L := []) (cur := []) (Blk.new w T []) hB (by simp [Enc.cs]) (by simp) (by simp) (by simp [maxLen])
/-- From place i on. -/
theorem slice_G {P : Program} {t e : TypeId} (ht : P.underlying t = some (.slice e)) (hsz : (P.info? e).map (·.size) = some E.n) (a : Option Addr) (n cap i : Nat) (hi : i ≤ n) (hn : n ≤ cap) :
    ∃ a', (∀ W, (Instr.sliceAt t (.slice a n cap) (some (.int .i64 (i : Int))) none none).run P W = .ok (.slice a' (n - i) (cap - i)) W) ∧ (a' = if cap = i then a else a.map (·.add (i * E.n))) ∧
      (∀ w (L : List α), RdG E w (.slice a n cap) L → RdG E w (.slice a' (n - i) (cap - i)) (L.drop i)) := by
  have e1 : (i : Int) ≤ (n : Int) := by omega
  refine ⟨if cap = i then a else a.map (·.add (i * E.n)), fun W => ?_, rfl, fun w L hr => ?_⟩
  · cases hq : P.info? e with
    | none => simp [hq] at hsz
    | some k =>
      have hk : k.size = E.n := by simpa [hq] using hsz
      simp [Instr.sliceAt, Instr.slice, run_underlying ht, Instr.sliceBounds, run_sliceBound, e1, sizeOf, typeInfo, hq, hk]
  · obtain ⟨a0, cap0, e, h1, h2, h3, h4⟩ := hr
    simp only [Value.slice.injEq] at e
    obtain ⟨rfl, rfl, rfl⟩ := e
    refine ⟨if cap = i then a else a.map (·.add (i * E.n)), cap - i, by simp, by simp; omega, by omega, fun h => ?_, fun hp => ?_⟩
    · by_cases hcc : cap = i
      · omega
      · rw [if_neg hcc] at h
        have := h3 (by simpa using h)
        omega
    · simp at hp
      obtain ⟨b, off, rfl, hlt, hcell⟩ := h4 (by omega)
      rw [if_neg (by omega)]
      refine ⟨b, off + i * E.n, by simp [Addr.add_mid], hlt, fun j u hj => ?_⟩
      rw [Nat.add_assoc]
      refine hcell (i * E.n + j) u ?_
      rw [← hj, Enc.cs_drop, List.getElem?_drop]
/-- Up to place j. -/
theorem slice_G_to {P : Program} {t e : TypeId} (ht : P.underlying t = some (.slice e)) (hsz : (P.info? e).map (·.size) = some E.n) (a : Option Addr) (n cap j : Nat) (hj : j ≤ n) (hn : n ≤ cap) :
    (∀ W, (Instr.sliceAt t (.slice a n cap) none (some (.int .i64 (j : Int))) none).run P W = .ok (.slice a j cap) W) ∧
      (∀ w (L : List α), RdG E w (.slice a n cap) L → RdG E w (.slice a j cap) (L.take j)) := by
  have e2 : (j : Int) ≤ (cap : Int) := by omega
  refine ⟨fun W => ?_, fun w L hr => ?_⟩
  · cases hq : P.info? e with
    | none => simp [hq] at hsz
    | some k =>
      cases a <;> simp [Instr.sliceAt, Instr.slice, run_underlying ht, Instr.sliceBounds, run_sliceBound, e2, sizeOf, typeInfo, hq, Addr.add]
  · obtain ⟨a0, cap0, e, h1, h2, h3, h4⟩ := hr
    simp only [Value.slice.injEq] at e
    obtain ⟨rfl, rfl, rfl⟩ := e
    refine ⟨a, cap, by rw [List.length_take]; congr 1; omega, by rw [List.length_take]; omega, h2, h3, fun hp => ?_⟩
    rw [List.length_take] at hp
    obtain ⟨b, off, rfl, hlt, hcell⟩ := h4 (by omega)
    refine ⟨b, off, rfl, hlt, fun k u hk => hcell k u ?_⟩
    rw [Enc.cs_take] at hk
    have : k < j * E.n := by have := (List.getElem?_eq_some_iff.1 hk).1; rw [List.length_take] at this; omega
    rwa [List.getElem?_take_of_lt this] at hk
end
end Go.Proofs.YtcicekggeampcaaGreat

/-
  A region that draws its order, whose last operations wait for all ahead of them: one step an operation for those ahead, then one behind the other.
-/
namespace Go.Proofs.YtcicekggeampcaaGreat
open Go.RowKit
/-- One behind the other. -/
def wpSeq (P : Program) (Q : Exit → Act → World → Prop) : List Oper → Act → World → Prop
  | [], a, w => Q .normal a w
  | o :: r, a, w => o.guard = none ∧ o.wp P a w (fun a' w' => ∃ v, a' = a.put o.dst v ∧ wpSeq P Q r a' w') Q
/-- Does number i wait for number j, or for one that does? -/
def reachB (ops : Array Oper) : Nat → Nat → Nat → Bool
  | 0, _, _ => false
  | f + 1, i, j => match ops[i]? with
    | some o => o.after.any fun e => Region.binds .any e && (e.on == j || reachB ops f e.on j)
    | none => false
/-- Does each from number k on wait for all ahead of it? -/
def tailsB (ops : Array Oper) (k : Nat) : Bool := (List.range ops.size).all fun i => decide (i < k) || (List.range i).all fun j => reachB ops ops.size i j
/-- What is done has waited. -/
def Closed (ops : Array Oper) (l : Nat → Bool) : Prop := ∀ (i : Nat) (o : Oper), ops[i]? = some o → l i = true → waitsB o l = true
theorem waitsB_mem {o : Oper} {l : Nat → Bool} (h : waitsB o l = true) {e : Edge} (he : e ∈ o.after) (hb : Region.binds .any e = true) : l e.on = true := by
  have := (Array.all_eq_true_iff_forall_mem.1 h) e he
  simpa [hb] using this
theorem reach_done {ops : Array Oper} {l : Nat → Bool} (hc : Closed ops l) : ∀ (f i j : Nat) (o : Oper), ops[i]? = some o → waitsB o l = true → reachB ops f i j = true → l j = true
  | 0, _, _, _, _, _, h => by simp [reachB] at h
  | f + 1, i, j, o, ho, hw, h => by
    rw [reachB, ho] at h
    simp only [Array.any_eq_true', Bool.and_eq_true, Bool.or_eq_true, beq_iff_eq] at h
    obtain ⟨e, he, hb, h⟩ := h
    have hd := waitsB_mem hw he hb
    rcases h with rfl | h
    · exact hd
    · cases hq : ops[e.on]? with
      | none => cases f <;> simp [reachB, hq] at h
      | some o' => exact reach_done hc f e.on j o' hq (hc e.on o' hq hd) h
theorem tailsB_at {ops : Array Oper} {k i : Nat} {o : Oper} {l : Nat → Bool} (hc : Closed ops l) (h : tailsB ops k = true) (ho : ops[i]? = some o) (hk : k ≤ i) (hw : waitsB o l = true) : ∀ j, j < i → l j = true := by
  intro j hj
  have hi : i < ops.size := (Array.getElem?_eq_some_iff.1 ho).1
  have := (List.all_eq_true.1 h) i (by simpa using hi)
  simp only [Bool.or_eq_true, decide_eq_true_eq] at this
  rcases this with h1 | h1
  · omega
  · exact reach_done hc _ i j o ho hw ((List.all_eq_true.1 h1) j (by simpa using hj))
theorem Closed.step {ops : Array Oper} {l : Nat → Bool} (hc : Closed ops l) {i : Nat} {o : Oper} (ho : ops[i]? = some o) (hw : waitsB o l = true) : Closed ops (fun k => l k || k == i) := by
  have hmono : ∀ {o : Oper}, waitsB o l = true → waitsB o (fun k => l k || k == i) = true := fun h => waitsB_of fun e he hb => by
    simp [waitsB_mem h he hb]
  intro j oj hj hl
  by_cases hji : j = i
  · subst hji
    rw [ho] at hj
    cases hj
    exact hmono hw
  · have : (j == i) = false := by simp [hji]
    exact hmono (hc j oj hj (by simpa [this] using hl))
structure TJ (P : Program) (ops : Array Oper) (S : Nat → World → Value → Prop) (Q : Exit → Act → World → Prop) (k : Nat) (w0 : World) (l : Nat → Bool) (a : Act) (w : World) : Prop where
  closed : Closed ops l
  left : (∀ i, k ≤ i → i < ops.size → l i = false) → (∀ (i : Nat) (o : Oper) (d : Nat), ops[i]? = some o → l i = true → o.dst = some d → S i w (a.eval (.tmp d))) ∧ Gr w0 w
  right : (∃ i, k ≤ i ∧ i < ops.size ∧ l i = true) → ∃ m, k < m ∧ m ≤ ops.size ∧ (∀ i, i < m → l i = true) ∧ (∀ i, m ≤ i → i < ops.size → l i = false) ∧ wpSeq P Q (ops.toList.drop m) a w
theorem wp_region_tails {P : Program} {id : Nat} {ops : Array Oper} {Q : Exit → Act → World → Prop} {a0 : Act} {w : World} (hm : P.follows .mixedOrders = true) (S : Nat → World → Value → Prop)
    (n : Nat) (hn : a0.tmps.size = n) (hf : formB ops n = true) (k : Nat) (hk0 : k < ops.size) (hlb : tailsB ops k = true) (hmono : ∀ i w w' x, Gr w w' → S i w x → S i w' x)
    (hstep : AllFrom (fun i o => o.guard = none ∧ ∀ a w', Gr w w' → Kept ops a0 a → Deps ops S a w' o.after.toList → ∀ Q, o.wp P a w' (fun a' w'' => ∃ v, a' = a.put o.dst v ∧ S i w'' v ∧ Gr w' w'') Q) 0 (ops.toList.take k))
    (hQ : ∀ a w', a.tmps.size = a0.tmps.size → a.defers = a0.defers → Kept ops a0 a →
      (∀ (i : Nat) (o : Oper) (d : Nat), i < k → ops[i]? = some o → o.dst = some d → S i w' (a.eval (.tmp d))) → Gr w w' → wpSeq P Q (ops.toList.drop k) a w') : (Code.region id ops true).wp P Q a0 w := by
  subst hn
  have hdrop : ∀ {i : Nat} {o : Oper}, ops[i]? = some o → ops.toList.drop i = o :: ops.toList.drop (i + 1) := by
    intro i o ho
    have hi : i < ops.toList.length := by have := (Array.getElem?_eq_some_iff.1 ho).1; simpa using this
    rw [List.drop_eq_getElem_cons hi]
    congr 1
    have : ops.toList[i]? = some o := by simpa using ho
    rw [List.getElem?_eq_getElem hi] at this
    exact Option.some.inj this
  refine wp_region_J hm (TJ P ops S Q k w) a0.tmps.size rfl hf ?_ ?_ ?_
  · intro w' _ hg
    exact ⟨fun i o _ hl => by simp at hl, fun _ => ⟨fun i o d _ hl => by simp at hl, hg⟩, fun ⟨i, _, _, hl⟩ => by simp at hl⟩
  · intro i o ho l a w1 hJ hsz hdf hkp hli hwt
    have hi : i < ops.size := (Array.getElem?_eq_some_iff.1 ho).1
    by_cases hr : ∃ j, k ≤ j ∧ j < ops.size ∧ l j = true
    · obtain ⟨m, hkm, hms, hdone, hnot, hseq⟩ := hJ.right hr
      have him : m ≤ i := Nat.le_of_not_lt fun h => by rw [hdone i h] at hli; cases hli
      have hall := tailsB_at hJ.closed hlb ho (by omega) hwt
      obtain rfl : i = m := by
        rcases Nat.lt_or_ge m i with h | h
        · have := hall m h
          rw [hnot m (Nat.le_refl _) (by omega)] at this
          cases this
        · omega
      rw [hdrop ho] at hseq
      refine ⟨hseq.1, Oper.wp_mono ?_ hseq.2⟩
      rintro a' w' ⟨v, rfl, hs⟩
      refine ⟨v, rfl, hJ.closed.step ho hwt, fun h => ?_, fun _ => ⟨i + 1, by omega, by omega, fun j hj => ?_, fun j h1 h2 => ?_, hs⟩⟩
      · have := h i (by omega) hi
        simp at this
      · rcases Nat.lt_or_ge j i with h | h
        · simp [hdone j h]
        · obtain rfl : j = i := by omega
          simp
      · have : (j == i) = false := by simp; omega
        simp [hnot j (by omega) h2, this]
    · have hno : ∀ j, k ≤ j → j < ops.size → l j = false := fun j h1 h2 => by
        cases hl : l j with
        | false => rfl
        | true => exact absurd ⟨j, h1, h2, hl⟩ hr
      obtain ⟨hS, hg⟩ := hJ.left hno
      by_cases hik : i < k
      · have hst := AllFrom.at (i := i) hstep (by rw [List.getElem?_take_of_lt hik]; simpa using ho)
        rw [Nat.zero_add] at hst
        refine ⟨hst.1, Oper.wp_mono ?_ (hst.2 a w1 hg hkp (Deps.of fun e he hb o' ho' d' hd' => hS e.on o' d' ho' (waitsB_at hwt e.on (by
          rw [Array.any_eq_true']
          exact ⟨e, by simpa using he, by simp [hb]⟩)) hd') Q)⟩
        rintro a' w' ⟨v, rfl, hv, hgr⟩
        refine ⟨v, rfl, hJ.closed.step ho hwt, fun _ => ⟨fun j oj d hj hl hd => ?_, hg.trans hgr⟩, fun ⟨j, h1, h2, h3⟩ => ?_⟩
        · by_cases hij : i = j
          · subst hij
            rw [ho] at hj
            simp only [Option.some.injEq] at hj
            subst hj
            rw [hd, eval_put_same (by rw [hsz]; exact ((formB_spec hf ho).2 d hd).1)]
            exact hv
          · rw [eval_put_other (fun e => hij (formB_ne hf ho hj e hd))]
            refine hmono j w1 w' _ hgr (hS j oj d hj ?_ hd)
            have : (j == i) = false := by simp; omega
            simpa [this] using hl
        · have : (j == i) = false := by simp; omega
          rw [hno j h1 h2, this] at h3
          cases h3
      · have hall := tailsB_at hJ.closed hlb ho (by omega) hwt
        obtain rfl : i = k := by
          rcases Nat.lt_or_ge k i with h | h
          · have := hall k h
            rw [hno k (Nat.le_refl _) (by omega)] at this
            cases this
          · omega
        have hseq := hQ a w1 hsz hdf hkp (fun j o' d h1 h2 h3 => hS j o' d h2 (hall j h1) h3) hg
        rw [hdrop ho] at hseq
        refine ⟨hseq.1, Oper.wp_mono ?_ hseq.2⟩
        rintro a' w' ⟨v, rfl, hs⟩
        refine ⟨v, rfl, hJ.closed.step ho hwt, fun h => ?_, fun _ => ⟨i + 1, by omega, by omega, fun j hj => ?_, fun j h1 h2 => ?_, hs⟩⟩
        · have := h i (by omega) hi
          simp at this
        · rcases Nat.lt_or_ge j i with h | h
          · simp [hall j h]
          · obtain rfl : j = i := by omega
            simp
        · have : (j == i) = false := by simp; omega
          simp [hno j (by omega) h2, this]
  · intro l a w1 hall hJ _ _ _
    obtain ⟨m, hkm, hms, _, hnot, hseq⟩ := hJ.right ⟨k, Nat.le_refl _, hk0, hall k hk0⟩
    obtain rfl : m = ops.size := by
      rcases Nat.lt_or_ge m ops.size with h | h
      · have := hnot m (Nat.le_refl _) h
        rw [hall m h] at this
        cases this
      · omega
    rw [List.drop_of_length_le (by simp)] at hseq
    exact hseq
end Go.Proofs.YtcicekggeampcaaGreat

/-
  A buffer, plain: pairs by keys, one more, one list laid over another.
-/
namespace Go.Proofs.YtcicekggeampcaaGreat
open Go.RowKit
theorem ba_inj {s t : ByteArray} : s.toList = t.toList ↔ s = t := by
  rw [ByteArray.toList_eq, ByteArray.toList_eq]
  obtain ⟨⟨x⟩⟩ := s
  obtain ⟨⟨y⟩⟩ := t
  simp
/-- A pair: its key, its value, whether it is dead. -/
abbrev Pr : Type := ByteArray × ByteArray × Bool
def em : ByteArray := ⟨#[]⟩
def lt (a b : ByteArray) : Bool := Op.bytesLess a.toList b.toList
theorem less_irrefl : ∀ (x : List UInt8), Op.bytesLess x x = false
  | [] => rfl
  | a :: x => by simp [Op.bytesLess, less_irrefl x]
theorem less_trans : ∀ {x y z : List UInt8}, Op.bytesLess x y = true → Op.bytesLess y z = true → Op.bytesLess x z = true
  | x, [], z, h, _ => by cases x <;> simp [Op.bytesLess] at h
  | x, b :: y, [], _, h => by simp [Op.bytesLess] at h
  | [], b :: y, c :: z, _, _ => rfl
  | a :: x, b :: y, c :: z, h, k => by
    simp only [Op.bytesLess, Bool.or_eq_true, decide_eq_true_eq, Bool.and_eq_true, beq_iff_eq] at h k ⊢
    rcases h with h | ⟨rfl, h⟩
    · rcases k with k | ⟨rfl, k⟩
      · exact .inl (UInt8.lt_trans h k)
      · exact .inl h
    · rcases k with k | ⟨rfl, k⟩
      · exact .inl k
      · exact .inr ⟨rfl, less_trans h k⟩
theorem less_total : ∀ {x y : List UInt8}, Op.bytesLess x y = false → Op.bytesLess y x = false → x = y
  | [], [], _, _ => rfl
  | [], b :: y, h, _ => by simp [Op.bytesLess] at h
  | a :: x, [], _, h => by simp [Op.bytesLess] at h
  | a :: x, b :: y, h, k => by
    simp only [Op.bytesLess, Bool.or_eq_false_iff, decide_eq_false_iff_not, Bool.and_eq_false_imp, beq_iff_eq] at h k
    have e : a = b := by
      have h1 := h.1
      have h2 := k.1
      rw [UInt8.lt_iff_toNat_lt] at h1 h2
      exact UInt8.toNat_inj.1 (by omega)
    subst e
    rw [less_total (h.2 rfl) (k.2 rfl)]
theorem lt_irrefl (a : ByteArray) : lt a a = false := less_irrefl _
theorem lt_trans {a b c : ByteArray} (h : lt a b = true) (k : lt b c = true) : lt a c = true := less_trans h k
theorem lt_total {a b : ByteArray} (h : lt a b = false) (k : lt b a = false) : a = b := ba_inj.1 (less_total h k)
theorem lt_asymm {a b : ByteArray} (h : lt a b = true) : lt b a = false := by
  cases hq : lt b a with
  | false => rfl
  | true => have := lt_trans h hq; rw [lt_irrefl] at this; cases this
theorem lt_ne {a b : ByteArray} (h : lt a b = true) : a ≠ b := fun e => by rw [e, lt_irrefl] at h; cases h
/-- Not below, not above a smaller one: chains of order. -/
theorem lt_of_not {a b c : ByteArray} (h : lt a b = true) (k : lt c b = false) : lt a c = true := by
  cases hq : lt b c with
  | true => exact lt_trans h hq
  | false => rwa [lt_total k hq]
theorem em_list : em.toList = [] := by rw [ByteArray.toList_eq]; rfl
theorem lt_em (a : ByteArray) : lt em a = !a.toList.isEmpty := by
  unfold lt
  rw [em_list]
  cases a.toList <;> rfl
theorem not_lt_em (a : ByteArray) : lt a em = false := by
  unfold lt
  rw [em_list]
  cases a.toList <;> rfl
/-- Keys rise. -/
def Bs (L : List Pr) : Prop := L.Pairwise fun a b => lt a.1 b.1 = true
/-- What was written of a key. -/
def getB : List Pr → ByteArray → Option Pr
  | [], _ => none
  | p :: L, k => if p.1 = k then some p else getB L k
/-- With one pair more. -/
def insB (p : Pr) : List Pr → List Pr
  | [] => [p]
  | q :: L => if lt q.1 p.1 = true then q :: insB p L else if q.1 = p.1 then p :: L else p :: q :: L
theorem getB_key : ∀ {L : List Pr} {k : ByteArray} {p : Pr}, getB L k = some p → p.1 = k ∧ p ∈ L
  | [], _, _, h => by cases h
  | q :: L, k, p, h => by
    unfold getB at h
    by_cases hq : q.1 = k
    · rw [if_pos hq] at h
      cases h
      exact ⟨hq, by simp⟩
    · rw [if_neg hq] at h
      obtain ⟨h1, h2⟩ := getB_key h
      exact ⟨h1, by simp [h2]⟩
theorem getB_none : ∀ {L : List Pr} {k : ByteArray}, (∀ p ∈ L, p.1 ≠ k) → getB L k = none
  | [], _, _ => rfl
  | q :: L, k, h => by
    unfold getB
    rw [if_neg (h q (by simp))]
    exact getB_none fun p hp => h p (by simp [hp])
theorem getB_mem : ∀ {L : List Pr} {p : Pr}, Bs L → p ∈ L → getB L p.1 = some p
  | [], _, _, h => by cases h
  | q :: L, p, hs, h => by
    obtain ⟨h1, h2⟩ := List.pairwise_cons.1 hs
    unfold getB
    rcases List.mem_cons.1 h with rfl | h
    · rw [if_pos rfl]
    · rw [if_neg (lt_ne (h1 p h))]
      exact getB_mem h2 h
theorem insB_mem : ∀ {L : List Pr} {p q : Pr}, q ∈ insB p L → q = p ∨ q ∈ L
  | [], p, q, h => by simpa [insB] using h
  | r :: L, p, q, h => by
    unfold insB at h
    split at h
    · rcases List.mem_cons.1 h with rfl | h
      · exact .inr (by simp)
      · rcases insB_mem h with e | e
        · exact .inl e
        · exact .inr (by simp [e])
    · split at h
      · rcases List.mem_cons.1 h with e | h
        · exact .inl e
        · exact .inr (by simp [h])
      · rcases List.mem_cons.1 h with e | h
        · exact .inl e
        · exact .inr h
theorem insB_srt : ∀ {L : List Pr} {p : Pr}, Bs L → Bs (insB p L)
  | [], p, _ => List.pairwise_singleton _ _
  | r :: L, p, hs => by
    obtain ⟨h1, h2⟩ := List.pairwise_cons.1 hs
    unfold insB
    split
    · rename_i hr
      refine List.pairwise_cons.2 ⟨fun q hq => ?_, insB_srt h2⟩
      rcases insB_mem hq with rfl | e
      · exact hr
      · exact h1 q e
    · rename_i hr
      split
      · rename_i he
        exact List.pairwise_cons.2 ⟨fun q hq => by rw [← he]; exact h1 q hq, h2⟩
      · rename_i he
        have hlt : lt p.1 r.1 = true := by
          cases hq : lt p.1 r.1 with
          | true => rfl
          | false => exact absurd (lt_total (by simpa using hr) hq) he
        refine List.pairwise_cons.2 ⟨fun q hq => ?_, hs⟩
        rcases List.mem_cons.1 hq with rfl | e
        · exact hlt
        · exact lt_trans hlt (h1 q e)
theorem insB_get : ∀ {L : List Pr} {p : Pr} {k : ByteArray}, Bs L → getB (insB p L) k = if p.1 = k then some p else getB L k
  | [], p, k, _ => by simp [insB, getB]
  | r :: L, p, k, hs => by
    obtain ⟨h1, h2⟩ := List.pairwise_cons.1 hs
    have ih := insB_get (p := p) (k := k) h2
    unfold insB
    split
    · rename_i hr
      rw [getB, getB, ih]
      by_cases hk : r.1 = k
      · rw [if_pos hk, if_pos hk, if_neg]
        intro e
        rw [← e] at hk
        exact lt_ne hr hk
      · rw [if_neg hk, if_neg hk]
    · split
      · rename_i he
        rw [getB, getB]
        by_cases hk : p.1 = k
        · rw [if_pos hk, if_pos hk]
        · rw [if_neg hk, if_neg hk, if_neg (by rw [he]; exact hk)]
      · rw [getB]
theorem insB_len : ∀ {L : List Pr} {p : Pr}, Bs L → (insB p L).length = if (getB L p.1).isSome = true then L.length else L.length + 1
  | [], p, _ => by simp [insB, getB]
  | r :: L, p, hs => by
    obtain ⟨h1, h2⟩ := List.pairwise_cons.1 hs
    have ih := insB_len (p := p) h2
    unfold insB
    split
    · rename_i hr
      rw [getB, if_neg (lt_ne hr), List.length_cons, ih]
      split <;> simp
    · rename_i hr
      split
      · rename_i he
        rw [getB, if_pos he]
        simp
      · rename_i he
        rw [getB, if_neg he]
        have hlt : lt p.1 r.1 = true := by
          cases hq : lt p.1 r.1 with
          | true => rfl
          | false => exact absurd (lt_total (by simpa using hr) hq) he
        rw [getB_none fun q hq => fun e => by
          have := lt_trans hlt (h1 q hq)
          rw [e, lt_irrefl] at this
          cases this]
        simp
/-- How many keys are below one. -/
def lbB (L : List Pr) (k : ByteArray) : Nat := (L.takeWhile fun p => lt p.1 k).length
theorem lbB_le (L : List Pr) (k : ByteArray) : lbB L k ≤ L.length := (List.takeWhile_sublist _).length_le
theorem lbB_below : ∀ {L : List Pr} {k : ByteArray} {i : Nat} (hi : i < L.length), i < lbB L k → lt L[i].1 k = true
  | [], _, _, hi, _ => by simp at hi
  | p :: L, k, i, hi, h => by
    unfold lbB at h
    rw [List.takeWhile_cons] at h
    split at h
    · rename_i hp
      cases i with
      | zero => exact hp
      | succ i => exact lbB_below (L := L) (by simpa using hi) (by simpa [lbB] using h)
    · simp at h
theorem lbB_at : ∀ {L : List Pr} {k : ByteArray} (hi : lbB L k < L.length), lt (L[lbB L k]).1 k = false
  | [], _, hi => by simp at hi
  | p :: L, k, hi => by
    cases hp : lt p.1 k with
    | false =>
      have e : lbB (p :: L) k = 0 := by simp [lbB, hp]
      simp only [e, List.getElem_cons_zero]
      exact hp
    | true =>
      have e : lbB (p :: L) k = lbB L k + 1 := by simp [lbB, hp]
      simp only [e, List.getElem_cons_succ]
      exact lbB_at _
theorem insB_at : ∀ {L : List Pr} {p : Pr}, insB p L = L.take (lbB L p.1) ++ p :: (if ((L[lbB L p.1]?).any fun q => decide (q.1 = p.1)) = true then L.drop (lbB L p.1 + 1) else L.drop (lbB L p.1))
  | [], p => by simp [insB]
  | r :: L, p => by
    have ih := insB_at (L := L) (p := p)
    unfold insB
    cases hr : lt r.1 p.1 with
    | true =>
      have e : lbB (r :: L) p.1 = lbB L p.1 + 1 := by simp [lbB, hr]
      rw [if_pos rfl, e, ih]
      simp
    | false =>
      have e : lbB (r :: L) p.1 = 0 := by simp [lbB, hr]
      rw [if_neg (by simp), e]
      by_cases h : r.1 = p.1 <;> simp [h]
theorem getB_lb : ∀ {L : List Pr} {k : ByteArray}, Bs L → getB L k = (L[lbB L k]?).bind fun q => if q.1 = k then some q else none
  | [], k, _ => rfl
  | r :: L, k, hs => by
    obtain ⟨h1, h2⟩ := List.pairwise_cons.1 hs
    unfold getB
    cases hr : lt r.1 k with
    | true =>
      have e : lbB (r :: L) k = lbB L k + 1 := by simp [lbB, hr]
      rw [if_neg (lt_ne hr), e, getB_lb h2]
      simp
    | false =>
      have e : lbB (r :: L) k = 0 := by simp [lbB, hr]
      rw [e]
      by_cases h : r.1 = k
      · simp [h]
      · rw [if_neg h]
        have hlt : lt k r.1 = true := by
          cases hq : lt k r.1 with
          | true => rfl
          | false => exact absurd (lt_total hr hq) h
        rw [getB_none fun q hq => fun e => by
          have := lt_trans hlt (h1 q hq)
          rw [e, lt_irrefl] at this
          cases this]
        simp [h]
/-- Two lists whose keys rise and that have the same are one. -/
theorem bs_unique : ∀ {a b : List Pr}, Bs a → Bs b → (∀ k, k ∈ a ↔ k ∈ b) → a = b
  | [], [], _, _, _ => rfl
  | [], y :: b, _, _, h => by have := (h y).2 (by simp); simp at this
  | x :: a, [], _, _, h => by have := (h x).1 (by simp); simp at this
  | x :: a, y :: b, ha, hb, h => by
    obtain ⟨ha1, ha2⟩ := List.pairwise_cons.1 ha
    obtain ⟨hb1, hb2⟩ := List.pairwise_cons.1 hb
    have e : x = y := by
      rcases List.mem_cons.1 ((h x).1 (by simp)) with e | hx
      · exact e
      · rcases List.mem_cons.1 ((h y).2 (by simp)) with e | hy
        · exact e.symm
        · have := lt_trans (hb1 x hx) (ha1 y hy)
          rw [lt_irrefl] at this
          cases this
    subst e
    rw [bs_unique ha2 hb2 fun k => ?_]
    constructor
    · intro hk
      rcases List.mem_cons.1 ((h k).1 (by simp [hk])) with e | h'
      · subst e
        have := ha1 k hk
        rw [lt_irrefl] at this
        cases this
      · exact h'
    · intro hk
      rcases List.mem_cons.1 ((h k).2 (by simp [hk])) with e | h'
      · subst e
        have := hb1 k hk
        rw [lt_irrefl] at this
        cases this
      · exact h'
/-- What a write answers. -/
def wrE (L : List Pr) (p : Pr) : Int := if p.1.size < 1 ∨ 64 < p.1.size then 2 else if 256 < p.2.1.size then 12 else if (getB L p.1).isNone = true ∧ 64 ≤ L.length then 13 else 0
/-- What there is behind a write. -/
def wrB (L : List Pr) (p : Pr) : List Pr := if wrE L p = 0 then insB p L else L
theorem wrB_len {L : List Pr} {p : Pr} (h : Bs L) (hl : L.length ≤ 64) : (wrB L p).length ≤ 64 := by
  unfold wrB
  split
  · rename_i he
    rw [insB_len h]
    split
    · exact hl
    · rename_i hn
      unfold wrE at he
      split at he
      · cases he
      · split at he
        · cases he
        · split at he
          · cases he
          · rename_i h4
            have h5 : (getB L p.1).isNone = true := by simpa using hn
            have : ¬ 64 ≤ L.length := fun h6 => h4 ⟨h5, h6⟩
            omega
  · exact hl
/-- What an act writes. -/
def actP (a : Pr) : Pr := if a.2.2 = true then (a.1, em, true) else (a.1, a.2.1, false)
def runB (acts : List Pr) : List Pr := acts.foldl (fun L a => wrB L (actP a)) []
/-- The next of two lists, and what is left of them. -/
def nxt : List Pr → List Pr → Option (Pr × List Pr × List Pr)
  | [], [] => none
  | p :: l, [] => some (p, l, [])
  | [], q :: w => some (q, [], w)
  | p :: l, q :: w => if lt p.1 q.1 = true then some (p, l, q :: w) else if p.1 = q.1 then some (q, l, w) else some (q, p :: l, w)
def mrgF : Nat → List Pr → List Pr → List Pr
  | 0, _, _ => []
  | n + 1, l, w => match nxt l w with
    | none => []
    | some x => x.1 :: mrgF n x.2.1 x.2.2
theorem nxt_none {l w : List Pr} (h : nxt l w = none) : l = [] ∧ w = [] := by
  cases l <;> cases w
  · exact ⟨rfl, rfl⟩
  · cases h
  · cases h
  · simp only [nxt] at h
    split at h
    · cases h
    · split at h <;> cases h
theorem nxt_len {l w : List Pr} {x : Pr × List Pr × List Pr} (h : nxt l w = some x) : x.2.1.length + x.2.2.length < l.length + w.length := by
  cases l <;> cases w
  · cases h
  · cases h; simp
  · cases h; simp
  · simp only [nxt] at h
    split at h
    · cases h; simp
    · split at h
      · cases h; simp; omega
      · cases h; simp
theorem mrgF_enough : ∀ (n m : Nat) (l w : List Pr), l.length + w.length ≤ n → l.length + w.length ≤ m → mrgF n l w = mrgF m l w
  | 0, 0, _, _, _, _ => rfl
  | 0, m + 1, l, w, h, _ => by
    have h1 : l = [] := List.eq_nil_of_length_eq_zero (by omega)
    have h2 : w = [] := List.eq_nil_of_length_eq_zero (by omega)
    subst h1 h2
    rfl
  | n + 1, 0, l, w, _, h => by
    have h1 : l = [] := List.eq_nil_of_length_eq_zero (by omega)
    have h2 : w = [] := List.eq_nil_of_length_eq_zero (by omega)
    subst h1 h2
    rfl
  | n + 1, m + 1, l, w, h, k => by
    unfold mrgF
    cases e : nxt l w with
    | none => rfl
    | some x =>
      have := nxt_len e
      show x.1 :: mrgF n x.2.1 x.2.2 = x.1 :: mrgF m x.2.1 x.2.2
      rw [mrgF_enough n m x.2.1 x.2.2 (by omega) (by omega)]
/-- Two lists side by side, of one key the second's. -/
def mrg (l w : List Pr) : List Pr := mrgF (l.length + w.length) l w
theorem mrg_none {l w : List Pr} (h : nxt l w = none) : mrg l w = [] := by
  obtain ⟨rfl, rfl⟩ := nxt_none h
  rfl
theorem mrg_some {l w : List Pr} {x : Pr × List Pr × List Pr} (h : nxt l w = some x) : mrg l w = x.1 :: mrg x.2.1 x.2.2 := by
  have hl := nxt_len h
  unfold mrg
  rw [mrgF_enough _ (l.length + w.length + 1) l w (Nat.le_refl _) (by omega), mrgF, h]
  show x.1 :: _ = _
  rw [mrgF_enough _ _ x.2.1 x.2.2 (by omega) (Nat.le_refl _)]
/-- What lives of it. -/
def livL (L : List Pr) : List Pr := L.filter fun p => !p.2.2
def ovl (l w : List Pr) : List Pr := livL (mrg l w)
theorem ovl_none {l w : List Pr} (h : nxt l w = none) : ovl l w = [] := by unfold ovl; rw [mrg_none h]; rfl
theorem ovl_some {l w : List Pr} {x : Pr × List Pr × List Pr} (h : nxt l w = some x) : ovl l w = if x.1.2.2 = true then ovl x.2.1 x.2.2 else x.1 :: ovl x.2.1 x.2.2 := by
  unfold ovl livL
  rw [mrg_some h, List.filter_cons]
  cases x.1.2.2 <;> simp
/-- What a range keeps. -/
def inR (a b : ByteArray) (p : Pr) : Bool := !(lt p.1 a || !lt p.1 b)
def overB (l L : List Pr) (a b : ByteArray) (most : Int) : List Pr := (ovl l (L.filter (inR a b))).take most.toNat
end Go.Proofs.YtcicekggeampcaaGreat

/-
  Laws of no package: stores over blocks, loads under a guard, appends to rows of any make.
-/
namespace Go.Proofs.YtcicekggeampcaaGreat
open Go.RowKit
/-- A whole array or struct over a block. -/
theorem wpList_store_blk {P : Program} {w : World} {ops : Array Oper} {rest : List Oper} {op : Oper} {a : Act} {Q : Exit → Act → World → Prop} (hgd : op.guard = none) (ty : TypeId) (x y : Operand) (ho : op.op = .store ty x y)
    (b : Nat) (cs ds : List Value) (T : TypeId) (hx : a.eval x = .pointer (some ⟨b, 0, none⟩)) (hy : a.eval y = .agg ds.toArray) (hB : Blk w b T cs) (hl : ds.length = cs.length)
    (hi : (P.info? ty).map (·.size) = some ds.length) (h1 : ∀ u ∈ ds, u.oneCell' = true)
    (h : ∀ w', Blk w' b T ds → But b w w' → wpList P ops Q rest (a.put op.dst undef) w') : wpList P ops Q (op :: rest) a w := by
  have t0 := hB.there 0 ds.length (by omega)
  refine wpList_store_mid hgd ty x y ho b 0 ds.toArray hx hy (by simpa using t0) (by simpa using hi) (all_one h1) ?_
  refine h _ ?_ (But.setCells b _ 0 w)
  have := Blk.over ds hB 0 (by omega)
  rwa [over_all _ _ hl.symm] at this
theorem wp_store_blk {P : Program} {w : World} {op : Oper} {a : Act} {K : Act → World → Prop} {Q : Exit → Act → World → Prop} (ty : TypeId) (x y : Operand) (ho : op.op = .store ty x y)
    (b : Nat) (cs ds : List Value) (T : TypeId) (hx : a.eval x = .pointer (some ⟨b, 0, none⟩)) (hy : a.eval y = .agg ds.toArray) (hB : Blk w b T cs) (hl : ds.length = cs.length)
    (hi : (P.info? ty).map (·.size) = some ds.length) (h1 : ∀ u ∈ ds, u.oneCell' = true)
    (h : ∀ w', Blk w' b T ds → But b w w' → K (a.put op.dst undef) w') : op.wp P a w K Q := by
  have t0 := hB.there 0 ds.length (by omega)
  refine wp_store_mid ty x y ho b 0 ds.toArray hx hy (by simpa using t0) (by simpa using hi) (all_one h1) ?_
  refine h _ ?_ (But.setCells b _ 0 w)
  have := Blk.over ds hB 0 (by omega)
  rwa [over_all _ _ hl.symm] at this
theorem run_append_at {P : Program} (w : World) (base : Nat) (t tx ty e : TypeId) (i : TypeInfo) (z : Value) (size bytes : Nat) (ht : P.underlying t = some (.slice e)) (hi : P.info? e = some i) (hz : i.zero = some z)
    (hsize : i.size = size) (hby : i.bytes = bytes) (hzs : z.cells.size = size)
    (v : Value) (n : Nat) (xs : List Value) (hown : w.ownsRow base e size v n xs)
    (x : Value) (m : Nat) (news : List Value) (hs : Src P size tx x m news w)
    (h63 : n + m ≤ maxLen) (hbytes : (n + m) * bytes ≤ 140737488355328) (hbase : base ≤ w.heap.size) :
    ∃ v' w', (Builtin.append_ #[t, tx] ty #[v, x]).run P w = .ok v' w' ∧ w'.ownsRow base e size v' (n + m) (xs ++ news) ∧ w.grownBy w' v.ownBlock ∧ ∀ b, v'.ownBlock = some b → v.ownBlock = some b ∨ b = w.heap.size := by
  subst hsize
  subst hby
  have hl := hs.newsLen
  have hsmall : n + m ≤ 9223372036854775807 := by simp only [maxLen] at h63; omega
  have hlen : (xs ++ news).length = (n + m) * i.size := by rw [List.length_append, hown.1, hl, Nat.add_mul]
  have grown : ∀ (old : Nat), old < n + m → ∀ (row : Option Nat),
      (w.drew.alloc (.cells ((xs ++ news).toArray ++ Builtin.zeroCells z.cells (grownCap w (n + m) old e - (n + m))) e)).ownsRow base e i.size
        (.slice (some ⟨w.heap.size, 0, none⟩) (n + m) (grownCap w (n + m) old e)) (n + m) (xs ++ news) ∧
      w.grownBy (w.drew.alloc (.cells ((xs ++ news).toArray ++ Builtin.zeroCells z.cells (grownCap w (n + m) old e - (n + m))) e)) row := by
    intro old ho row
    have hge := grownCap_ge w (n + m) old e
    have hcm : grownCap w (n + m) old e ≤ maxLen := grownCap_le_maxLen w (n + m) old e h63
    refine ⟨⟨hlen, .inr ⟨w.heap.size, _, _, rfl, hbase, heap_alloc_new w.drew _, hge, hcm, ?_, ?_⟩⟩, ⟨rfl, rfl, rfl, by simp, fun k hk _ => Below.heap_alloc w.drew _ k hk⟩⟩
    · simp only [Array.size_append, List.size_toArray, size_zeroCells, hzs, hlen, ← Nat.add_mul]
      congr 1
      omega
    · simp only [Array.toList_append]
      rw [← hlen]
      exact List.take_left
  rcases hown.2 with ⟨rfl, rfl⟩ | ⟨g, cap, cur, rfl, hbg, hg, hnc, hcm, hcs, htake⟩
  · have hx : xs = [] := List.eq_nil_of_length_eq_zero (by simpa using hown.1)
    subst hx
    by_cases hm : m = 0
    · subst hm
      have hn : news = [] := List.eq_nil_of_length_eq_zero (by simpa using hl)
      subst hn
      refine ⟨.slice none 0 0, w, ?_, World.ownsRow_nil w base e i.size, ⟨rfl, rfl, rfl, Nat.le_refl _, fun _ _ _ => rfl⟩, fun _ h => .inl h⟩
      rcases hs.kind with ⟨e', hk⟩ | hk <;> simp [Builtin.append_, run_underlying ht, run_underlying hk, sizeOf, typeInfo, hi, hs.len, hs.cells]
    · have hr := run_append_grow_src (P := P) w t tx ty e i z ht hi hz none 0 0 [] (run_firstCells_none w.drew i.size 0 0 0) x m news hs (by omega) (by omega) (growslice_fits (by omega) hbytes)
      have hgr := grown 0 (by omega) (Value.ownBlock (.slice none 0 0))
      exact ⟨_, _, hr, hgr.1, hgr.2, fun b hb => .inr (by simpa [Value.ownBlock] using hb.symm)⟩
  · by_cases hroom : n + m ≤ cap
    · have hfit : n * i.size + news.length ≤ cur.size := by rw [hl, hcs, ← Nat.add_mul]; exact Nat.mul_le_mul_right _ hroom
      have hst := run_storeCells_at P g (n * i.size) e news 0 cur w hg (by simpa using hfit) hs.one
      simp only [Nat.add_zero] at hst
      have hr : (Builtin.append_ #[t, tx] ty #[.slice (some ⟨g, 0, none⟩) n cap, x]).run P w =
          .ok (.slice (some ⟨g, 0, none⟩) (n + m) cap) (w.setRow g (cur.toList.take (n * i.size) ++ news ++ cur.toList.drop (n * i.size + news.length)).toArray) := by
        rcases hs.kind with ⟨e', hk⟩ | hk <;> simp [Builtin.append_, run_underlying ht, run_underlying hk, sizeOf, typeInfo, hi, hs.len, hroom, hs.cells, Addr.add_lit, hst]
      refine ⟨_, _, hr, ⟨hlen, .inr ⟨g, cap, _, rfl, hbg, setRow_heap w g cur _ e _ hg, hroom, hcm, ?_, ?_⟩⟩, ⟨rfl, rfl, rfl, by simp, fun k _ hk => setRow_other w g k _ (fun e => hk (by simp [Value.ownBlock, e]))⟩, fun _ h => .inl h⟩
      · simp only [List.size_toArray, List.length_append, List.length_take, List.length_drop, Array.length_toList]
        omega
      · rw [htake, ← hlen]
        exact List.take_left
    · have holds : ∀ j u, xs[j]? = some u → w.drew.cell? ((⟨g, 0, none⟩ : Addr).add j) = some u := fun j u hj => by simpa using hown.cells (g := g) rfl j u hj
      have hr := run_append_grow_src (P := P) w t tx ty e i z ht hi hz (some ⟨g, 0, none⟩) n cap xs (run_firstCells_some w.drew i.size n ⟨g, 0, none⟩ n cap xs hown.1 holds) x m news hs (by omega) (by omega) (growslice_fits (by omega) hbytes)
      have hgr := grown cap (by omega) (Value.ownBlock (.slice (some ⟨g, 0, none⟩) n cap))
      exact ⟨_, _, hr, hgr.1, hgr.2, fun b hb => .inr (by simpa [Value.ownBlock] using hb.symm)⟩
theorem wp_append10 {P : Program} {w : World} {o : Oper} {a : Act} {K : Act → World → Prop} {Q : Exit → Act → World → Prop} (s x : Operand) (t tx : TypeId) (ho : o.op = .call { callee := .builtin .append, args := #[s, x], argTypes := #[t, tx] })
    {v xv v' : Value} {w' : World} (hv : a.eval s = v) (hx : a.eval x = xv) (hr : (Builtin.append_ #[t, tx] o.type #[v, xv]).run P w = .ok v' w') (hK : K (a.put o.dst v') w') : o.wp P a w K Q := by
  unfold Oper.wp execOp
  simp only [ho, resolve, invoke, builtin, Sem.run_bind, Sem.run_pure, Result.andThen_ok, List.map_toArray, List.map_cons, List.map_nil, hv, hx, hr]
  exact hK
theorem OwnG.form {α : Type} {E : Enc α} {w : World} {B : Nat} {e : TypeId} {v : Value} {L : List α} (h : OwnG E w B e v L) : ∃ p c, v = .slice p L.length c := by
  obtain ⟨a, c, e⟩ := h.rd.slice
  exact ⟨a, c, e⟩
/-- append(own, row...), whatever stands in the row. -/
theorem run_append_E {α : Type} {E : Enc α} {P : Program} {t e : TypeId} {bytes : Nat} (ht : P.underlying t = some (.slice e)) (hi : ∃ i z, P.info? e = some i ∧ i.zero = some z ∧ i.size = E.n ∧ i.bytes = bytes ∧ z.cells.size = E.n) (hby : bytes ≤ 1000)
    (w : World) (base : Nat) (ty : TypeId) (v : Value) (L : List α) (hown : OwnG E w base e v L) (xv : Value) (M : List α) (hr : RdG E w xv M) (hlen : L.length + M.length ≤ 10000000) (hbase : base ≤ w.heap.size) :
    ∃ v' w', (Builtin.append_ #[t, t] ty #[v, xv]).run P w = .ok v' w' ∧ OwnG E w' base e v' (L ++ M) ∧ w.grownBy w' v.ownBlock ∧ ∀ b, v'.ownBlock = some b → v.ownBlock = some b ∨ b = w.heap.size := by
  obtain ⟨i, z, h1, h2, h3, h4, h5⟩ := hi
  obtain ⟨v', w', g1, g2, g3, g4⟩ := run_append_at (P := P) w base t t ty e i z E.n bytes ht h1 h2 h3 h4 h5 v L.length (E.cs L) hown xv M.length (E.cs M) (hr.src t e ht) (by unfold maxLen; omega) (by
    have := Nat.mul_le_mul hlen hby
    omega) hbase
  refine ⟨v', w', g1, ?_, g3, g4⟩
  unfold OwnG
  rw [List.length_append, Enc.cs_append]
  exact g2
theorem wp_append_E {α : Type} {E : Enc α} {P : Program} {t e : TypeId} {bytes : Nat} (ht : P.underlying t = some (.slice e)) (hi : ∃ i z, P.info? e = some i ∧ i.zero = some z ∧ i.size = E.n ∧ i.bytes = bytes ∧ z.cells.size = E.n) (hby : bytes ≤ 1000)
    {o : Oper} {a : Act} {w : World} {K : Act → World → Prop} {Q : Exit → Act → World → Prop} (s x : Operand) (ho : o.op = .call { callee := .builtin .append, args := #[s, x], argTypes := #[t, t] }) (base : Nat)
    (v : Value) (L : List α) (hv : a.eval s = v) (hown : OwnG E w base e v L) (xv : Value) (M : List α) (hx : a.eval x = xv) (hr : RdG E w xv M) (hlen : L.length + M.length ≤ 10000000) (hbase : base ≤ w.heap.size)
    (h : ∀ v' w', OwnG E w' base e v' (L ++ M) → w.grownBy w' v.ownBlock → (∀ b, v'.ownBlock = some b → v.ownBlock = some b ∨ b = w.heap.size) → K (a.put o.dst v') w') : o.wp P a w K Q := by
  obtain ⟨v', w', g1, g2, g3, g4⟩ := run_append_E ht hi hby w base o.type v L hown xv M hr hlen hbase
  exact wp_append10 s x t t ho hv hx g1 (h v' w' g2 g3 g4)
theorem wpList_append_E {α : Type} {E : Enc α} {P : Program} {t e : TypeId} {bytes : Nat} (ht : P.underlying t = some (.slice e)) (hi : ∃ i z, P.info? e = some i ∧ i.zero = some z ∧ i.size = E.n ∧ i.bytes = bytes ∧ z.cells.size = E.n) (hby : bytes ≤ 1000)
    {ops : Array Oper} {rest : List Oper} {o : Oper} {a : Act} {w : World} {Q : Exit → Act → World → Prop} (hgd : o.guard = none) (s x : Operand) (ho : o.op = .call { callee := .builtin .append, args := #[s, x], argTypes := #[t, t] }) (base : Nat)
    (v : Value) (L : List α) (hv : a.eval s = v) (hown : OwnG E w base e v L) (xv : Value) (M : List α) (hx : a.eval x = xv) (hr : RdG E w xv M) (hlen : L.length + M.length ≤ 10000000) (hbase : base ≤ w.heap.size)
    (h : ∀ v' w', OwnG E w' base e v' (L ++ M) → w.grownBy w' v.ownBlock → (∀ b, v'.ownBlock = some b → v.ownBlock = some b ∨ b = w.heap.size) → wpList P ops Q rest (a.put o.dst v') w') : wpList P ops Q (o :: rest) a w :=
  wpList_plain hgd fun _ hK => wp_append_E ht hi hby s x ho base v L hv hown xv M hx hr hlen hbase fun v' w' g1 g2 g3 => hK _ _ (h v' w' g1 g2 g3)
theorem wpList_run {P : Program} {ops : Array Oper} {rest : List Oper} {o : Oper} {a : Act} {w w1 : World} {Q : Exit → Act → World → Prop} (hgd : o.guard = none) (v : Value)
    (hrun : (execOp a.eval o).run P w = .ok (.value v) w1) (h : wpList P ops Q rest (a.put o.dst v) w1) : wpList P ops Q (o :: rest) a w := by
  refine wpList_plain hgd fun K hK => ?_
  unfold Oper.wp
  rw [hrun]
  exact hK _ _ h
end Go.Proofs.YtcicekggeampcaaGreat

/-
  Pairs in rows and in a map; a Buffer in memory.
-/
namespace Go.Proofs.YtcicekggeampcaaGreat
open Go.RowKit
theorem Chg.turned {F : Nat → Prop} {w w' : World} {b : Nat} (h : w.mapTurned w' b) (hb : F b) : Chg F w w' := Chg.of_grown h.grown (fun k e _ => by cases e; exact hb)
theorem ownsMap_tight {w : World} {P : Program} {k : TypeId} {R : Value → Option (DataW Unit × List MemPlace)} {b n : Nat} {D : DataW Unit} (h : w.ownsMap P k R b n D) : w.ownsMap P k R b (Maps.size D) D := by
  obtain ⟨es, clock, hb, F, _, rfl⟩ := h
  exact ⟨es, clock, hb, F, by simp [Maps.size, length_sorted], rfl⟩

/-- The cells of a pair. -/
def PC (p : Pr) : List Value := [.string p.1, .string p.2.1, .bool p.2.2]
theorem PC_one (p : Pr) : ∀ u ∈ PC p, u.oneCell' = true := by
  intro u hu
  simp only [PC, List.mem_cons, List.not_mem_nil, or_false] at hu
  rcases hu with rfl | rfl | rfl <;> rfl
def PE : Enc Pr := ⟨PC, 3, fun _ => rfl, PC_one⟩
theorem Tryz.info9 : (Tryz.prog.info? 9).map (fun i => (i.zero, i.size, i.bytes)) = some (some (.string ⟨#[]⟩), 1, 16) := by kernel_rfl
theorem Tryz.size9 : (Tryz.prog.info? 9).map (·.size) = some 1 := by kernel_rfl
theorem Tryz.info51 : (Tryz.prog.info? 51).map (fun i => (i.zero, i.size, i.bytes)) = some (some (.agg #[.string ⟨#[]⟩, .string ⟨#[]⟩, .bool false]), 3, 40) := by kernel_rfl
theorem Tryz.size51 : (Tryz.prog.info? 51).map (·.size) = some 3 := by kernel_rfl
theorem Zpair : ∀ W : World, (zeroValue 51).run Tryz.prog W = .ok (.agg #[.string ⟨#[]⟩, .string ⟨#[]⟩, .bool false]) W := fun W => by kernel_rfl
theorem keyed9 : Go.Maps.Keyed Tryz.prog 9 := Go.Maps.string_keyed Tryz.underlying9
def kS (k : ByteArray) : Lit := .string k.data.toList
theorem kS_ne {a b : ByteArray} (h : a ≠ b) : kS a ≠ kS b := fun e => h (by
  simp only [kS, Lit.string.injEq] at e
  obtain ⟨⟨x⟩⟩ := a
  obtain ⟨⟨y⟩⟩ := b
  simp at e
  rw [e])
theorem kS_key (k : ByteArray) : WideAt.IsKeyLit (kS k) := by simp [WideAt.IsKeyLit, kS]
theorem kS_same (a b : ByteArray) : (kS a).sameKey (kS b) = decide (a = b) := by
  rw [Bool.eq_iff_iff, WideAt.sameKey_iff (kS_key b), decide_eq_true_eq]
  exact ⟨fun h => Classical.byContradiction fun hn => kS_ne hn h, fun h => by rw [h]⟩
theorem key9_inv {key : Value} {kl : Lit} (h : keyOf Tryz.prog 9 key = some kl) : ∃ k : ByteArray, key = .string k ∧ kl = kS k := by
  have hk := Tryz.underlying9
  cases key <;> simp [keyOf, hk, mapKey] at h
  obtain ⟨h1, h2⟩ := h
  exact ⟨_, rfl, h2.symm⟩
theorem gt_lt (a b : ByteArray) : (!(Op.bytesLess a.toList b.toList || a.toList == b.toList)) = lt b a := by
  show (!(lt a b || a.toList == b.toList)) = lt b a
  cases h : lt b a with
  | true =>
    have h1 := lt_asymm h
    have h2 : (a.toList == b.toList) = false := by
      rw [beq_eq_false_iff_ne]
      intro e
      rw [ba_inj.1 e, lt_irrefl] at h
      cases h
    rw [h1, h2]
    rfl
  | false =>
    cases h1 : lt a b with
    | true => rfl
    | false => rw [lt_total h h1]; simp
theorem sgt (t : TypeId) (a b : ByteArray) : binOp .gtr t (.string a) (.string b) = pure (.bool (lt b a)) := by
  rw [← gt_lt]
  simp [binOp, Op.stringOp]
theorem sge (t : TypeId) (a b : ByteArray) : binOp .geq t (.string a) (.string b) = pure (.bool (!lt a b)) := by
  simp [binOp, Op.stringOp, lt]
theorem slt (t : TypeId) (a b : ByteArray) : binOp .lss t (.string a) (.string b) = pure (.bool (lt a b)) := by
  simp [binOp, Op.stringOp, lt]
theorem sle (t : TypeId) (a b : ByteArray) : binOp .leq t (.string a) (.string b) = pure (.bool (!lt b a)) := by
  rw [← gt_lt]
  simp [binOp, Op.stringOp]
theorem wr64 {x : Int} (h0 : -9223372036854775808 ≤ x) (h1 : x ≤ 9223372036854775807) : IntKind.i64.wrap x = x := by
  rw [IntKind.wrap_i64]
  omega
/-- A pair without anything. -/
def zp : Pr := (em, em, false)
theorem zeroP (W : World) : (zeroValue 51).run Tryz.prog W = .ok (.agg (PC zp).toArray) W := by kernel_rfl
theorem infoP9 : ∃ i z, Tryz.prog.info? 51 = some i ∧ i.zero = some z ∧ i.size = PE.n ∧ i.bytes = 40 ∧ z.cells.size = PE.n := by
  obtain ⟨i, h1, h2, h3, h4⟩ := info_parts Tryz.info51
  exact ⟨i, _, h1, h2, h3, h4, rfl⟩
/-- How a pair in a map is told. -/
def encP (p : Pr) : DataW Unit := .agg [.lit (.string p.1.data.toList), .lit (.string p.2.1.data.toList), .lit (.bool p.2.2)]
def prE : Value → Option (DataW Unit × List MemPlace)
  | .agg ⟨[.string a, .string b, .bool c]⟩ => some (encP (a, b, c), [])
  | _ => none
theorem prE_mk (p : Pr) : prE (.agg (PC p).toArray) = some (encP p, []) := rfl
theorem prE_inv {v : Value} {z : DataW Unit × List MemPlace} (h : prE v = some z) : ∃ p : Pr, v = .agg (PC p).toArray ∧ z = (encP p, []) := by
  unfold prE at h
  split at h
  · cases h
    exact ⟨(_, _, _), rfl, rfl⟩
  · cases h
theorem ba_data {a b : ByteArray} (h : a.data.toList = b.data.toList) : a = b := by
  obtain ⟨⟨x⟩⟩ := a
  obtain ⟨⟨y⟩⟩ := b
  simp at h
  rw [h]
theorem encP_inj {p q : Pr} (h : encP p = encP q) : p = q := by
  obtain ⟨a, b, c⟩ := p
  obtain ⟨a', b', c'⟩ := q
  simp [encP] at h
  obtain ⟨h1, h2, h3⟩ := h
  have e1 : a = a' := ba_data (by simp [h1])
  have e2 : b = b' := ba_data (by simp [h2])
  rw [e1, e2, h3]
/-- Block M is a map of the pairs L by their keys. -/
def MapP (w : World) (M : Nat) (L : List Pr) : Prop :=
  ∃ D : DataW Unit, w.ownsMap Tryz.prog 9 prE M L.length D ∧ Maps.size D = L.length ∧ (∀ k, Maps.has D (kS k) = (getB L k).isSome) ∧ (∀ k p, getB L k = some p → ∀ zd, D.atKey (kS k) zd = encP p)
theorem MapP.chg {w w' : World} {M : Nat} {L : List Pr} (h : MapP w M L) {F : Nat → Prop} (hc : Chg F w w') (hF : ¬ F M) : MapP w' M L := by
  obtain ⟨D, ⟨es, clock, hb, r⟩, h2⟩ := h
  exact ⟨D, ⟨es, clock, (hc.block M (Array.getElem?_eq_some_iff.1 hb).1 hF).trans hb, r⟩, h2⟩
theorem MapP.block {w : World} {M : Nat} {L : List Pr} (h : MapP w M L) : ∃ es clock, w.heap[M]? = some (.map es clock) := by
  obtain ⟨D, ⟨es, clock, hb, r⟩, h2⟩ := h
  exact ⟨es, clock, hb⟩
theorem MapP.lt {w : World} {M : Nat} {L : List Pr} (h : MapP w M L) : M < w.heap.size := by
  obtain ⟨es, clock, hb⟩ := h.block
  exact (Array.getElem?_eq_some_iff.1 hb).1
theorem MapP_made (w : World) : MapP (w.alloc (.map #[] 0)) w.heap.size [] :=
  ⟨.map [], World.ownsMap_made w _ _ _, rfl, fun _ => rfl, fun _ _ h => by simp [getB] at h⟩
theorem MapP.len {w : World} {M : Nat} {L : List Pr} (h : MapP w M L) (ty : TypeId) : (Builtin.len_ #[128] ty #[.map (some M)]).run Tryz.prog w = .ok (.int .i64 (L.length : Int)) w := by
  obtain ⟨D, h1, h2, h3, h4⟩ := h
  have := h1.len (t := 128) Tryz.underlying128 ty
  rwa [h2] at this
theorem MapP.look {w : World} {M : Nat} {L : List Pr} (h : MapP w M L) (k : ByteArray) (hk : k.size ≤ maxLen) :
    (Instr.lookup 128 (.map (some M)) (.string k) true).run Tryz.prog w = .ok (.tuple #[.agg (PC ((getB L k).getD zp)).toArray, .bool (getB L k).isSome]) w := by
  obtain ⟨D, h1, h2, h3, h4⟩ := h
  obtain ⟨v, ps, hrun, hv⟩ := h1.look_ok (t := 128) (e := 51) keyed9 Tryz.underlying128 (zeroP w) (prE_mk zp) (key := .string k) (kl := kS k) (Go.WideMaps.keyOf_string_mk Tryz.underlying9 hk)
  obtain ⟨p, rfl, hz⟩ := prE_inv hv
  simp only [Prod.mk.injEq] at hz
  rw [hrun, h3 k]
  suffices e : p = (getB L k).getD zp by rw [e]
  cases hf : getB L k with
  | none =>
    have hh := h3 k
    rw [hf] at hh
    have := hz.1
    rw [Maps.atKey_of_not_has hh] at this
    exact encP_inj this.symm
  | some u => exact encP_inj (hz.1.symm.trans (h4 k u hf _))
theorem MapP.put {w : World} {M : Nat} {L : List Pr} (h : MapP w M L) (hs : Bs L) (hN : L.length ≤ 1000000) (p : Pr) (hk : p.1.size ≤ maxLen) :
    ∃ w', (Instr.mapUpdate 128 (.map (some M)) (.string p.1) (.agg (PC p).toArray)).run Tryz.prog w = .ok () w' ∧ MapP w' M (insB p L) ∧ w.mapTurned w' M := by
  obtain ⟨D, h1, h2, h3, h4⟩ := h
  obtain ⟨w', hrun, ho, ht⟩ := h1.store (t := 128) (e := 51) keyed9 Tryz.underlying128 (by unfold maxLen; omega) (key := .string p.1) (kl := kS p.1) (Go.WideMaps.keyOf_string_mk Tryz.underlying9 hk) (prE_mk p)
  have htd := h1.tidy keyed9
  have hz := Maps.size_put (k := kS p.1) htd (encP p)
  have hz' : Maps.size (D.put (kS p.1) (encP p)) = (insB p L).length := by rw [hz, h3 p.1, h2, insB_len hs]
  refine ⟨w', hrun, ⟨D.put (kS p.1) (encP p), ?_, hz', fun j => ?_, fun j x hx zd => ?_⟩, ht⟩
  · have := ownsMap_tight ho
    rw [hz'] at this
    exact this
  · rw [insB_get hs]
    by_cases e : p.1 = j
    · subst e
      rw [Maps.has_put_same htd.isMap (kS_key _)]
      simp
    · rw [Maps.has_put_other (kS_ne (fun h => e h.symm)), h3 j, if_neg e]
  · rw [insB_get hs] at hx
    by_cases e : p.1 = j
    · subst e
      rw [if_pos rfl] at hx
      cases hx
      exact Maps.atKey_put_same htd.isMap (kS_key _) _ _
    · rw [if_neg e] at hx
      rw [Maps.atKey_put_other (kS_ne (fun h => e h.symm))]
      exact h4 j x hx zd
/-- The Buffer at block D, with the map at block M, has the pairs L. -/
structure BAt (w : World) (D M : Nat) (L : List Pr) : Prop where
  d : Blk w D 130 [.map (some M)]
  mp : MapP w M L
  srt : Bs L
  len : L.length ≤ 64
theorem BAt.chg {w w' : World} {D M : Nat} {L : List Pr} (h : BAt w D M L) {F : Nat → Prop} (hc : Chg F w w') (hD : ¬ F D) (hM : ¬ F M) : BAt w' D M L := ⟨h.d.chg hc hD, h.mp.chg hc hM, h.srt, h.len⟩
theorem BAt.kept {w w' : World} {D M : Nat} {L : List Pr} (h : BAt w D M L) (hb : Below w.heap.size w w') : BAt w' D M L := h.chg (F := fun _ => False) (Chg.of_below hb) id id
theorem BAt.ne {w : World} {D M : Nat} {L : List Pr} (h : BAt w D M L) : D ≠ M := fun e => by
  obtain ⟨es, c, hm⟩ := h.mp.block
  rw [← e] at hm
  have := h.d.symm.trans hm
  simp at this
theorem results_pair {P : Program} {fn : Func} {p u : Tmp} {ty : TypeId} (h : fn.results = #[.cell p ty, .tmp u]) (tmps : Array Value) (w : World) (g : Nat) (v : Pr) (b : Bool) (T : TypeId) (d : TypeDesc) (hp : tmps.getD p undef = .pointer (some ⟨g, 0, none⟩)) (hb : tmps.getD u undef = .bool b) (hB : Blk w g T (PC v))
    (hu : P.underlying ty = some d) (hd : d.isRow = true) (hi : (P.info? ty).map (·.size) = some 3) : (results fn tmps).run P w = .ok (.tuple #[.agg (PC v).toArray, .bool b]) w := by
  rw [results_cell_tmp h, hp, hb]
  have := run_loadVar_mid (P := P) w g 0 ty (PC v) d hB.range0 hu hd hi
  simp [asAddr, this]
/-- A new variable of a pair. -/
theorem room_pair {w w0 : World} {N : Nat} (HN : Hid (w.heap.size = N)) (hw : w0 = w.alloc (.cells #[.string ⟨#[]⟩, .string ⟨#[]⟩, .bool false] 51 (0, 0))) :
    Blk w0 N 51 (PC zp) ∧ Below w.heap.size w w0 := by
  subst hw
  refine ⟨?_, (Below.refl _ _).alloc (Nat.le_refl _) _⟩
  rw [← HN.out]
  exact Blk.new w 51 (PC zp)
theorem Blk.key {w : World} {b : Nat} {T : TypeId} {p : Pr} (h : Blk w b T (PC p)) : w.cell? ⟨b, 0, none⟩ = some (.string p.1) := h.cell (j := 0) rfl
theorem Blk.val {w : World} {b : Nat} {T : TypeId} {p : Pr} (h : Blk w b T (PC p)) : w.cell? ⟨b, 1, none⟩ = some (.string p.2.1) := h.cell (j := 1) rfl
theorem Blk.dead {w : World} {b : Nat} {T : TypeId} {p : Pr} (h : Blk w b T (PC p)) : w.cell? ⟨b, 2, none⟩ = some (.bool p.2.2) := h.cell (j := 2) rfl
abbrev PT (b : Nat) : Value := .pointer (some ⟨b, 0, none⟩)
end Go.Proofs.YtcicekggeampcaaGreat
