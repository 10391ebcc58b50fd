/-
  Texts that ride together: Gen9 MtP MtL MtB.
-/
import Derived.Test.YtfclmjfbcmjfbaaDoorGK
import Derived.Lib.BitFns
import Derived.Lib.Walk
/-
  What may change; rows of elements of any make in memory: what one reads as, what the call owns.
-/
namespace Go.Proofs.YtfclmjfbcmjfbaaDoor
open Go.RowKit
theorem hide {p : Prop} (h : p) : Hid p := h

/-- w' is w but for blocks of F; new blocks may be there. -/
structure Chg (F : Nat → Prop) (w w' : World) : Prop where
  os : w'.os = w.os
  tape : w'.tape = w.tape
  output : w'.output = w.output
  size : w.heap.size ≤ w'.heap.size
  block : ∀ k, k < w.heap.size → ¬ F k → w'.heap[k]? = w.heap[k]?
theorem Chg.refl (F : Nat → Prop) (w : World) : Chg F w w := ⟨rfl, rfl, rfl, Nat.le_refl _, fun _ _ _ => rfl⟩
theorem Chg.trans {F : Nat → Prop} {x y z : World} (h : Chg F x y) (k : Chg F y z) : Chg F x z :=
  ⟨k.os.trans h.os, k.tape.trans h.tape, k.output.trans h.output, Nat.le_trans h.size k.size, fun i hi hn => (k.block i (Nat.lt_of_lt_of_le hi h.size) hn).trans (h.block i hi hn)⟩
/-- .. where what may change behind is new, or may change ahead. -/
theorem Chg.then {F G : Nat → Prop} {x y z : World} (h : Chg F x y) (k : Chg G y z) (hG : ∀ i, i < x.heap.size → G i → F i) : Chg F x z :=
  ⟨k.os.trans h.os, k.tape.trans h.tape, k.output.trans h.output, Nat.le_trans h.size k.size, fun i hi hn => (k.block i (Nat.lt_of_lt_of_le hi h.size) (fun g => hn (hG i hi g))).trans (h.block i hi hn)⟩
theorem Chg.mono {F G : Nat → Prop} {w w' : World} (h : Chg F w w') (hF : ∀ i, i < w.heap.size → F i → G i) : Chg G w w' :=
  ⟨h.os, h.tape, h.output, h.size, fun i hi hn => h.block i hi (fun f => hn (hF i hi f))⟩
theorem Chg.of_below {F : Nat → Prop} {w w' : World} (h : Below w.heap.size w w') : Chg F w w' := ⟨h.os, h.tape, h.output, h.size, fun k hk _ => h.block k hk⟩
theorem Chg.of_but {F : Nat → Prop} {b : Nat} {w w' : World} (h : But b w w') (hb : F b) : Chg F w w' :=
  ⟨h.os, h.tape, h.output, h.size, fun k hk hn => h.block k hk (fun e => hn (e ▸ hb))⟩
theorem Chg.of_grown {F : Nat → Prop} {r : Option Nat} {w w' : World} (h : w.grownBy w' r) (hr : ∀ k, r = some k → k < w.heap.size → F k) : Chg F w w' :=
  ⟨h.os, h.tape, h.output, h.size, fun k hk hn => h.block k hk (fun e => hn (hr k e.symm hk))⟩
theorem Chg.below {F : Nat → Prop} {w w' : World} (h : Chg F w w') {B : Nat} (hB : B ≤ w.heap.size) (hF : ∀ k, k < B → ¬ F k) : Below B w w' :=
  ⟨h.os, h.tape, h.output, h.size, fun k hk => h.block k (by omega) (hF k hk)⟩
theorem Chg.drew (F : Nat → Prop) (w : World) : Chg F w w.drew := ⟨rfl, rfl, rfl, Nat.le_refl _, fun _ _ _ => rfl⟩
theorem Chg.alloc (F : Nat → Prop) (w : World) (o : Obj) : Chg F w (w.alloc o) := ⟨rfl, rfl, rfl, by simp, fun k hk _ => Below.heap_alloc _ _ _ hk⟩
theorem Chg.setCell {F : Nat → Prop} (w : World) {b : Nat} (hb : F b) (j : Nat) (v : Value) : Chg F w (w.setCell ⟨b, j, none⟩ v) := Chg.of_but (But.setCell b w j v) hb
theorem Chg.setCells {F : Nat → Prop} (w : World) {b : Nat} (hb : F b) (j : Nat) (ds : List Value) : Chg F w (w.setCells b j ds) := Chg.of_but (But.setCells b ds j w) hb
theorem Blk.chg {w w' : World} {b : Nat} {T : TypeId} {cs : List Value} (h : Blk w b T cs) {F : Nat → Prop} (hb : Chg F w w') (hF : ¬ F b) : Blk w' b T cs := (hb.block b h.lt hF).trans h


/-- The slice lies in block b. -/
def InB (v : Value) (b : Nat) : Prop := ∃ off n cap, v = .slice (some ⟨b, off, none⟩) n cap ∧ 0 < n
theorem Chg.cellAt {F : Nat → Prop} {w w' : World} (h : Chg F w w') {b j : Nat} (hb : b < w.heap.size) (hF : ¬ F b) : w'.cell? ⟨b, j, none⟩ = w.cell? ⟨b, j, none⟩ := by
  simp [World.cell?, h.block b hb hF]

/-- How an element lies in cells. -/
structure Enc (α : Type) where
  c : α → List Value
  n : Nat
  len : ∀ x, (c x).length = n
  one : ∀ x, ∀ u ∈ c x, u.oneCell' = true
def Enc.cs {α : Type} (E : Enc α) (L : List α) : List Value := L.flatMap E.c
section
variable {α : Type} {E : Enc α}
theorem Enc.cs_nil : E.cs [] = [] := rfl
theorem Enc.cs_cons (v : α) (L : List α) : E.cs (v :: L) = E.c v ++ E.cs L := rfl
theorem Enc.cs_append (L M : List α) : E.cs (L ++ M) = E.cs L ++ E.cs M := by simp [Enc.cs]
theorem Enc.cs_one1 (v : α) : E.cs [v] = E.c v := by simp [Enc.cs]
theorem Enc.cs_length : ∀ (L : List α), (E.cs L).length = L.length * E.n
  | [] => by simp [Enc.cs]
  | v :: L => by rw [Enc.cs_cons, List.length_append, E.len, Enc.cs_length L, List.length_cons, Nat.add_mul]; omega
theorem Enc.cs_one (L : List α) : ∀ u ∈ E.cs L, u.oneCell' = true := by
  intro u hu
  obtain ⟨v, _, h⟩ := List.mem_flatMap.1 hu
  exact E.one v u h
theorem Enc.cs_take : ∀ (L : List α) (k : Nat), E.cs (L.take k) = (E.cs L).take (k * E.n)
  | [], k => by simp [Enc.cs]
  | v :: L, 0 => by simp [Enc.cs]
  | v :: L, k + 1 => by
    rw [List.take_succ_cons, Enc.cs_cons, Enc.cs_cons, Enc.cs_take L k, List.take_append, E.len, List.take_of_length_le (l := E.c v) (by rw [E.len, Nat.add_mul]; omega)]
    congr 2
    rw [Nat.add_mul]
    omega
theorem Enc.cs_drop : ∀ (L : List α) (k : Nat), E.cs (L.drop k) = (E.cs L).drop (k * E.n)
  | [], k => by simp [Enc.cs]
  | v :: L, 0 => by simp [Enc.cs]
  | v :: L, k + 1 => by
    rw [List.drop_succ_cons, Enc.cs_cons, Enc.cs_drop L k, List.drop_append, E.len, List.drop_of_length_le (l := E.c v) (by rw [E.len, Nat.add_mul]; omega), List.nil_append]
    congr 1
    rw [Nat.add_mul]
    omega
theorem Enc.cs_get {L : List α} {j : Nat} (h : j < L.length) {i : Nat} {u : Value} (hi : (E.c L[j])[i]? = some u) : (E.cs L)[j * E.n + i]? = some u := by
  have e : E.cs L = E.cs (L.take j) ++ (E.c L[j] ++ E.cs (L.drop (j + 1))) := by
    rw [← Enc.cs_cons, ← Enc.cs_append, ← List.drop_eq_getElem_cons h, List.take_append_drop]
  have hlt := (List.getElem?_eq_some_iff.1 hi).1
  have hl : (E.cs (L.take j)).length = j * E.n := by rw [Enc.cs_length, List.length_take]; congr 1; omega
  rw [e, List.getElem?_append_right (by omega), hl, Nat.add_sub_cancel_left, List.getElem?_append_left hlt]
  exact hi
/-- The slice value v reads as the elements L. -/
def RdG (E : Enc α) (w : World) (v : Value) (L : List α) : Prop :=
  ∃ a cap, v = .slice a L.length cap ∧ L.length ≤ cap ∧ cap ≤ maxLen ∧ (a = none → cap = 0) ∧
    (0 < L.length → ∃ b off, a = some ⟨b, off, none⟩ ∧ b < w.heap.size ∧ ∀ j u, (E.cs L)[j]? = some u → w.cell? ⟨b, off + j, none⟩ = some u)
theorem RdG_nil (w : World) : RdG E w (.slice none 0 0) [] := ⟨none, 0, rfl, by simp, by simp, fun _ => rfl, fun h => by simp at h⟩
theorem RdG.chg {w w' : World} {v : Value} {L : List α} {F : Nat → Prop} (h : RdG E w v L) (hc : Chg F w w') (hF : ∀ b, InB v b → ¬ F b) : RdG E w' v L := by
  obtain ⟨a, cap, rfl, h1, h2, h3, h4⟩ := h
  refine ⟨a, cap, rfl, h1, h2, h3, fun hl => ?_⟩
  obtain ⟨b, off, rfl, hlt, hcell⟩ := h4 hl
  refine ⟨b, off, rfl, Nat.lt_of_lt_of_le hlt hc.size, fun j u hj => ?_⟩
  rw [← hcell j u hj]
  simp only [World.cell?]
  rw [hc.block b hlt (hF b ⟨off, _, _, rfl, hl⟩)]
theorem RdG.kept {w w' : World} {v : Value} {L : List α} (h : RdG E w v L) (hb : Below w.heap.size w w') : RdG E w' v L :=
  h.chg (F := fun _ => False) (Chg.of_below hb) (fun _ _ => id)
theorem RdG.slice {w : World} {v : Value} {L : List α} (h : RdG E w v L) : ∃ a cap, v = .slice a L.length cap := by
  obtain ⟨a, cap, rfl, -⟩ := h
  exact ⟨a, cap, rfl⟩
theorem RdG.inB_lt {w : World} {v : Value} {L : List α} (h : RdG E w v L) {b : Nat} (hb : InB v b) : b < w.heap.size := by
  obtain ⟨a, cap, rfl, h1, h2, h3, h4⟩ := h
  obtain ⟨off, n, cap', e, hn⟩ := hb
  simp only [Value.slice.injEq] at e
  obtain ⟨rfl, rfl, rfl⟩ := e
  obtain ⟨b', off', e, hlt, _⟩ := h4 hn
  simp only [Option.some.injEq, Addr.mk.injEq, and_true] at e
  obtain ⟨rfl, rfl⟩ := e
  exact hlt
/-- Where the elements lie. -/
theorem RdG.nth {w : World} {a : Option Addr} {n cap : Nat} {L : List α} (h : RdG E w (.slice a n cap) L) (hp : 0 < n) :
    ∃ b off, a = some ⟨b, off, none⟩ ∧ b < w.heap.size ∧ ∀ j (hj : j < L.length), w.rangeAt b (off + j * E.n) (E.c L[j]) := by
  obtain ⟨a', cap', e, h1, h2, h3, h4⟩ := h
  simp only [Value.slice.injEq] at e
  obtain ⟨rfl, rfl, rfl⟩ := e
  obtain ⟨b, off, rfl, hlt, hc⟩ := h4 hp
  refine ⟨b, off, rfl, hlt, fun j hj i u hi => ?_⟩
  rw [Nat.add_assoc]
  exact hc (j * E.n + i) u (Enc.cs_get hj hi)
theorem RdG.len {w : World} {a : Option Addr} {n cap : Nat} {L : List α} (h : RdG E w (.slice a n cap) L) : L.length = n := by
  obtain ⟨a', cap', e, _⟩ := h
  simp only [Value.slice.injEq] at e
  exact e.2.1.symm
theorem RdG.cap {w : World} {a : Option Addr} {n cap : Nat} {L : List α} (h : RdG E w (.slice a n cap) L) : n ≤ cap := by
  obtain ⟨a', cap', e, h1, _⟩ := h
  simp only [Value.slice.injEq] at e
  obtain ⟨_, rfl, rfl⟩ := e
  exact h1
theorem RdG.max {w : World} {a : Option Addr} {n cap : Nat} {L : List α} (h : RdG E w (.slice a n cap) L) : cap ≤ 9223372036854775807 := by
  obtain ⟨a', cap', e, h1, h2, _⟩ := h
  simp only [Value.slice.injEq] at e
  obtain ⟨_, rfl, rfl⟩ := e
  simpa [maxLen] using h2
/-- The slice value v, of a row of elements of type e from block B on, is the call's own and holds the elements L. -/
def OwnG (E : Enc α) (w : World) (B : Nat) (e : TypeId) (v : Value) (L : List α) : Prop := w.ownsRow B e E.n v L.length (E.cs L)
theorem OwnG.rd {w : World} {B : Nat} {e : TypeId} {v : Value} {L : List α} (h : OwnG E w B e v L) : RdG E w v L := by
  have hc := h
  obtain ⟨h1, h2⟩ := h
  rcases h2 with ⟨rfl, hn⟩ | ⟨g, cap, cur, rfl, hg, hh, hnc, hcm, hcs, htk⟩
  · have : L = [] := List.eq_nil_of_length_eq_zero hn
    subst this
    exact RdG_nil w
  · refine ⟨some ⟨g, 0, none⟩, cap, rfl, hnc, hcm, fun h => by simp at h, fun _ => ⟨g, 0, rfl, ?_, fun j u hj => ?_⟩⟩
    · exact (Array.getElem?_eq_some_iff.1 hh).1
    · have := World.ownsRow.cells hc (g := g) rfl j u hj
      simpa [Addr.add_lit] using this
theorem ownG_nil (w : World) (B : Nat) (e : TypeId) : OwnG E w B e (.slice none 0 0) [] := ⟨by simp [Enc.cs], .inl ⟨rfl, rfl⟩⟩
theorem OwnG.chg {w w' : World} {B : Nat} {e : TypeId} {v : Value} {L : List α} {F : Nat → Prop} (h : OwnG E w B e v L) (hc : Chg F w w') (hF : ∀ b, v.ownBlock = some b → ¬ F b) : OwnG E w' B e v L := by
  obtain ⟨h1, h2⟩ := h
  refine ⟨h1, ?_⟩
  rcases h2 with h2 | ⟨g, cap, cur, hv, hg, hh, r⟩
  · exact Or.inl h2
  · have hlt : g < w.heap.size := (Array.getElem?_eq_some_iff.1 hh).1
    exact Or.inr ⟨g, cap, cur, hv, hg, by rw [hc.block g hlt (hF g (by rw [hv]; rfl))]; exact hh, r⟩
theorem OwnG.kept {w w' : World} {B : Nat} {e : TypeId} {v : Value} {L : List α} (h : OwnG E w B e v L) (hb : Below w.heap.size w w') : OwnG E w' B e v L :=
  h.chg (F := fun _ => False) (Chg.of_below hb) (fun _ _ => id)
theorem OwnG.mono {w : World} {B B' : Nat} {e : TypeId} {v : Value} {L : List α} (h : OwnG E w B e v L) (hB : B' ≤ B) : OwnG E w B' e v L := by
  obtain ⟨h1, h2⟩ := h
  refine ⟨h1, ?_⟩
  rcases h2 with h2 | ⟨g, cap, cur, hv, hg, r⟩
  · exact Or.inl h2
  · exact Or.inr ⟨g, cap, cur, hv, Nat.le_trans hB hg, r⟩
theorem OwnG.block {w : World} {B : Nat} {e : TypeId} {v : Value} {L : List α} (h : OwnG E w B e v L) {b : Nat} (hb : v.ownBlock = some b) : B ≤ b ∧ b < w.heap.size ∧ ∃ cur, w.heap[b]? = some (.cells cur e (0, 0)) := by
  obtain ⟨h1, h2⟩ := h
  rcases h2 with ⟨rfl, _⟩ | ⟨g, cap, cur, rfl, hg, hh, r⟩
  · cases hb
  · cases hb
    exact ⟨hg, (Array.getElem?_eq_some_iff.1 hh).1, cur, hh⟩
theorem inB_own {v : Value} {b : Nat} (h : InB v b) : v.ownBlock = some b := by
  obtain ⟨off, n, cap, rfl, _⟩ := h
  rfl
/-- The block of an owned row, cell by cell. -/
theorem OwnG.blk {w : World} {B : Nat} {e : TypeId} {v : Value} {L : List α} (h : OwnG E w B e v L) (hp : 0 < L.length) :
    ∃ g cap, ∃ cur : List Value, v = .slice (some ⟨g, 0, none⟩) L.length cap ∧ B ≤ g ∧ Blk w g e cur ∧ cur.take (L.length * E.n) = E.cs L ∧ cur.length = cap * E.n ∧ L.length ≤ cap ∧ cap ≤ maxLen := by
  obtain ⟨h1, h2⟩ := h
  rcases h2 with ⟨_, hn⟩ | ⟨g, cap, cur, rfl, hg, hh, hnc, hcm, hcs, htk⟩
  · omega
  · exact ⟨g, cap, cur.toList, rfl, hg, by simpa [Blk] using hh, htk, by simpa using hcs, hnc, hcm⟩
theorem OwnG.of_blk {w : World} {B g cap : Nat} {e : TypeId} {L : List α} {cur : List Value} (hb : Blk w g e cur) (hB : B ≤ g) (ht : cur.take (L.length * E.n) = E.cs L) (hc : cur.length = cap * E.n) (h1 : L.length ≤ cap) (h2 : cap ≤ maxLen) : OwnG E w B e (.slice (some ⟨g, 0, none⟩) L.length cap) L :=
  ⟨Enc.cs_length L, .inr ⟨g, cap, cur.toArray, rfl, hB, hb, h1, h2, by simpa using hc, by simpa using ht⟩⟩
theorem RdG.src {P : Program} {w : World} {v : Value} {L : List α} (h : RdG E w v L) (t e : TypeId) (hk : P.underlying t = some (.slice e)) : Src P E.n t v L.length (E.cs L) w := by
  obtain ⟨a, cap, rfl, h1, h2, h3, h4⟩ := h
  cases a with
  | none =>
    have := h3 rfl
    have hl : L = [] := List.eq_nil_of_length_eq_zero (by omega)
    subst hl
    exact Src.ofNil w hk cap
  | some x =>
    refine Src.ofSlice w hk x L.length cap (E.cs L) (Enc.cs_length L) (fun j u hj => ?_) (Enc.cs_one L)
    have hjl : j < (E.cs L).length := (List.getElem?_eq_some_iff.1 hj).1
    rw [Enc.cs_length] at hjl
    have hp : 0 < L.length := by
      rcases Nat.eq_zero_or_pos L.length with h0 | h0
      · rw [h0] at hjl; omega
      · exact h0
    obtain ⟨b, off, e, _, hc⟩ := h4 hp
    simp only [Option.some.injEq] at e
    subst e
    rw [Addr.add_lit]
    exact hc j u hj
/-- append of elements. -/
theorem wpList_append_G {P : Program} (w : World) {ops : Array Oper} {rest : List Oper} {o : Oper} {a : Act} {Q : Exit → Act → World → Prop} (hgd : o.guard = none) (s x : Operand) (t tx : TypeId)
    (ho : o.op = .call { callee := .builtin .append, args := #[s, x], argTypes := #[t, tx] })
    (base : Nat) (e : TypeId) (z : Value) (bytes : Nat) (ht : P.underlying t = some (.slice e)) (hi : (P.info? e).map (fun i => (i.zero, i.size, i.bytes)) = some (some z, E.n, bytes)) (hzs : z.cells.size = E.n)
    (v : Value) (L : List α) (hv : a.eval s = v) (hown : OwnG E w base e v L)
    (xv : Value) (M : List α) (hx : a.eval x = xv) (hr : RdG E w xv M) (e' : TypeId) (htx : P.underlying tx = some (.slice e'))
    (hlen : (L.length + M.length) * bytes ≤ 140737488355328) (hm : L.length + M.length ≤ maxLen) (hbase : base ≤ w.heap.size)
    (h : ∀ v' w', OwnG E w' base e v' (L ++ M) → w.grownBy w' v.ownBlock → wpList P ops Q rest (a.put o.dst v') w') : wpList P ops Q (o :: rest) a w := by
  obtain ⟨i, hi0, hz0, hz1, hz2⟩ := info_parts hi
  refine wpList_append_mine w hgd s x t tx ho base e i z E.n bytes ht hi0 hz0 hz1 hz2 hzs v L.length (E.cs L) hv hown xv M.length (E.cs M) hx (hr.src tx e' htx) hm hlen hbase ?_
  intro v' w' h1 h2
  refine h v' w' ?_ h2
  unfold OwnG
  rw [List.length_append, Enc.cs_append]
  exact h1
/-- A row of one element. -/
theorem rdG_one (w : World) (T : TypeId) (v : α) : RdG E (w.alloc (.cells (E.c v).toArray T (0, 0))) (.slice (some ⟨w.heap.size, 0, none⟩) 1 1) [v] := by
  refine ⟨some ⟨w.heap.size, 0, none⟩, 1, rfl, by simp, by simp [maxLen], fun h => by simp at h, fun _ => ⟨w.heap.size, 0, rfl, by simp, fun j u hj => ?_⟩⟩
  have := (Blk.new w T (E.c v)).cell (j := j) (v := u) (by simpa [Enc.cs] using hj)
  rwa [Nat.zero_add]
theorem ownG_one (w : World) (B : Nat) (T : TypeId) (v : α) (hB : B ≤ w.heap.size) : OwnG E (w.alloc (.cells (E.c v).toArray T (0, 0))) B T (.slice (some ⟨w.heap.size, 0, none⟩) 1 1) [v] :=
  OwnG.of_blk (L := [v]) (Blk.new w T (E.c v)) hB (by rw [Enc.cs_one1, List.take_of_length_le]; rw [E.len]; simp) (by rw [E.len]; simp) (by simp) (by simp [maxLen])
theorem ownG_none (w : World) (B : Nat) (T : TypeId) (hB : B ≤ w.heap.size) : OwnG E (w.alloc (.cells #[] T (0, 0))) B T (.slice (some ⟨w.heap.size, 0, none⟩) 0 0) [] :=
  OwnG.of_blk (L := []) (cur := []) (Blk.new w T []) hB (by simp [Enc.cs]) (by simp) (by simp) (by simp [maxLen])
/-- From place i on. -/
theorem slice_G {P : Program} {t e : TypeId} (ht : P.underlying t = some (.slice e)) (hsz : (P.info? e).map (·.size) = some E.n) (a : Option Addr) (n cap i : Nat) (hi : i ≤ n) (hn : n ≤ cap) :
    ∃ a', (∀ W, (Instr.sliceAt t (.slice a n cap) (some (.int .i64 (i : Int))) none none).run P W = .ok (.slice a' (n - i) (cap - i)) W) ∧ (a' = if cap = i then a else a.map (·.add (i * E.n))) ∧
      (∀ w (L : List α), RdG E w (.slice a n cap) L → RdG E w (.slice a' (n - i) (cap - i)) (L.drop i)) := by
  have e1 : (i : Int) ≤ (n : Int) := by omega
  refine ⟨if cap = i then a else a.map (·.add (i * E.n)), fun W => ?_, rfl, fun w L hr => ?_⟩
  · cases hq : P.info? e with
    | none => simp [hq] at hsz
    | some k =>
      have hk : k.size = E.n := by simpa [hq] using hsz
      simp [Instr.sliceAt, Instr.slice, run_underlying ht, Instr.sliceBounds, run_sliceBound, e1, sizeOf, typeInfo, hq, hk]
  · obtain ⟨a0, cap0, e, h1, h2, h3, h4⟩ := hr
    simp only [Value.slice.injEq] at e
    obtain ⟨rfl, rfl, rfl⟩ := e
    refine ⟨if cap = i then a else a.map (·.add (i * E.n)), cap - i, by simp, by simp; omega, by omega, fun h => ?_, fun hp => ?_⟩
    · by_cases hcc : cap = i
      · omega
      · rw [if_neg hcc] at h
        have := h3 (by simpa using h)
        omega
    · simp at hp
      obtain ⟨b, off, rfl, hlt, hcell⟩ := h4 (by omega)
      rw [if_neg (by omega)]
      refine ⟨b, off + i * E.n, by simp [Addr.add_mid], hlt, fun j u hj => ?_⟩
      rw [Nat.add_assoc]
      refine hcell (i * E.n + j) u ?_
      rw [← hj, Enc.cs_drop, List.getElem?_drop]
/-- Up to place j. -/
theorem slice_G_to {P : Program} {t e : TypeId} (ht : P.underlying t = some (.slice e)) (hsz : (P.info? e).map (·.size) = some E.n) (a : Option Addr) (n cap j : Nat) (hj : j ≤ n) (hn : n ≤ cap) :
    (∀ W, (Instr.sliceAt t (.slice a n cap) none (some (.int .i64 (j : Int))) none).run P W = .ok (.slice a j cap) W) ∧
      (∀ w (L : List α), RdG E w (.slice a n cap) L → RdG E w (.slice a j cap) (L.take j)) := by
  have e2 : (j : Int) ≤ (cap : Int) := by omega
  refine ⟨fun W => ?_, fun w L hr => ?_⟩
  · cases hq : P.info? e with
    | none => simp [hq] at hsz
    | some k =>
      cases a <;> simp [Instr.sliceAt, Instr.slice, run_underlying ht, Instr.sliceBounds, run_sliceBound, e2, sizeOf, typeInfo, hq, Addr.add]
  · obtain ⟨a0, cap0, e, h1, h2, h3, h4⟩ := hr
    simp only [Value.slice.injEq] at e
    obtain ⟨rfl, rfl, rfl⟩ := e
    refine ⟨a, cap, by rw [List.length_take]; congr 1; omega, by rw [List.length_take]; omega, h2, h3, fun hp => ?_⟩
    rw [List.length_take] at hp
    obtain ⟨b, off, rfl, hlt, hcell⟩ := h4 (by omega)
    refine ⟨b, off, rfl, hlt, fun k u hk => hcell k u ?_⟩
    rw [Enc.cs_take] at hk
    have : k < j * E.n := by have := (List.getElem?_eq_some_iff.1 hk).1; rw [List.length_take] at this; omega
    rwa [List.getElem?_take_of_lt this] at hk
end
end Go.Proofs.YtfclmjfbcmjfbaaDoor

/-
  The tree that only grows, plain: powers of two, roots, peaks, and what follows.
-/
namespace Go.Proofs.YtfclmjfbcmjfbaaDoor
open Go.RowKit

/-- The greatest power of two below n; 0 where there is none. -/
def spl (n : Nat) : Nat := if n < 2 then 0 else 2 ^ Nat.log2 (n - 1)
theorem spl_small {n : Nat} (h : n < 2) : spl n = 0 := by simp [spl, h]
theorem spl_lt {n : Nat} (h : 2 ≤ n) : spl n < n := by
  have : 2 ^ Nat.log2 (n - 1) ≤ n - 1 := Nat.log2_self_le (by omega)
  unfold spl
  rw [if_neg (by omega)]
  omega
theorem spl_pos {n : Nat} (h : 2 ≤ n) : 0 < spl n := by
  unfold spl
  rw [if_neg (by omega)]
  exact Nat.pow_pos (by decide)
theorem spl_ge {n : Nat} (h : 2 ≤ n) : n ≤ 2 * spl n := by
  have : n - 1 < 2 ^ (Nat.log2 (n - 1) + 1) := Nat.lt_log2_self
  unfold spl
  rw [if_neg (by omega)]
  rw [Nat.pow_succ] at this
  omega
theorem spl_pow {n k : Nat} (h1 : 2 ^ k < n) (h2 : n ≤ 2 ^ (k + 1)) : spl n = 2 ^ k := by
  have hk : 0 < 2 ^ k := Nat.pow_pos (by decide)
  unfold spl
  rw [if_neg (by omega)]
  congr 1
  exact (Nat.log2_eq_iff (by omega)).2 ⟨by omega, by omega⟩

/-- The powers of two below 2^k that n is made of, the greatest first. -/
def bitsFrom : Nat → Nat → List Nat
  | 0, _ => []
  | k + 1, n => if 2 ^ k ≤ n then 2 ^ k :: bitsFrom k (n - 2 ^ k) else bitsFrom k n
theorem bits_zero : ∀ k, bitsFrom k 0 = []
  | 0 => rfl
  | k + 1 => by
    have hk : 0 < 2 ^ k := Nat.pow_pos (by decide)
    rw [bitsFrom, if_neg (by omega), bits_zero k]
theorem bits_le : ∀ k n, (bitsFrom k n).length ≤ k
  | 0, _ => by simp [bitsFrom]
  | k + 1, n => by
    rw [bitsFrom]
    split
    · have := bits_le k (n - 2 ^ k); simp; omega
    · have := bits_le k n; omega
theorem bits_more : ∀ d k n, n < 2 ^ k → bitsFrom (k + d) n = bitsFrom k n
  | 0, _, _, _ => rfl
  | d + 1, k, n, h => by
    have : 2 ^ k ≤ 2 ^ (k + d) := Nat.pow_le_pow_right (by decide) (by omega)
    rw [← Nat.add_assoc, bitsFrom, if_neg (by omega), bits_more d k n h]
theorem bits_any {k k' n : Nat} (h : n < 2 ^ k) (h' : n < 2 ^ k') : bitsFrom k n = bitsFrom k' n := by
  rcases Nat.le_total k k' with hk | hk
  · obtain ⟨d, rfl⟩ := Nat.exists_eq_add_of_le hk
    exact (bits_more d k n h).symm
  · obtain ⟨d, rfl⟩ := Nat.exists_eq_add_of_le hk
    exact bits_more d k' n h'
/-- Twice as great, and one more if it is odd. -/
theorem bits_half : ∀ k n, n < 2 ^ (k + 1) → (bitsFrom (k + 1) n).length = n % 2 + (bitsFrom k (n / 2)).length
  | 0, n, h => by
    have h2 : n < 2 := by simpa using h
    rcases Nat.lt_or_ge n 1 with h1 | h1
    · obtain rfl : n = 0 := by omega
      simp [bitsFrom]
    · obtain rfl : n = 1 := by omega
      simp [bitsFrom]
  | k + 1, n, h => by
    have e2 : 2 ^ (k + 2) = 2 * 2 ^ (k + 1) := by rw [Nat.pow_succ]; omega
    have e1 : 2 ^ (k + 1) = 2 * 2 ^ k := by rw [Nat.pow_succ]; omega
    rw [bitsFrom, bitsFrom.eq_def (k + 1) (n / 2)]
    simp only []
    by_cases hn : 2 ^ (k + 1) ≤ n
    · rw [if_pos hn, if_pos (by omega), List.length_cons, List.length_cons, bits_half k (n - 2 ^ (k + 1)) (by omega)]
      have e3 : (n - 2 ^ (k + 1)) / 2 = n / 2 - 2 ^ k := by omega
      rw [e3]
      omega
    · rw [if_neg hn, if_neg (by omega), bits_half k n (by omega)]
theorem bits_pos {k n : Nat} (h : n < 2 ^ k) (h0 : 0 < n) : 0 < (bitsFrom k n).length := by
  induction k generalizing n with
  | zero => simp at h; omega
  | succ k ih =>
    rw [bitsFrom]
    split
    · simp
    · exact ih (by omega) h0
/-- They are powers of two, fall, and have n as their sum. -/
theorem bits_mem : ∀ k n x, x ∈ bitsFrom k n → ∃ j, j < k ∧ x = 2 ^ j
  | 0, _, _, h => by simp [bitsFrom] at h
  | k + 1, n, x, h => by
    rw [bitsFrom] at h
    split at h
    · rcases List.mem_cons.1 h with rfl | h
      · exact ⟨k, by omega, rfl⟩
      · obtain ⟨j, hj, e⟩ := bits_mem k _ x h
        exact ⟨j, by omega, e⟩
    · obtain ⟨j, hj, e⟩ := bits_mem k _ x h
      exact ⟨j, by omega, e⟩
theorem bits_lt {k n x : Nat} (h : x ∈ bitsFrom k n) : x < 2 ^ k := by
  obtain ⟨j, hj, rfl⟩ := bits_mem k n x h
  exact Nat.pow_lt_pow_right (by decide) hj
theorem bits_fall : ∀ k n, (bitsFrom k n).Pairwise (fun a b => b < a)
  | 0, _ => by simp [bitsFrom]
  | k + 1, n => by
    rw [bitsFrom]
    split
    · exact List.pairwise_cons.2 ⟨fun x hx => bits_lt hx, bits_fall k _⟩
    · exact bits_fall k n
theorem bits_sum : ∀ k n, n < 2 ^ k → (bitsFrom k n).sum = n
  | 0, n, h => by simp at h; simp [bitsFrom, h]
  | k + 1, n, h => by
    have e1 : 2 ^ (k + 1) = 2 * 2 ^ k := by rw [Nat.pow_succ]; omega
    rw [bitsFrom]
    split
    · rw [List.sum_cons, bits_sum k _ (by omega)]; omega
    · exact bits_sum k n (by omega)
/-- The bits of n, one by one. -/
theorem bits_test (k n : Nat) : bitsFrom (k + 1) (n % 2 ^ (k + 1)) = if n / 2 ^ k % 2 = 1 then 2 ^ k :: bitsFrom k (n % 2 ^ k) else bitsFrom k (n % 2 ^ k) := by
  have hk : 0 < 2 ^ k := Nat.pow_pos (by decide)
  have e : n % 2 ^ (k + 1) = n % 2 ^ k + 2 ^ k * (n / 2 ^ k % 2) := by rw [Nat.pow_succ]; exact Nat.mod_mul
  have hm : n % 2 ^ k < 2 ^ k := Nat.mod_lt _ hk
  rw [bitsFrom]
  by_cases h : n / 2 ^ k % 2 = 1
  · rw [h, Nat.mul_one] at e
    rw [if_pos h, if_pos (by omega), e, Nat.add_sub_cancel]
  · have h0 : n / 2 ^ k % 2 = 0 := by omega
    rw [h0, Nat.mul_zero] at e
    rw [if_neg h, if_neg (by omega), e, Nat.add_zero]

section
variable {α : Type} (nd : α → α → α) (em : α)
/-- The root of leaves, by at most as many halvings. -/
def rootF : Nat → List α → α
  | 0, _ => em
  | _ + 1, [] => em
  | _ + 1, [x] => x
  | f + 1, x :: y :: t => nd (rootF f ((x :: y :: t).take (spl (t.length + 2)))) (rootF f ((x :: y :: t).drop (spl (t.length + 2))))
theorem rootF_any : ∀ (f g : Nat) (l : List α), l.length ≤ f → l.length ≤ g → rootF nd em f l = rootF nd em g l
  | 0, g, l, h, _ => by
    have : l = [] := List.eq_nil_of_length_eq_zero (by omega)
    subst this
    cases g <;> rfl
  | f + 1, 0, l, _, h => by
    have : l = [] := List.eq_nil_of_length_eq_zero (by omega)
    subst this
    rfl
  | _ + 1, _ + 1, [], _, _ => rfl
  | _ + 1, _ + 1, [_], _, _ => rfl
  | f + 1, g + 1, x :: y :: t, h, h' => by
    have h1 := spl_lt (n := t.length + 2) (by omega)
    have h2 := spl_pos (n := t.length + 2) (by omega)
    simp only [List.length_cons] at h h'
    rw [rootF, rootF, rootF_any f g _ (by simp only [List.length_take, List.length_cons]; omega) (by simp only [List.length_take, List.length_cons]; omega),
      rootF_any f g _ (by simp only [List.length_drop, List.length_cons]; omega) (by simp only [List.length_drop, List.length_cons]; omega)]
/-- The root of leaves. -/
def root (l : List α) : α := rootF nd em l.length l
theorem root_nil : root nd em [] = em := rfl
theorem root_one (x : α) : root nd em [x] = x := rfl
theorem root_split {l : List α} (h : 2 ≤ l.length) : root nd em l = nd (root nd em (l.take (spl l.length))) (root nd em (l.drop (spl l.length))) := by
  match l, h with
  | x :: y :: t, _ =>
    have h1 := spl_lt (n := t.length + 2) (by omega)
    have h2 := spl_pos (n := t.length + 2) (by omega)
    show rootF nd em (t.length + 1 + 1) (x :: y :: t) = nd (rootF nd em _ ((x :: y :: t).take (spl (t.length + 2)))) (rootF nd em _ ((x :: y :: t).drop (spl (t.length + 2))))
    rw [rootF, rootF_any nd em (t.length + 1) ((x :: y :: t).take (spl (t.length + 2))).length _ (by simp only [List.length_take, List.length_cons]; omega) (Nat.le_refl _),
      rootF_any nd em (t.length + 1) ((x :: y :: t).drop (spl (t.length + 2))).length _ (by simp only [List.length_drop, List.length_cons]; omega) (Nat.le_refl _)]
    rfl
theorem root_two {k : Nat} {x y : List α} (hx : x.length = 2 ^ k) (hy : 0 < y.length) (hy' : y.length ≤ 2 ^ k) : root nd em (x ++ y) = nd (root nd em x) (root nd em y) := by
  have hk : 0 < 2 ^ k := Nat.pow_pos (by decide)
  have e : spl (x ++ y).length = x.length := by
    rw [hx]
    exact spl_pow (by rw [List.length_append]; omega) (by rw [List.length_append, Nat.pow_succ]; omega)
  rw [root_split nd em (by rw [List.length_append]; omega), e, List.take_left, List.drop_left]

/-- The roots of the whole trees of which the tree of these leaves is made. -/
def topsFrom : Nat → List α → List α
  | 0, _ => []
  | k + 1, l => if 2 ^ k ≤ l.length then root nd em (l.take (2 ^ k)) :: topsFrom k (l.drop (2 ^ k)) else topsFrom k l
theorem tops_length : ∀ k (l : List α), (topsFrom nd em k l).length = (bitsFrom k l.length).length
  | 0, _ => rfl
  | k + 1, l => by
    rw [topsFrom, bitsFrom]
    split
    · rw [List.length_cons, List.length_cons, tops_length k, List.length_drop]
    · exact tops_length k l
theorem tops_nil (k : Nat) : topsFrom nd em k [] = [] := by
  apply List.eq_nil_of_length_eq_zero
  rw [tops_length, List.length_nil, bits_zero]
  rfl
/-- The peaks, joined from the right. -/
def joined : List α → α
  | [] => em
  | [x] => x
  | x :: y :: t => nd x (joined (y :: t))
theorem joined_cons (x : α) {t : List α} (h : t ≠ []) : joined nd em (x :: t) = nd x (joined nd em t) := by
  cases t with
  | nil => exact absurd rfl h
  | cons y t => rfl
/-- What the peaks are joined to is the root. -/
theorem joined_tops : ∀ k (l : List α), l.length < 2 ^ k → joined nd em (topsFrom nd em k l) = root nd em l
  | 0, l, h => by
    have : l = [] := List.eq_nil_of_length_eq_zero (by simpa using h)
    subst this
    simp [topsFrom, joined, root_nil]
  | k + 1, l, h => by
    have e1 : 2 ^ (k + 1) = 2 * 2 ^ k := by rw [Nat.pow_succ]; omega
    have hk : 0 < 2 ^ k := Nat.pow_pos (by decide)
    rw [topsFrom]
    by_cases hl : 2 ^ k ≤ l.length
    · rw [if_pos hl]
      by_cases he : l.length = 2 ^ k
      · have e2 : l.drop (2 ^ k) = [] := List.drop_eq_nil_of_le (by omega)
        rw [e2, tops_nil, List.take_of_length_le (by omega)]
        rfl
      · have hd : (l.drop (2 ^ k)).length = l.length - 2 ^ k := List.length_drop
        have ht : (l.take (2 ^ k)).length = 2 ^ k := by rw [List.length_take]; omega
        have hne : topsFrom nd em k (l.drop (2 ^ k)) ≠ [] := by
          intro e
          have := congrArg List.length e
          rw [tops_length, List.length_nil] at this
          have h2 := bits_pos (k := k) (n := (l.drop (2 ^ k)).length) (by omega) (by omega)
          omega
        rw [joined_cons nd em _ hne, joined_tops k _ (by omega), ← root_two nd em ht (by omega) (by omega), List.take_append_drop]
    · rw [if_neg hl, joined_tops k l (by omega)]
/-- Each peak is the root of its leaves. -/
theorem tops_at : ∀ k (l : List α) i n, (bitsFrom k l.length)[i]? = some n → (topsFrom nd em k l)[i]? = some (root nd em ((l.drop ((bitsFrom k l.length).take i).sum).take n))
  | 0, _, _, _, h => by simp [bitsFrom] at h
  | k + 1, l, i, n, h => by
    rw [bitsFrom] at h ⊢
    rw [topsFrom]
    split
    · rename_i hl
      rw [if_pos hl] at h
      cases i with
      | zero =>
        simp at h
        subst h
        simp
      | succ i =>
        rw [List.getElem?_cons_succ] at h ⊢
        rw [List.take_succ_cons, List.sum_cons, ← List.drop_drop]
        have := tops_at k (l.drop (2 ^ k)) i n (by rw [List.length_drop]; exact h)
        rw [List.length_drop] at this
        exact this
    · rename_i hl
      rw [if_neg hl] at h
      exact tops_at k l i n h

/-- One tree more, as one is added to a number: T are the peaks from the right. -/
def carry : Nat → List α → α → List α
  | _, [], h => [h]
  | s, t :: T, h => if s % 2 = 1 then carry (s / 2) T (nd t h) else h :: t :: T
theorem mul_le_of_lt {a b c : Nat} (h : a < b) : c * a + c ≤ c * b := by
  have := Nat.mul_le_mul_left c (show a + 1 ≤ b from h)
  rwa [Nat.mul_add, Nat.mul_one] at this
/-- A tree of 2^j leaves behind twice as many, some times. -/
theorem tops_even (j : Nat) (x : List α) (hx : x.length = 2 ^ j) : ∀ k (l : List α) m, l.length = 2 ^ (j + 1) * m → l.length + 2 ^ j < 2 ^ k → topsFrom nd em k (l ++ x) = topsFrom nd em k l ++ [root nd em x]
  | 0, l, m, _, h => by
    have hk : 0 < 2 ^ j := Nat.pow_pos (by decide)
    rw [Nat.pow_zero] at h
    omega
  | k + 1, l, m, hm, h => by
    have e1 : 2 ^ (k + 1) = 2 * 2 ^ k := by rw [Nat.pow_succ]; omega
    have ej : 2 ^ (j + 1) = 2 * 2 ^ j := by rw [Nat.pow_succ]; omega
    have hj : 0 < 2 ^ j := Nat.pow_pos (by decide)
    rw [topsFrom, topsFrom, List.length_append, hx]
    by_cases hl : 2 ^ k ≤ l.length + 2 ^ j
    · rw [if_pos hl]
      rcases Nat.lt_trichotomy j k with hjk | rfl | hjk
      · obtain ⟨d, rfl⟩ := Nat.exists_eq_add_of_lt hjk
        have ek : 2 ^ (j + d + 1) = 2 ^ (j + 1) * 2 ^ d := by rw [← Nat.pow_add]; congr 1; omega
        have hle : 2 ^ (j + d + 1) ≤ l.length := by
          rcases Nat.lt_or_ge m (2 ^ d) with hlt | hge
          · have := mul_le_of_lt (c := 2 ^ (j + 1)) hlt
            omega
          · rw [ek, hm]
            exact Nat.mul_le_mul_left _ hge
        rw [if_pos hle, List.take_append_of_le_length hle, List.drop_append_of_le_length hle, tops_even j x hx (j + d + 1) (l.drop (2 ^ (j + d + 1))) (m - 2 ^ d) (by rw [List.length_drop, hm, ek, Nat.mul_sub]) (by rw [List.length_drop]; omega)]
        rfl
      · have hm0 : m = 0 := by
          rcases Nat.eq_zero_or_pos m with h0 | h0
          · exact h0
          · have := Nat.mul_le_mul_left (2 ^ (j + 1)) h0
            omega
        subst hm0
        have : l = [] := List.eq_nil_of_length_eq_zero (by simpa using hm)
        subst this
        rw [if_neg (by simp), tops_nil, List.nil_append, List.take_of_length_le (by omega), List.drop_eq_nil_of_le (by omega), tops_nil]
        rfl
      · have : 2 ^ (k + 1) ≤ 2 ^ j := Nat.pow_le_pow_right (by decide) (by omega)
        omega
    · rw [if_neg hl, if_neg (by omega), tops_even j x hx k l m hm (by omega)]
theorem tops_carry : ∀ m j k (l x : List α), x.length = 2 ^ j → l.length = 2 ^ j * m → l.length + 2 ^ j < 2 ^ k → topsFrom nd em k (l ++ x) = (carry nd m (topsFrom nd em k l).reverse (root nd em x)).reverse := by
  intro m
  induction m using Nat.strongRecOn with
  | _ m ih =>
    intro j k l x hx hm h
    have ej : 2 ^ (j + 1) = 2 * 2 ^ j := by rw [Nat.pow_succ]; omega
    have hj : 0 < 2 ^ j := Nat.pow_pos (by decide)
    by_cases ho : m % 2 = 1
    · obtain ⟨q, rfl⟩ : ∃ q, m = 2 * q + 1 := ⟨m / 2, by omega⟩
      have hq : 2 ^ (j + 1) * q + 2 ^ j = l.length := by rw [hm, ej, Nat.mul_add, Nat.mul_one, Nat.mul_comm 2 (2 ^ j), Nat.mul_assoc]
      have ht : (l.take (2 ^ (j + 1) * q)).length = 2 ^ (j + 1) * q := by rw [List.length_take]; omega
      have hd : (l.drop (2 ^ (j + 1) * q)).length = 2 ^ j := by rw [List.length_drop]; omega
      have el := List.take_append_drop (2 ^ (j + 1) * q) l
      generalize l.take (2 ^ (j + 1) * q) = a at *
      generalize l.drop (2 ^ (j + 1) * q) = b at *
      subst el
      rw [tops_even nd em j b hd k a q ht (by omega), List.append_assoc, List.reverse_append, List.reverse_singleton, List.singleton_append, carry, if_pos (by omega), show (2 * q + 1) / 2 = q by omega,
        ← root_two nd em hd (by omega) (by omega)]
      exact ih q (by omega) (j + 1) k a (b ++ x) (by rw [List.length_append]; omega) ht (by omega)
    · obtain ⟨q, rfl⟩ : ∃ q, m = 2 * q := ⟨m / 2, by omega⟩
      rw [tops_even nd em j x hx k l q (by rw [hm, ej, Nat.mul_comm 2 (2 ^ j), Nat.mul_assoc]) h]
      cases hT : (topsFrom nd em k l).reverse with
      | nil =>
        have : topsFrom nd em k l = [] := by simpa using hT
        rw [this, carry]
        rfl
      | cons t T =>
        rw [carry, if_neg ho, List.reverse_cons, ← hT, List.reverse_reverse]
/-- One leaf more. -/
theorem tops_add (k : Nat) (l : List α) (h : α) (hk : l.length + 1 < 2 ^ k) : topsFrom nd em k (l ++ [h]) = (carry nd l.length (topsFrom nd em k l).reverse h).reverse := by
  have := tops_carry nd em l.length 0 k l [h] (by simp) (by simp) (by simpa using hk)
  rwa [root_one] at this
end
#print axioms tops_add
#print axioms joined_tops
#print axioms tops_at
#print axioms bits_test
end Go.Proofs.YtfclmjfbcmjfbaaDoor

/-
  math/bits.Len, mountain.Split and the reference's: what the calls do.
-/
namespace Go.Proofs.YtfclmjfbcmjfbaaDoor
open Go.RowKit

theorem bitLen_aux : ∀ f x, 0 < x → x < 2 ^ f → Lib.bitLenAux f x = x.log2 + 1
  | 0, x, h, h' => by simp at h'; omega
  | f + 1, x, h, h' => by
    have e1 : 2 ^ (f + 1) = 2 * 2 ^ f := by rw [Nat.pow_succ]; omega
    rw [Lib.bitLenAux, if_neg (by omega), Nat.log2_def]
    split
    · rw [bitLen_aux f (x / 2) (by omega) (by omega)]; omega
    · obtain rfl : x = 1 := by omega
      cases f <;> rfl
theorem bitLen_log (x : Nat) (h : 0 < x) (h' : x < 18446744073709551616) : Lib.bitLen x = x.log2 + 1 := bitLen_aux 64 x h h'
theorem tab_size : Lib.len8tab.size = 256 := by decide +kernel
theorem tab_all : ∀ n : Fin 256, (Lib.len8tab[n.val]!).toNat = Lib.bitLen n.val := by decide +kernel
theorem tab_len (n : Nat) (h : n < Lib.len8tab.size) : (Lib.len8tab[n]'h).toNat = Lib.bitLen n := by
  rw [← tab_all ⟨n, by rw [tab_size] at h; exact h⟩, getElem!_pos Lib.len8tab n h]
theorem len_fin (x : Int) (k : Nat) (b : Int) (h0 : 0 ≤ x) (h1 : x ≤ 18446744073709551615) (hb : 0 ≤ b) (e : b.toNat = x.toNat / 2 ^ k) (hk : k = 0 ∨ 2 ^ k ≤ x.toNat) (hk8 : k ≤ 56) (h : b.toNat < Lib.len8tab.size) :
    wrap64 ((k : Int) + wrap64 ((Lib.len8tab[b.toNat]'h).toNat : Int)) = (Lib.bitLen x.toNat : Int) ∧ (Lib.bitLen x.toNat : Int) ≤ 64 := by
  have hs := tab_size
  have l : Lib.bitLen b.toNat ≤ 8 := Lib.bitLen_le8' b hb (by omega)
  rw [tab_len]
  have e2 : Lib.bitLen x.toNat = k + Lib.bitLen b.toNat := by
    rw [e]
    rcases hk with rfl | hk
    · simp
    · exact Lib.bitLen_shift k x.toNat hk (by omega)
  rw [e2]
  unfold wrap64
  omega
set_option maxHeartbeats 4000000 in
set_option maxRecDepth 100000 in
theorem len64_any (x : Int) (h0 : 0 ≤ x) (h1 : x ≤ 18446744073709551615) (w : World) :
    Calls Tryd.prog 56 #[.int .u64 x] w fun e w' => e = .returned (.int .i64 (Lib.bitLen x.toNat : Int)) ∧ w' = w := by
  go_enter Tryd.func56, Tryd.ntmps56
  go_wp2
  all_goals first
    | (exfalso; rename_i h; refine h ?_; rw [tab_size]; omega)
    | (exfalso; rename_i h; rw [tab_size] at h; omega)
    | (go_ret
       refine ⟨congrArg Ending.returned (congrArg (Value.int IntKind.i64) ?_), rfl⟩
       first
       | exact (len_fin x 56 (x / 4294967296 / 65536 / 256) h0 h1 (by omega) (by omega) (.inr (by omega)) (by decide) _).1
       | exact (len_fin x 48 (x / 4294967296 / 65536) h0 h1 (by omega) (by omega) (.inr (by omega)) (by decide) _).1
       | exact (len_fin x 40 (x / 4294967296 / 256) h0 h1 (by omega) (by omega) (.inr (by omega)) (by decide) _).1
       | exact (len_fin x 32 (x / 4294967296) h0 h1 (by omega) (by omega) (.inr (by omega)) (by decide) _).1
       | exact (len_fin x 24 (x / 65536 / 256) h0 h1 (by omega) (by omega) (.inr (by omega)) (by decide) _).1
       | exact (len_fin x 16 (x / 65536) h0 h1 (by omega) (by omega) (.inr (by omega)) (by decide) _).1
       | exact (len_fin x 8 (x / 256) h0 h1 (by omega) (by omega) (.inr (by omega)) (by decide) _).1
       | (have := (len_fin x 0 x h0 h1 h0 (by simp) (.inl rfl) (by decide) (by rw [tab_size]; omega)).1; simpa using this))
theorem len_any (x : Int) (h0 : 0 ≤ x) (h1 : x ≤ 18446744073709551615) (w : World) :
    Calls Tryd.prog 50 #[.int .u64 x] w fun e w' => e = .returned (.int .i64 (Lib.bitLen x.toNat : Int)) ∧ w' = w := by
  go_enter Tryd.func50, Tryd.ntmps50
  go_wp2_with (go_at_call 56; refine (len64_any x h0 h1 _).mono ?_; rintro e w' ⟨rfl, rfl⟩)
  go_ret
  exact ⟨rfl, rfl⟩
theorem pow_fits {L : Nat} (h : L < 63) : 0 < 2 ^ L ∧ 2 ^ L ≤ 4611686018427387904 := ⟨Nat.pow_pos (by decide), Nat.pow_le_pow_right (n := 2) (by decide) (show L ≤ 62 by omega)⟩
theorem wrap_pow {L : Nat} (h : L < 63) : wrap64 ((2 : Int) ^ L) = ((2 ^ L : Nat) : Int) := by
  have hp := pow_fits h
  rw [show (2 : Int) ^ L = ((2 ^ L : Nat) : Int) from (Int.natCast_pow 2 L).symm]
  generalize 2 ^ L = p at *
  unfold wrap64
  omega
/-- mountain.Split. -/
theorem split_any (n : Int) (h1 : n ≤ 9223372036854775807) (w : World) :
    Calls Tryd.prog 44 #[.int .i64 n] w fun e w' => e = .returned (.int .i64 (spl n.toNat : Int)) ∧ w' = w := by
  by_cases h2 : n < 2
  · have e : spl n.toNat = 0 := spl_small (by omega)
    rw [e]
    go_enter Tryd.func44, Tryd.ntmps44
    go_wp2
    go_ret
    exact ⟨rfl, rfl⟩
  · have e : spl n.toNat = 2 ^ ((n - 1).toNat.log2) := by
      unfold spl
      rw [if_neg (by omega), show n.toNat - 1 = (n - 1).toNat by omega]
    have e3 : (Lib.bitLen (n - 1).toNat : Int) = ((n - 1).toNat.log2 : Int) + 1 := by rw [bitLen_log _ (by omega) (by omega)]; rfl
    have hL : (n - 1).toNat.log2 < 63 := (Nat.log2_lt (by omega)).2 (by omega)
    have q2 : ¬ n < 2 := h2
    have HC := hide (fun w => len_any (n - 1) (by omega) (by omega) w)
    rw [e3, e] at *
    generalize (n - 1).toNat.log2 = L at *
    have HE := hide e
    clear e
    go_enter Tryd.func44, Tryd.ntmps44
    go_wp2_with (go_at_call 50; refine (HC.out _).mono ?_; rintro e w' ⟨rfl, rfl⟩)
    go_ret
    exact ⟨congrArg (fun x => Ending.returned (Value.int IntKind.i64 x)) (wrap_pow hL), rfl⟩
end Go.Proofs.YtfclmjfbcmjfbaaDoor

/-
  mountain.Bits and the reference's, indenturelaw09.ints and lives: what the calls do.
-/
namespace Go.Proofs.YtfclmjfbcmjfbaaDoor
open Go.RowKit

/-- Numbers as cells. -/
def NE : Enc Nat := ⟨fun n => [.int .i64 (n : Int)], 1, fun _ => rfl, fun x u h => by simp at h; subst h; rfl⟩
theorem Tryd.info3 : (Tryd.prog.info? 3).map (fun i => (i.zero, i.size, i.bytes)) = some (some (.int .i64 0), NE.n, 8) := by kernel_rfl
/-- The power of two that is looked at, of j that are left. -/
def pw (j : Nat) : Nat := if j = 0 then 0 else 2 ^ (j - 1)
theorem pw_half (j : Nat) : pw j / 2 = pw (j - 1) := by
  match j with
  | 0 => rfl
  | 1 => rfl
  | j + 2 =>
    show 2 ^ (j + 1) / 2 = 2 ^ j
    rw [Nat.pow_succ]
    omega
theorem pw_le {j : Nat} (h : j ≤ 63) : pw j ≤ 4611686018427387904 := by
  unfold pw
  split
  · omega
  · exact (pow_fits (by omega)).2
theorem pw_pos {j : Nat} (h : 0 < j) : 0 < pw j := by
  unfold pw
  rw [if_neg (by omega)]
  exact Nat.pow_pos (by decide)
theorem bits_step {j m : Nat} (h : 0 < j) : bitsFrom j m = if pw j ≤ m then pw j :: bitsFrom (j - 1) (m - pw j) else bitsFrom (j - 1) m := by
  obtain ⟨k, rfl⟩ : ∃ k, j = k + 1 := ⟨j - 1, by omega⟩
  rfl
/-- The lowest bit. -/
theorem and_one (z : Int) : bits .and .i64 z 1 = z % 2 := by
  have e1 : (BitVec.ofInt 64 1).toNat = 2 ^ 1 - 1 := by decide
  have e : (BitVec.ofInt 64 z &&& BitVec.ofInt 64 1).toNat = (z % ((2 ^ 64 : Nat) : Int)).toNat % 2 ^ 1 := by
    rw [BitVec.toNat_and, BitVec.toNat_ofInt, e1, Nat.and_two_pow_sub_one_eq_mod]
  show IntKind.i64.wrap (((BitVec.ofInt 64 z &&& BitVec.ofInt 64 1).toNat : Nat) : Int) = z % 2
  rw [e, IntKind.wrap_i64]
  omega
set_option maxHeartbeats 1000000 in
set_option maxRecDepth 100000 in
/-- The reference's Split. -/
theorem nsplit_any (n : Int) (hn : n ≤ 9223372036854775807) (w : World) :
    Calls Tryd.prog 26 #[.int .i64 n] w fun e w' => e = .returned (.int .i64 (spl n.toNat : Int)) ∧ w' = w := by
  by_cases h2 : n < 2
  · have e : spl n.toNat = 0 := spl_small (by omega)
    rw [e]
    go_enter Tryd.func26, Tryd.ntmps26
    go_wp2
    go_ret
    exact ⟨rfl, rfl⟩
  · go_enter Tryd.func26, Tryd.ntmps26
    go_wp2
    go_loopg [3] 63 (fun g z wr => wr = w ∧ ∃ j : Nat, g + j = 63 ∧ z = .int .i64 ((2 ^ j : Nat) : Int) ∧ ((2 ^ j : Nat) : Int) < n)
    case atStart => exact ⟨rfl, 0, rfl, rfl, by simp; omega⟩
    case round =>
      obtain ⟨hw, j, hj, rfl, hjn⟩ := hrel
      subst hw
      have e2 : 2 ^ (j + 1) = 2 * 2 ^ j := by rw [Nat.pow_succ]; omega
      have hpos : 0 < 2 ^ j := Nat.pow_pos (by decide)
      by_cases hc : n ≤ 2 * ((2 ^ j : Nat) : Int)
      · have HS : Hid (spl n.toNat = 2 ^ j) := (spl_pow (by omega) (by omega))
        have HE := hide e2
        clear e2
        generalize 2 ^ j = p at *
        go_wp2
        go_ret
        exact ⟨by rw [HS.out]; rfl, rfl⟩
      · have hj2 : j < 62 := by
          rcases Nat.lt_or_ge j 62 with h | h
          · exact h
          · have := Nat.pow_le_pow_right (n := 2) (by decide) h
            omega
        have HE := hide e2
        clear e2
        generalize hp : 2 ^ j = p at *
        have HP := hide hp
        clear hp
        go_wp2
        go_roundg (gk - 1)
        case measure => omega
        case rel => exact ⟨rfl, j + 1, by omega, by rw [HE.out]; go_num, by rw [HE.out]; omega⟩
theorem RdG.num {w : World} {a : Option Addr} {n cap : Nat} {L : List Nat} (h : RdG NE w (.slice a n cap) L) (hp : 0 < n) :
    ∃ b off, a = some ⟨b, off, none⟩ ∧ ∀ j (hj : j < L.length), w.cell? ⟨b, off + j, none⟩ = some (.int .i64 (L[j] : Int)) := by
  obtain ⟨b, off, rfl, _, hc⟩ := h.nth hp
  refine ⟨b, off, rfl, fun j hj => ?_⟩
  have := hc j hj 0 _ rfl
  simpa [NE] using this
end Go.Proofs.YtfclmjfbcmjfbaaDoor
