/-
  Texts that ride together: Gen9 TrH TrP.
-/
import Derived.Test.YtooffljimdklfaaDoorPuts
import Derived.Test.YtooffljimdklfaaDoorTag2
/-
  What may change; rows of elements of any make in memory: what one reads as, what the call owns.
-/
namespace Go.Proofs.YtooffljimdklfaaDoor
open Go.RowKit
theorem hide {p : Prop} (h : p) : Hid p := h

/-- w' is w but for blocks of F; new blocks may be there. -/
structure Chg (F : Nat → Prop) (w w' : World) : Prop where
  os : w'.os = w.os
  tape : w'.tape = w.tape
  output : w'.output = w.output
  size : w.heap.size ≤ w'.heap.size
  block : ∀ k, k < w.heap.size → ¬ F k → w'.heap[k]? = w.heap[k]?
theorem Chg.refl (F : Nat → Prop) (w : World) : Chg F w w := ⟨rfl, rfl, rfl, Nat.le_refl _, fun _ _ _ => rfl⟩
theorem Chg.trans {F : Nat → Prop} {x y z : World} (h : Chg F x y) (k : Chg F y z) : Chg F x z :=
  ⟨k.os.trans h.os, k.tape.trans h.tape, k.output.trans h.output, Nat.le_trans h.size k.size, fun i hi hn => (k.block i (Nat.lt_of_lt_of_le hi h.size) hn).trans (h.block i hi hn)⟩
/-- .. where what may change behind is new, or may change ahead. -/
theorem Chg.then {F G : Nat → Prop} {x y z : World} (h : Chg F x y) (k : Chg G y z) (hG : ∀ i, i < x.heap.size → G i → F i) : Chg F x z :=
  ⟨k.os.trans h.os, k.tape.trans h.tape, k.output.trans h.output, Nat.le_trans h.size k.size, fun i hi hn => (k.block i (Nat.lt_of_lt_of_le hi h.size) (fun g => hn (hG i hi g))).trans (h.block i hi hn)⟩
theorem Chg.mono {F G : Nat → Prop} {w w' : World} (h : Chg F w w') (hF : ∀ i, i < w.heap.size → F i → G i) : Chg G w w' :=
  ⟨h.os, h.tape, h.output, h.size, fun i hi hn => h.block i hi (fun f => hn (hF i hi f))⟩
theorem Chg.of_below {F : Nat → Prop} {w w' : World} (h : Below w.heap.size w w') : Chg F w w' := ⟨h.os, h.tape, h.output, h.size, fun k hk _ => h.block k hk⟩
theorem Chg.of_but {F : Nat → Prop} {b : Nat} {w w' : World} (h : But b w w') (hb : F b) : Chg F w w' :=
  ⟨h.os, h.tape, h.output, h.size, fun k hk hn => h.block k hk (fun e => hn (e ▸ hb))⟩
theorem Chg.of_grown {F : Nat → Prop} {r : Option Nat} {w w' : World} (h : w.grownBy w' r) (hr : ∀ k, r = some k → k < w.heap.size → F k) : Chg F w w' :=
  ⟨h.os, h.tape, h.output, h.size, fun k hk hn => h.block k hk (fun e => hn (hr k e.symm hk))⟩
theorem Chg.below {F : Nat → Prop} {w w' : World} (h : Chg F w w') {B : Nat} (hB : B ≤ w.heap.size) (hF : ∀ k, k < B → ¬ F k) : Below B w w' :=
  ⟨h.os, h.tape, h.output, h.size, fun k hk => h.block k (by omega) (hF k hk)⟩
theorem Chg.drew (F : Nat → Prop) (w : World) : Chg F w w.drew := ⟨rfl, rfl, rfl, Nat.le_refl _, fun _ _ _ => rfl⟩
theorem Chg.alloc (F : Nat → Prop) (w : World) (o : Obj) : Chg F w (w.alloc o) := ⟨rfl, rfl, rfl, by simp, fun k hk _ => Below.heap_alloc _ _ _ hk⟩
theorem Chg.setCell {F : Nat → Prop} (w : World) {b : Nat} (hb : F b) (j : Nat) (v : Value) : Chg F w (w.setCell ⟨b, j, none⟩ v) := Chg.of_but (But.setCell b w j v) hb
theorem Chg.setCells {F : Nat → Prop} (w : World) {b : Nat} (hb : F b) (j : Nat) (ds : List Value) : Chg F w (w.setCells b j ds) := Chg.of_but (But.setCells b ds j w) hb
theorem Blk.chg {w w' : World} {b : Nat} {T : TypeId} {cs : List Value} (h : Blk w b T cs) {F : Nat → Prop} (hb : Chg F w w') (hF : ¬ F b) : Blk w' b T cs := (hb.block b h.lt hF).trans h


/-- The slice lies in block b. -/
def InB (v : Value) (b : Nat) : Prop := ∃ off n cap, v = .slice (some ⟨b, off, none⟩) n cap ∧ 0 < n
theorem Chg.cellAt {F : Nat → Prop} {w w' : World} (h : Chg F w w') {b j : Nat} (hb : b < w.heap.size) (hF : ¬ F b) : w'.cell? ⟨b, j, none⟩ = w.cell? ⟨b, j, none⟩ := by
  simp [World.cell?, h.block b hb hF]

/-- How an element lies in cells. -/
structure Enc (α : Type) where
  c : α → List Value
  n : Nat
  len : ∀ x, (c x).length = n
  one : ∀ x, ∀ u ∈ c x, u.oneCell' = true
def Enc.cs {α : Type} (E : Enc α) (L : List α) : List Value := L.flatMap E.c
section
variable {α : Type} {E : Enc α}
theorem Enc.cs_nil : E.cs [] = [] := rfl
theorem Enc.cs_cons (v : α) (L : List α) : E.cs (v :: L) = E.c v ++ E.cs L := rfl
theorem Enc.cs_append (L M : List α) : E.cs (L ++ M) = E.cs L ++ E.cs M := by simp [Enc.cs]
theorem Enc.cs_one1 (v : α) : E.cs [v] = E.c v := by simp [Enc.cs]
theorem Enc.cs_length : ∀ (L : List α), (E.cs L).length = L.length * E.n
  | [] => by simp [Enc.cs]
  | v :: L => by rw [Enc.cs_cons, List.length_append, E.len, Enc.cs_length L, List.length_cons, Nat.add_mul]; omega
theorem Enc.cs_one (L : List α) : ∀ u ∈ E.cs L, u.oneCell' = true := by
  intro u hu
  obtain ⟨v, _, h⟩ := List.mem_flatMap.1 hu
  exact E.one v u h
theorem Enc.cs_take : ∀ (L : List α) (k : Nat), E.cs (L.take k) = (E.cs L).take (k * E.n)
  | [], k => by simp [Enc.cs]
  | v :: L, 0 => by simp [Enc.cs]
  | v :: L, k + 1 => by
    rw [List.take_succ_cons, Enc.cs_cons, Enc.cs_cons, Enc.cs_take L k, List.take_append, E.len, List.take_of_length_le (l := E.c v) (by rw [E.len, Nat.add_mul]; omega)]
    congr 2
    rw [Nat.add_mul]
    omega
theorem Enc.cs_drop : ∀ (L : List α) (k : Nat), E.cs (L.drop k) = (E.cs L).drop (k * E.n)
  | [], k => by simp [Enc.cs]
  | v :: L, 0 => by simp [Enc.cs]
  | v :: L, k + 1 => by
    rw [List.drop_succ_cons, Enc.cs_cons, Enc.cs_drop L k, List.drop_append, E.len, List.drop_of_length_le (l := E.c v) (by rw [E.len, Nat.add_mul]; omega), List.nil_append]
    congr 1
    rw [Nat.add_mul]
    omega
theorem Enc.cs_get {L : List α} {j : Nat} (h : j < L.length) {i : Nat} {u : Value} (hi : (E.c L[j])[i]? = some u) : (E.cs L)[j * E.n + i]? = some u := by
  have e : E.cs L = E.cs (L.take j) ++ (E.c L[j] ++ E.cs (L.drop (j + 1))) := by
    rw [← Enc.cs_cons, ← Enc.cs_append, ← List.drop_eq_getElem_cons h, List.take_append_drop]
  have hlt := (List.getElem?_eq_some_iff.1 hi).1
  have hl : (E.cs (L.take j)).length = j * E.n := by rw [Enc.cs_length, List.length_take]; congr 1; omega
  rw [e, List.getElem?_append_right (by omega), hl, Nat.add_sub_cancel_left, List.getElem?_append_left hlt]
  exact hi
/-- The slice value v reads as the elements L. -/
def RdG (E : Enc α) (w : World) (v : Value) (L : List α) : Prop :=
  ∃ a cap, v = .slice a L.length cap ∧ L.length ≤ cap ∧ cap ≤ maxLen ∧ (a = none → cap = 0) ∧
    (0 < L.length → ∃ b off, a = some ⟨b, off, none⟩ ∧ b < w.heap.size ∧ ∀ j u, (E.cs L)[j]? = some u → w.cell? ⟨b, off + j, none⟩ = some u)
theorem RdG_nil (w : World) : RdG E w (.slice none 0 0) [] := ⟨none, 0, rfl, by simp, by simp, fun _ => rfl, fun h => by simp at h⟩
theorem RdG.chg {w w' : World} {v : Value} {L : List α} {F : Nat → Prop} (h : RdG E w v L) (hc : Chg F w w') (hF : ∀ b, InB v b → ¬ F b) : RdG E w' v L := by
  obtain ⟨a, cap, rfl, h1, h2, h3, h4⟩ := h
  refine ⟨a, cap, rfl, h1, h2, h3, fun hl => ?_⟩
  obtain ⟨b, off, rfl, hlt, hcell⟩ := h4 hl
  refine ⟨b, off, rfl, Nat.lt_of_lt_of_le hlt hc.size, fun j u hj => ?_⟩
  rw [← hcell j u hj]
  simp only [World.cell?]
  rw [hc.block b hlt (hF b ⟨off, _, _, rfl, hl⟩)]
theorem RdG.kept {w w' : World} {v : Value} {L : List α} (h : RdG E w v L) (hb : Below w.heap.size w w') : RdG E w' v L :=
  h.chg (F := fun _ => False) (Chg.of_below hb) (fun _ _ => id)
theorem RdG.slice {w : World} {v : Value} {L : List α} (h : RdG E w v L) : ∃ a cap, v = .slice a L.length cap := by
  obtain ⟨a, cap, rfl, -⟩ := h
  exact ⟨a, cap, rfl⟩
theorem RdG.inB_lt {w : World} {v : Value} {L : List α} (h : RdG E w v L) {b : Nat} (hb : InB v b) : b < w.heap.size := by
  obtain ⟨a, cap, rfl, h1, h2, h3, h4⟩ := h
  obtain ⟨off, n, cap', e, hn⟩ := hb
  simp only [Value.slice.injEq] at e
  obtain ⟨rfl, rfl, rfl⟩ := e
  obtain ⟨b', off', e, hlt, _⟩ := h4 hn
  simp only [Option.some.injEq, Addr.mk.injEq, and_true] at e
  obtain ⟨rfl, rfl⟩ := e
  exact hlt
/-- Where the elements lie. -/
theorem RdG.nth {w : World} {a : Option Addr} {n cap : Nat} {L : List α} (h : RdG E w (.slice a n cap) L) (hp : 0 < n) :
    ∃ b off, a = some ⟨b, off, none⟩ ∧ b < w.heap.size ∧ ∀ j (hj : j < L.length), w.rangeAt b (off + j * E.n) (E.c L[j]) := by
  obtain ⟨a', cap', e, h1, h2, h3, h4⟩ := h
  simp only [Value.slice.injEq] at e
  obtain ⟨rfl, rfl, rfl⟩ := e
  obtain ⟨b, off, rfl, hlt, hc⟩ := h4 hp
  refine ⟨b, off, rfl, hlt, fun j hj i u hi => ?_⟩
  rw [Nat.add_assoc]
  exact hc (j * E.n + i) u (Enc.cs_get hj hi)
theorem RdG.len {w : World} {a : Option Addr} {n cap : Nat} {L : List α} (h : RdG E w (.slice a n cap) L) : L.length = n := by
  obtain ⟨a', cap', e, _⟩ := h
  simp only [Value.slice.injEq] at e
  exact e.2.1.symm
theorem RdG.cap {w : World} {a : Option Addr} {n cap : Nat} {L : List α} (h : RdG E w (.slice a n cap) L) : n ≤ cap := by
  obtain ⟨a', cap', e, h1, _⟩ := h
  simp only [Value.slice.injEq] at e
  obtain ⟨_, rfl, rfl⟩ := e
  exact h1
theorem RdG.max {w : World} {a : Option Addr} {n cap : Nat} {L : List α} (h : RdG E w (.slice a n cap) L) : cap ≤ 9223372036854775807 := by
  obtain ⟨a', cap', e, h1, h2, _⟩ := h
  simp only [Value.slice.injEq] at e
  obtain ⟨_, rfl, rfl⟩ := e
  simpa [maxLen] using h2
/-- The slice value v, of a row of elements of type e from block B on, is the call's own and holds the elements L. -/
def OwnG (E : Enc α) (w : World) (B : Nat) (e : TypeId) (v : Value) (L : List α) : Prop := w.ownsRow B e E.n v L.length (E.cs L)
theorem OwnG.rd {w : World} {B : Nat} {e : TypeId} {v : Value} {L : List α} (h : OwnG E w B e v L) : RdG E w v L := by
  have hc := h
  obtain ⟨h1, h2⟩ := h
  rcases h2 with ⟨rfl, hn⟩ | ⟨g, cap, cur, rfl, hg, hh, hnc, hcm, hcs, htk⟩
  · have : L = [] := List.eq_nil_of_length_eq_zero hn
    subst this
    exact RdG_nil w
  · refine ⟨some ⟨g, 0, none⟩, cap, rfl, hnc, hcm, fun h => by simp at h, fun _ => ⟨g, 0, rfl, ?_, fun j u hj => ?_⟩⟩
    · exact (Array.getElem?_eq_some_iff.1 hh).1
    · have := World.ownsRow.cells hc (g := g) rfl j u hj
      simpa [Addr.add_lit] using this
theorem ownG_nil (w : World) (B : Nat) (e : TypeId) : OwnG E w B e (.slice none 0 0) [] := ⟨by simp [Enc.cs], .inl ⟨rfl, rfl⟩⟩
theorem OwnG.chg {w w' : World} {B : Nat} {e : TypeId} {v : Value} {L : List α} {F : Nat → Prop} (h : OwnG E w B e v L) (hc : Chg F w w') (hF : ∀ b, v.ownBlock = some b → ¬ F b) : OwnG E w' B e v L := by
  obtain ⟨h1, h2⟩ := h
  refine ⟨h1, ?_⟩
  rcases h2 with h2 | ⟨g, cap, cur, hv, hg, hh, r⟩
  · exact Or.inl h2
  · have hlt : g < w.heap.size := (Array.getElem?_eq_some_iff.1 hh).1
    exact Or.inr ⟨g, cap, cur, hv, hg, by rw [hc.block g hlt (hF g (by rw [hv]; rfl))]; exact hh, r⟩
theorem OwnG.kept {w w' : World} {B : Nat} {e : TypeId} {v : Value} {L : List α} (h : OwnG E w B e v L) (hb : Below w.heap.size w w') : OwnG E w' B e v L :=
  h.chg (F := fun _ => False) (Chg.of_below hb) (fun _ _ => id)
theorem OwnG.mono {w : World} {B B' : Nat} {e : TypeId} {v : Value} {L : List α} (h : OwnG E w B e v L) (hB : B' ≤ B) : OwnG E w B' e v L := by
  obtain ⟨h1, h2⟩ := h
  refine ⟨h1, ?_⟩
  rcases h2 with h2 | ⟨g, cap, cur, hv, hg, r⟩
  · exact Or.inl h2
  · exact Or.inr ⟨g, cap, cur, hv, Nat.le_trans hB hg, r⟩
theorem OwnG.block {w : World} {B : Nat} {e : TypeId} {v : Value} {L : List α} (h : OwnG E w B e v L) {b : Nat} (hb : v.ownBlock = some b) : B ≤ b ∧ b < w.heap.size ∧ ∃ cur, w.heap[b]? = some (.cells cur e (0, 0)) := by
  obtain ⟨h1, h2⟩ := h
  rcases h2 with ⟨rfl, _⟩ | ⟨g, cap, cur, rfl, hg, hh, r⟩
  · cases hb
  · cases hb
    exact ⟨hg, (Array.getElem?_eq_some_iff.1 hh).1, cur, hh⟩
theorem inB_own {v : Value} {b : Nat} (h : InB v b) : v.ownBlock = some b := by
  obtain ⟨off, n, cap, rfl, _⟩ := h
  rfl
/-- The block of an owned row, cell by cell. -/
theorem OwnG.blk {w : World} {B : Nat} {e : TypeId} {v : Value} {L : List α} (h : OwnG E w B e v L) (hp : 0 < L.length) :
    ∃ g cap, ∃ cur : List Value, v = .slice (some ⟨g, 0, none⟩) L.length cap ∧ B ≤ g ∧ Blk w g e cur ∧ cur.take (L.length * E.n) = E.cs L ∧ cur.length = cap * E.n ∧ L.length ≤ cap ∧ cap ≤ maxLen := by
  obtain ⟨h1, h2⟩ := h
  rcases h2 with ⟨_, hn⟩ | ⟨g, cap, cur, rfl, hg, hh, hnc, hcm, hcs, htk⟩
  · omega
  · exact ⟨g, cap, cur.toList, rfl, hg, by simpa [Blk] using hh, htk, by simpa using hcs, hnc, hcm⟩
theorem OwnG.of_blk {w : World} {B g cap : Nat} {e : TypeId} {L : List α} {cur : List Value} (hb : Blk w g e cur) (hB : B ≤ g) (ht : cur.take (L.length * E.n) = E.cs L) (hc : cur.length = cap * E.n) (h1 : L.length ≤ cap) (h2 : cap ≤ maxLen) : OwnG E w B e (.slice (some ⟨g, 0, none⟩) L.length cap) L :=
  ⟨Enc.cs_length L, .inr ⟨g, cap, cur.toArray, rfl, hB, hb, h1, h2, by simpa using hc, by simpa using ht⟩⟩
theorem RdG.src {P : Program} {w : World} {v : Value} {L : List α} (h : RdG E w v L) (t e : TypeId) (hk : P.underlying t = some (.slice e)) : Src P E.n t v L.length (E.cs L) w := by
  obtain ⟨a, cap, rfl, h1, h2, h3, h4⟩ := h
  cases a with
  | none =>
    have := h3 rfl
    have hl : L = [] := List.eq_nil_of_length_eq_zero (by omega)
    subst hl
    exact Src.ofNil w hk cap
  | some x =>
    refine Src.ofSlice w hk x L.length cap (E.cs L) (Enc.cs_length L) (fun j u hj => ?_) (Enc.cs_one L)
    have hjl : j < (E.cs L).length := (List.getElem?_eq_some_iff.1 hj).1
    rw [Enc.cs_length] at hjl
    have hp : 0 < L.length := by
      rcases Nat.eq_zero_or_pos L.length with h0 | h0
      · rw [h0] at hjl; omega
      · exact h0
    obtain ⟨b, off, e, _, hc⟩ := h4 hp
    simp only [Option.some.injEq] at e
    subst e
    rw [Addr.add_lit]
    exact hc j u hj
/-- append of elements. -/
theorem wpList_append_G {P : Program} (w : World) {ops : Array Oper} {rest : List Oper} {o : Oper} {a : Act} {Q : Exit → Act → World → Prop} (hgd : o.guard = none) (s x : Operand) (t tx : TypeId)
    (ho : o.op = .call { callee := .builtin .append, args := #[s, x], argTypes := #[t, tx] })
    (base : Nat) (e : TypeId) (z : Value) (bytes : Nat) (ht : P.underlying t = some (.slice e)) (hi : (P.info? e).map (fun i => (i.zero, i.size, i.bytes)) = some (some z, E.n, bytes)) (hzs : z.cells.size = E.n)
    (v : Value) (L : List α) (hv : a.eval s = v) (hown : OwnG E w base e v L)
    (xv : Value) (M : List α) (hx : a.eval x = xv) (hr : RdG E w xv M) (e' : TypeId) (htx : P.underlying tx = some (.slice e'))
    (hlen : (L.length + M.length) * bytes ≤ 140737488355328) (hm : L.length + M.length ≤ maxLen) (hbase : base ≤ w.heap.size)
    (h : ∀ v' w', OwnG E w' base e v' (L ++ M) → w.grownBy w' v.ownBlock → wpList P ops Q rest (a.put o.dst v') w') : wpList P ops Q (o :: rest) a w := by
  obtain ⟨i, hi0, hz0, hz1, hz2⟩ := info_parts hi
  refine wpList_append_mine w hgd s x t tx ho base e i z E.n bytes ht hi0 hz0 hz1 hz2 hzs v L.length (E.cs L) hv hown xv M.length (E.cs M) hx (hr.src tx e' htx) hm hlen hbase ?_
  intro v' w' h1 h2
  refine h v' w' ?_ h2
  unfold OwnG
  rw [List.length_append, Enc.cs_append]
  exact h1
/-- A row of one element. -/
theorem rdG_one (w : World) (T : TypeId) (v : α) : RdG E (w.alloc (.cells (E.c v).toArray T (0, 0))) (.slice (some ⟨w.heap.size, 0, none⟩) 1 1) [v] := by
  refine ⟨some ⟨w.heap.size, 0, none⟩, 1, rfl, by simp, by simp [maxLen], fun h => by simp at h, fun _ => ⟨w.heap.size, 0, rfl, by simp, fun j u hj => ?_⟩⟩
  have := (Blk.new w T (E.c v)).cell (j := j) (v := u) (by simpa [Enc.cs] using hj)
  rwa [Nat.zero_add]
theorem ownG_one (w : World) (B : Nat) (T : TypeId) (v : α) (hB : B ≤ w.heap.size) : OwnG E (w.alloc (.cells (E.c v).toArray T (0, 0))) B T (.slice (some ⟨w.heap.size, 0, none⟩) 1 1) [v] :=
  OwnG.of_blk (L := [v]) (Blk.new w T (E.c v)) hB (by rw [Enc.cs_one1, List.take_of_length_le]; rw [E.len]; simp) (by rw [E.len]; simp) (by simp) (by simp [maxLen])
theorem ownG_none (w : World) (B : Nat) (T : TypeId) (hB : B ≤ w.heap.size) : OwnG E (w.alloc (.cells #[] T (0, 0))) B T (.slice (some ⟨w.heap.size, 0, none⟩) 0 0) [] :=
  OwnG.of_blk (L := []) (cur := []) (Blk.new w T []) hB (by simp [Enc.cs]) (by simp) (by simp) (by simp [maxLen])
/-- From place i on. -/
theorem slice_G {P : Program} {t e : TypeId} (ht : P.underlying t = some (.slice e)) (hsz : (P.info? e).map (·.size) = some E.n) (a : Option Addr) (n cap i : Nat) (hi : i ≤ n) (hn : n ≤ cap) :
    ∃ a', (∀ W, (Instr.sliceAt t (.slice a n cap) (some (.int .i64 (i : Int))) none none).run P W = .ok (.slice a' (n - i) (cap - i)) W) ∧ (a' = if cap = i then a else a.map (·.add (i * E.n))) ∧
      (∀ w (L : List α), RdG E w (.slice a n cap) L → RdG E w (.slice a' (n - i) (cap - i)) (L.drop i)) := by
  have e1 : (i : Int) ≤ (n : Int) := by omega
  refine ⟨if cap = i then a else a.map (·.add (i * E.n)), fun W => ?_, rfl, fun w L hr => ?_⟩
  · cases hq : P.info? e with
    | none => simp [hq] at hsz
    | some k =>
      have hk : k.size = E.n := by simpa [hq] using hsz
      simp [Instr.sliceAt, Instr.slice, run_underlying ht, Instr.sliceBounds, run_sliceBound, e1, sizeOf, typeInfo, hq, hk]
  · obtain ⟨a0, cap0, e, h1, h2, h3, h4⟩ := hr
    simp only [Value.slice.injEq] at e
    obtain ⟨rfl, rfl, rfl⟩ := e
    refine ⟨if cap = i then a else a.map (·.add (i * E.n)), cap - i, by simp, by simp; omega, by omega, fun h => ?_, fun hp => ?_⟩
    · by_cases hcc : cap = i
      · omega
      · rw [if_neg hcc] at h
        have := h3 (by simpa using h)
        omega
    · simp at hp
      obtain ⟨b, off, rfl, hlt, hcell⟩ := h4 (by omega)
      rw [if_neg (by omega)]
      refine ⟨b, off + i * E.n, by simp [Addr.add_mid], hlt, fun j u hj => ?_⟩
      rw [Nat.add_assoc]
      refine hcell (i * E.n + j) u ?_
      rw [← hj, Enc.cs_drop, List.getElem?_drop]
/-- Up to place j. -/
theorem slice_G_to {P : Program} {t e : TypeId} (ht : P.underlying t = some (.slice e)) (hsz : (P.info? e).map (·.size) = some E.n) (a : Option Addr) (n cap j : Nat) (hj : j ≤ n) (hn : n ≤ cap) :
    (∀ W, (Instr.sliceAt t (.slice a n cap) none (some (.int .i64 (j : Int))) none).run P W = .ok (.slice a j cap) W) ∧
      (∀ w (L : List α), RdG E w (.slice a n cap) L → RdG E w (.slice a j cap) (L.take j)) := by
  have e2 : (j : Int) ≤ (cap : Int) := by omega
  refine ⟨fun W => ?_, fun w L hr => ?_⟩
  · cases hq : P.info? e with
    | none => simp [hq] at hsz
    | some k =>
      cases a <;> simp [Instr.sliceAt, Instr.slice, run_underlying ht, Instr.sliceBounds, run_sliceBound, e2, sizeOf, typeInfo, hq, Addr.add]
  · obtain ⟨a0, cap0, e, h1, h2, h3, h4⟩ := hr
    simp only [Value.slice.injEq] at e
    obtain ⟨rfl, rfl, rfl⟩ := e
    refine ⟨a, cap, by rw [List.length_take]; congr 1; omega, by rw [List.length_take]; omega, h2, h3, fun hp => ?_⟩
    rw [List.length_take] at hp
    obtain ⟨b, off, rfl, hlt, hcell⟩ := h4 (by omega)
    refine ⟨b, off, rfl, hlt, fun k u hk => hcell k u ?_⟩
    rw [Enc.cs_take] at hk
    have : k < j * E.n := by have := (List.getElem?_eq_some_iff.1 hk).1; rw [List.length_take] at this; omega
    rwa [List.getElem?_take_of_lt this] at hk
end
end Go.Proofs.YtooffljimdklfaaDoor

/-
  Hashes as values and in memory: laws for them.
-/
namespace Go.Proofs.YtooffljimdklfaaDoor
open Go.RowKit

/-- A hash. -/
abbrev Hs := {l : List UInt8 // l.length = 32}
/-- Hashes as cells. -/
def HE : Enc Hs := ⟨fun x => By x.1, 32, fun x => by rw [By_length]; exact x.2, fun x => By_one x.1⟩
/-- A hash as a value. -/
def HV (x : Hs) : Value := .agg (By x.1).toArray
def zh : Hs := ⟨List.replicate 32 0, by simp⟩
theorem By_len (x : Hs) : (By x.1).length = 32 := by rw [By_length]; exact x.2
theorem Tryd.sizeH (x : Hs) : (Tryd.prog.info? 24).map (·.size) = some (By x.1).length := by rw [By_len]; exact Tryd.size24
theorem HV_inj {x y : Hs} : (x.1 == y.1) = decide (x = y) := by
  rw [Bool.eq_iff_iff]
  simp [Subtype.ext_iff]
theorem eqA (x y : Hs) (W : World) : (Op.equalIn 10000 24 (.agg (By x.1).toArray) (.agg (By y.1).toArray)).run Tryd.prog W = .ok (decide (x = y)) W := by
  rw [← HV_inj]
  exact eq24 x.1 y.1 x.2 y.2 W
/-- Two hashes held against each other. -/
theorem eqH (x y : Hs) (W : World) : (Op.equalIn 10000 24 (HV x) (HV y)).run Tryd.prog W = .ok (decide (x = y)) W := by
  rw [← HV_inj]
  exact eq24 x.1 y.1 x.2 y.2 W
/-- A whole array or struct over a block. -/
theorem wpList_store_blk {P : Program} {w : World} {ops : Array Oper} {rest : List Oper} {op : Oper} {a : Act} {Q : Exit → Act → World → Prop} (hgd : op.guard = none) (ty : TypeId) (x y : Operand) (ho : op.op = .store ty x y)
    (b : Nat) (cs ds : List Value) (T : TypeId) (hx : a.eval x = .pointer (some ⟨b, 0, none⟩)) (hy : a.eval y = .agg ds.toArray) (hB : Blk w b T cs) (hl : ds.length = cs.length)
    (hi : (P.info? ty).map (·.size) = some ds.length) (h1 : ∀ u ∈ ds, u.oneCell' = true)
    (h : ∀ w', Blk w' b T ds → But b w w' → wpList P ops Q rest (a.put op.dst undef) w') : wpList P ops Q (op :: rest) a w := by
  have t0 := hB.there 0 ds.length (by omega)
  refine wpList_store_mid hgd ty x y ho b 0 ds.toArray hx hy (by simpa using t0) (by simpa using hi) (all_one h1) ?_
  refine h _ ?_ (But.setCells b _ 0 w)
  have := Blk.over ds hB 0 (by omega)
  rwa [over_all _ _ hl.symm] at this
theorem wp_store_blk {P : Program} {w : World} {op : Oper} {a : Act} {K : Act → World → Prop} {Q : Exit → Act → World → Prop} (ty : TypeId) (x y : Operand) (ho : op.op = .store ty x y)
    (b : Nat) (cs ds : List Value) (T : TypeId) (hx : a.eval x = .pointer (some ⟨b, 0, none⟩)) (hy : a.eval y = .agg ds.toArray) (hB : Blk w b T cs) (hl : ds.length = cs.length)
    (hi : (P.info? ty).map (·.size) = some ds.length) (h1 : ∀ u ∈ ds, u.oneCell' = true)
    (h : ∀ w', Blk w' b T ds → But b w w' → K (a.put op.dst undef) w') : op.wp P a w K Q := by
  have t0 := hB.there 0 ds.length (by omega)
  refine wp_store_mid ty x y ho b 0 ds.toArray hx hy (by simpa using t0) (by simpa using hi) (all_one h1) ?_
  refine h _ ?_ (But.setCells b _ 0 w)
  have := Blk.over ds hB 0 (by omega)
  rwa [over_all _ _ hl.symm] at this
/-- A hash that a variable holds is what the call returns. -/
theorem ret_hash {fn : Func} {p : Tmp} (h : fn.results = #[.cell p 24]) (tmps : Array Value) (w : World) (g : Nat) (x : Hs) (hp : tmps.getD p undef = .pointer (some ⟨g, 0, none⟩)) (hB : Blk w g 24 (By x.1)) :
    (results fn tmps).run Tryd.prog w = .ok (HV x) w :=
  results_cell_row h _ _ g 24 _ (0, 0) _ hp hB Tryd.underlying24 rfl (by simpa using Tryd.sizeH x)
/-- Room for a hash, and what was there. -/
theorem room_hash {w w0 : World} {N : Nat} (HN : Hid (w.heap.size = N)) (hw : w0 = w.alloc (.cells (By (List.replicate 32 0)).toArray 24 (0, 0))) :
    Blk w0 N 24 (By zh.1) ∧ Below N w w0 ∧ w0.heap.size = N + 1 := by
  subst hw
  refine ⟨by rw [← HN.out]; exact Blk.new w 24 (By (List.replicate 32 0)), (Below.refl _ _).alloc (by rw [HN.out]; exact Nat.le_refl _) _, by simp [HN.out]⟩
theorem RdG.cap' {α : Type} {E : Enc α} {w : World} {v : Value} {L : List α} (h : RdG E w v L) : L.length ≤ 9223372036854775807 := by
  obtain ⟨a, cap, rfl, h1, h2, -⟩ := h
  unfold maxLen at h2
  omega
/-- The hashes of items, forks and nothing. -/
def itH (k v : Hs) : Hs := ⟨tg 3 [k.1, v.1], tg_length _ _⟩
def fkH (i : Nat) (x y : Hs) : Hs := ⟨tg 4 [[UInt8.ofNat (((i : Int)) % 256).toNat], x.1, y.1], tg_length _ _⟩
def ntH : Hs := ⟨tg 5 [], tg_length _ _⟩
theorem hitem_any (x y : Hs) (w : World) (hT : Tabs w) : Calls Tryd.prog 52 #[HV x, HV y] w fun e w' => e = .returned (HV (itH x y)) ∧ Below w.heap.size w w' := item_any x.1 y.1 x.2 y.2 w hT
theorem ritem_any (x y : Hs) (w : World) : Calls Tryd.prog 39 #[HV x, HV y] w fun e w' => e = .returned (HV (itH x y)) ∧ Below w.heap.size w w' := refItem_any x.1 y.1 x.2 y.2 w
theorem hfork_any (i : Nat) (x y : Hs) (w : World) (hT : Tabs w) : Calls Tryd.prog 54 #[.int .i64 i, HV x, HV y] w fun e w' => e = .returned (HV (fkH i x y)) ∧ Below w.heap.size w w' := fork_any i x.1 y.1 x.2 y.2 w hT
theorem rfork_any (i : Nat) (x y : Hs) (w : World) : Calls Tryd.prog 40 #[.int .i64 i, HV x, HV y] w fun e w' => e = .returned (HV (fkH i x y)) ∧ Below w.heap.size w w' := refFork_any i x.1 y.1 x.2 y.2 w
theorem hnothing_any (w : World) (hT : Tabs w) : Calls Tryd.prog 42 #[] w fun e w' => e = .returned (HV ntH) ∧ Below w.heap.size w w' := nothing_any w hT
theorem rnothing_any (w : World) : Calls Tryd.prog 26 #[] w fun e w' => e = .returned (HV ntH) ∧ Below w.heap.size w w' := refNothing_any w
#print axioms wpList_store_blk
end Go.Proofs.YtooffljimdklfaaDoor

/-
  The map, plain: bits of keys, where two part, the order of keys; what is put, dropped and got; forks; the root.
-/
namespace Go.Proofs.YtooffljimdklfaaDoor

/-- A key and its value. -/
abbrev It := Hs × Hs
/-- Bit i of a key, from the greatest of its first byte on. -/
def bit (k : Hs) (i : Nat) : Bool := (k.1[i / 8]?.getD 0).toNat.testBit (7 - i % 8)
theorem bit_none {k : Hs} {i : Nat} (h : 256 ≤ i) : bit k i = false := by
  have : k.1[i / 8]? = none := by rw [List.getElem?_eq_none_iff, k.2]; omega
  simp [bit, this]
theorem bit_ext {a b : Hs} (h : ∀ i, i < 256 → bit a i = bit b i) : a = b := by
  apply Subtype.ext
  refine List.ext_getElem (a.2.trans b.2.symm) (fun q h1 h2 => ?_)
  have ha := a.2
  apply UInt8.toNat_inj.1
  refine Nat.eq_of_testBit_eq (fun t => ?_)
  by_cases ht : t < 8
  · have := h (8 * q + (7 - t)) (by omega)
    unfold bit at this
    have e1 : (8 * q + (7 - t)) / 8 = q := by omega
    have e2 : 7 - (8 * q + (7 - t)) % 8 = t := by omega
    rw [e1, e2, List.getElem?_eq_getElem h1, List.getElem?_eq_getElem h2] at this
    exact this
  · rw [Nat.testBit_lt_two_pow (Nat.lt_of_lt_of_le a.1[q].toNat_lt (by exact Nat.pow_le_pow_right (n := 2) (by decide) (show 8 ≤ t by omega))),
      Nat.testBit_lt_two_pow (Nat.lt_of_lt_of_le b.1[q].toNat_lt (by exact Nat.pow_le_pow_right (n := 2) (by decide) (show 8 ≤ t by omega)))]
def apartF (a b : Hs) : Nat → Nat → Nat
  | 0, i => i
  | n + 1, i => if bit a i = bit b i then apartF a b n (i + 1) else i
theorem apartF_spec (a b : Hs) : ∀ (n i : Nat), i ≤ apartF a b n i ∧ apartF a b n i ≤ i + n ∧ (∀ j, i ≤ j → j < apartF a b n i → bit a j = bit b j) ∧ (apartF a b n i < i + n → bit a (apartF a b n i) ≠ bit b (apartF a b n i))
  | 0, i => ⟨Nat.le_refl _, Nat.le_refl _, fun j h1 h2 => by simp only [apartF] at h2; omega, fun h => by simp [apartF] at h⟩
  | n + 1, i => by
    unfold apartF
    by_cases h : bit a i = bit b i
    · rw [if_pos h]
      obtain ⟨h1, h2, h3, h4⟩ := apartF_spec a b n (i + 1)
      refine ⟨by omega, by omega, fun j hj1 hj2 => ?_, fun hl => h4 (by omega)⟩
      by_cases hj : j = i
      · rw [hj]; exact h
      · exact h3 j (by omega) hj2
    · rw [if_neg h]
      exact ⟨Nat.le_refl _, by omega, fun j h1 h2 => by omega, fun _ => h⟩
/-- The first bit in which two keys differ; 256, where there is none. -/
def apart (a b : Hs) : Nat := apartF a b 256 0
theorem apart_le (a b : Hs) : apart a b ≤ 256 := by have := (apartF_spec a b 256 0).2.1; unfold apart; omega
theorem apart_eq {a b : Hs} {j : Nat} (h : j < apart a b) : bit a j = bit b j := (apartF_spec a b 256 0).2.2.1 j (Nat.zero_le _) h
theorem apart_ne {a b : Hs} (h : apart a b < 256) : bit a (apart a b) ≠ bit b (apart a b) := (apartF_spec a b 256 0).2.2.2 (by unfold apart at h; omega)
theorem apart_uniq {a b : Hs} {j : Nat} (h1 : j ≤ 256) (h2 : ∀ i, i < j → bit a i = bit b i) (h3 : j < 256 → bit a j ≠ bit b j) : apart a b = j := by
  rcases Nat.lt_trichotomy (apart a b) j with h | h | h
  · exact absurd (h2 _ h) (apart_ne (by omega))
  · exact h
  · exact absurd (apart_eq h) (h3 (by have := apart_le a b; omega))
theorem apart_all {a b : Hs} : apart a b = 256 ↔ a = b := by
  constructor
  · intro h
    exact bit_ext fun i hi => apart_eq (by omega)
  · rintro rfl
    exact apart_uniq (Nat.le_refl _) (fun _ _ => rfl) (fun h => absurd h (by omega))
theorem apart_comm (a b : Hs) : apart a b = apart b a := apart_uniq (apart_le _ _) (fun _ h => (apart_eq h).symm) (fun h => (apart_ne h).symm)
/-- Are a's bits ahead of b's? -/
def lss (a b : Hs) : Bool := decide (apart a b < 256) && !(bit a (apart a b))
theorem lss_iff {a b : Hs} : lss a b = true ↔ ∃ i, i < 256 ∧ (∀ j, j < i → bit a j = bit b j) ∧ bit a i = false ∧ bit b i = true := by
  unfold lss
  rw [Bool.and_eq_true, decide_eq_true_eq]
  constructor
  · rintro ⟨h1, h2⟩
    refine ⟨apart a b, h1, fun j hj => apart_eq hj, by simpa using h2, ?_⟩
    have := apart_ne h1
    cases hb : bit b (apart a b) with
    | true => rfl
    | false => simp [hb] at this; simp [this] at h2
  · rintro ⟨i, h1, h2, h3, h4⟩
    have : apart a b = i := apart_uniq (by omega) h2 (fun _ => by rw [h3, h4]; decide)
    rw [this]
    exact ⟨h1, by simp [h3]⟩
theorem lss_irrefl (a : Hs) : lss a a = false := by
  cases h : lss a a with
  | false => rfl
  | true =>
    obtain ⟨i, _, _, h1, h2⟩ := lss_iff.1 h
    rw [h1] at h2
    cases h2
theorem lss_ne {a b : Hs} (h : lss a b = true) : a ≠ b := fun e => by rw [e, lss_irrefl] at h; cases h
theorem lss_trans {a b c : Hs} (h1 : lss a b = true) (h2 : lss b c = true) : lss a c = true := by
  obtain ⟨i, a1, a2, a3, a4⟩ := lss_iff.1 h1
  obtain ⟨j, b1, b2, b3, b4⟩ := lss_iff.1 h2
  rw [lss_iff]
  rcases Nat.lt_trichotomy i j with h | h | h
  · exact ⟨i, a1, fun q hq => (a2 q hq).trans (b2 q (by omega)), a3, by rw [← b2 i h]; exact a4⟩
  · subst h
    rw [a4] at b3
    cases b3
  · exact ⟨j, b1, fun q hq => (a2 q (by omega)).trans (b2 q hq), by rw [a2 j h]; exact b3, b4⟩
theorem lss_asymm {a b : Hs} (h : lss a b = true) : lss b a = false := by
  cases h2 : lss b a with
  | false => rfl
  | true =>
    have := lss_trans h h2
    rw [lss_irrefl] at this
    cases this
theorem lss_total {a b : Hs} (h : a ≠ b) : lss a b = true ∨ lss b a = true := by
  have hl : apart a b < 256 := by
    rcases Nat.lt_or_ge (apart a b) 256 with h1 | h1
    · exact h1
    · exact absurd (apart_all.1 (by have := apart_le a b; omega)) h
  have hn := apart_ne hl
  cases ha : bit a (apart a b) with
  | false => left; rw [lss_iff]; exact ⟨_, hl, fun j hj => apart_eq hj, ha, by cases hb : bit b (apart a b) <;> simp [ha, hb] at hn ⊢⟩
  | true => right; rw [lss_iff]; exact ⟨_, hl, fun j hj => (apart_eq hj).symm, by cases hb : bit b (apart a b) <;> simp [ha, hb] at hn ⊢, ha⟩
theorem lss_not {a b : Hs} (h : lss a b = false) (hn : a ≠ b) : lss b a = true := by
  rcases lss_total hn with h1 | h1
  · rw [h] at h1; cases h1
  · exact h1
/-- The keys rise. -/
def Srt (L : List It) : Prop := L.Pairwise fun x y => lss x.1 y.1 = true
theorem Srt_nil : Srt [] := List.Pairwise.nil
theorem Srt_one (x : It) : Srt [x] := List.pairwise_singleton _ _
theorem Srt.cons {x : It} {L : List It} (h : Srt L) (hx : ∀ y ∈ L, lss x.1 y.1 = true) : Srt (x :: L) := List.Pairwise.cons hx h
theorem Srt.tail {x : It} {L : List It} (h : Srt (x :: L)) : Srt L := (List.pairwise_cons.1 h).2
theorem Srt.head {x : It} {L : List It} (h : Srt (x :: L)) : ∀ y ∈ L, lss x.1 y.1 = true := (List.pairwise_cons.1 h).1
theorem Srt.append {A B : List It} (hA : Srt A) (hB : Srt B) (h : ∀ a ∈ A, ∀ b ∈ B, lss a.1 b.1 = true) : Srt (A ++ B) := List.pairwise_append.2 ⟨hA, hB, h⟩
theorem Srt.sub {A B : List It} (h : Srt B) (hs : A.Sublist B) : Srt A := List.Pairwise.sublist hs h
def putP : List It → Hs → Hs → List It
  | [], k, v => [(k, v)]
  | x :: m, k, v => if lss x.1 k then x :: putP m k v else (k, v) :: (x :: m).filter (fun y => decide (y.1 ≠ k))
def dropP (m : List It) (k : Hs) : List It := m.filter (fun y => decide (y.1 ≠ k))
def getP : List It → Hs → Option Hs
  | [], _ => none
  | x :: m, k => if x.1 = k then some x.2 else getP m k
def hasP (m : List It) (k : Hs) : Bool := (getP m k).isSome
def valP (m : List It) (k : Hs) : Hs := (getP m k).getD zh
theorem filter_none {m : List It} {k : Hs} (h : ∀ y ∈ m, y.1 ≠ k) : m.filter (fun y => decide (y.1 ≠ k)) = m := List.filter_eq_self.2 fun y hy => by simpa using h y hy
theorem getP_none {m : List It} {k : Hs} (h : ∀ y ∈ m, y.1 ≠ k) : getP m k = none := by
  induction m with
  | nil => rfl
  | cons x m ih =>
    unfold getP
    rw [if_neg (h x (by simp)), ih (fun y hy => h y (by simp [hy]))]
theorem getP_append (A B : List It) (k : Hs) : getP (A ++ B) k = (getP A k).or (getP B k) := by
  induction A with
  | nil => simp [getP]
  | cons x A ih =>
    simp only [List.cons_append, getP]
    by_cases h : x.1 = k
    · simp [h]
    · simp [h, ih]
theorem getP_mem {m : List It} {k v : Hs} (h : getP m k = some v) : (k, v) ∈ m := by
  induction m with
  | nil => cases h
  | cons x m ih =>
    unfold getP at h
    by_cases hx : x.1 = k
    · rw [if_pos hx] at h
      simp only [Option.some.injEq] at h
      subst hx
      subst h
      simp
    · rw [if_neg hx] at h
      exact List.mem_cons_of_mem _ (ih h)
theorem getP_of_mem {m : List It} (hs : Srt m) {k v : Hs} (h : (k, v) ∈ m) : getP m k = some v := by
  induction m with
  | nil => cases h
  | cons x m ih =>
    unfold getP
    rcases List.mem_cons.1 h with h | h
    · subst h; simp
    · rw [if_neg (fun e => lss_ne (hs.head _ h) e)]
      exact ih hs.tail h
theorem getP_drop (m : List It) (k q : Hs) : getP (dropP m k) q = if q = k then none else getP m q := by
  induction m with
  | nil => simp [dropP, getP]
  | cons x m ih =>
    unfold dropP at ih ⊢
    by_cases hx : x.1 = k
    · rw [List.filter_cons_of_neg (by simpa using hx), ih]
      by_cases hq : q = k
      · simp [hq]
      · simp only [hq, if_false, getP]
        rw [if_neg (fun e => hq (by rw [← e, hx]))]
    · rw [List.filter_cons_of_pos (by simpa using hx)]
      simp only [getP, ih]
      by_cases h1 : x.1 = q
      · subst h1; simp [hx]
      · simp [h1]
theorem getP_put (m : List It) (k v q : Hs) : getP (putP m k v) q = if q = k then some v else getP m q := by
  induction m with
  | nil =>
    simp only [putP, getP]
    by_cases h : q = k
    · simp [h]
    · rw [if_neg (fun e => h e.symm), if_neg h]
  | cons x m ih =>
    unfold putP
    by_cases hl : lss x.1 k = true
    · rw [if_pos hl]
      simp only [getP, ih]
      by_cases h1 : x.1 = q
      · subst h1; simp [lss_ne hl]
      · simp [h1]
    · rw [if_neg hl]
      have := getP_drop (x :: m) k q
      unfold dropP at this
      simp only [getP] at this ⊢
      rw [this]
      by_cases h : q = k
      · simp [h]
      · rw [if_neg (fun e => h e.symm), if_neg h, if_neg h]
theorem putP_mem {m : List It} {k v : Hs} {y : It} (h : y ∈ putP m k v) : y = (k, v) ∨ y ∈ m := by
  induction m with
  | nil => simpa [putP] using h
  | cons x m ih =>
    unfold putP at h
    by_cases hl : lss x.1 k = true
    · rw [if_pos hl] at h
      rcases List.mem_cons.1 h with h | h
      · exact .inr (by simp [h])
      · rcases ih h with h | h
        · exact .inl h
        · exact .inr (List.mem_cons_of_mem _ h)
    · rw [if_neg hl] at h
      rcases List.mem_cons.1 h with h | h
      · exact .inl h
      · exact .inr ((List.mem_filter.1 h).1)
theorem Srt.drop {m : List It} (h : Srt m) (k : Hs) : Srt (dropP m k) := h.sub List.filter_sublist
theorem Srt.put {m : List It} (h : Srt m) (k v : Hs) : Srt (putP m k v) := by
  induction m with
  | nil => exact Srt_one _
  | cons x m ih =>
    unfold putP
    by_cases hl : lss x.1 k = true
    · rw [if_pos hl]
      refine (ih h.tail).cons (fun y hy => ?_)
      rcases putP_mem hy with rfl | hy
      · exact hl
      · exact h.head y hy
    · rw [if_neg hl]
      refine (h.drop k).cons (fun y hy => ?_)
      have hy1 := (List.mem_filter.1 hy).1
      have hy2 : y.1 ≠ k := by simpa using (List.mem_filter.1 hy).2
      have hlf : lss x.1 k = false := by simpa using hl
      rcases List.mem_cons.1 hy1 with rfl | hy1
      · exact lss_not hlf hy2
      · by_cases hx : x.1 = k
        · rw [← hx]; exact h.head y hy1
        · exact lss_trans (lss_not hlf hx) (h.head y hy1)
/-- Maps that tell the same are the same. -/
theorem Srt.ext {L M : List It} (hL : Srt L) (hM : Srt M) (h : ∀ k, getP L k = getP M k) : L = M := by
  induction L generalizing M with
  | nil =>
    cases M with
    | nil => rfl
    | cons y M =>
      have := h y.1
      simp [getP] at this
  | cons x L ih =>
    cases M with
    | nil =>
      have := h x.1
      simp [getP] at this
    | cons y M =>
      have hx := getP_mem (m := y :: M) (k := x.1) (v := x.2) (by rw [← h]; simp [getP])
      have hy := getP_mem (m := x :: L) (k := y.1) (v := y.2) (by rw [h]; simp [getP])
      have e : x = y := by
        rcases List.mem_cons.1 hx with e | hx
        · exact e
        · rcases List.mem_cons.1 hy with e | hy
          · exact e.symm
          · have h1 := hM.head _ hx
            have h2 := hL.head _ hy
            have := lss_asymm h1
            simp only at h1 h2 this
            rw [h2] at this
            cases this
      subst e
      congr 1
      refine ih hL.tail hM.tail (fun k => ?_)
      by_cases hk : k = x.1
      · subst hk
        rw [getP_none (fun y hy => (lss_ne (hL.head y hy)).symm), getP_none (fun y hy => (lss_ne (hM.head y hy)).symm)]
      · have := h k
        simp only [getP] at this
        rwa [if_neg (fun e => hk e.symm), if_neg (fun e => hk e.symm)] at this
theorem putP_first {m : List It} {k v : Hs} (h : ∀ y ∈ m, lss k y.1 = true) : putP m k v = (k, v) :: m := by
  cases m with
  | nil => rfl
  | cons x m =>
    unfold putP
    rw [if_neg (by rw [lss_asymm (h x (by simp))]; decide), filter_none (fun y hy => (lss_ne (h y hy)).symm)]
theorem putP_last {m : List It} {k v : Hs} (h : ∀ y ∈ m, lss y.1 k = true) : putP m k v = m ++ [(k, v)] := by
  induction m with
  | nil => rfl
  | cons x m ih =>
    unfold putP
    rw [if_pos (h x (by simp)), ih (fun y hy => h y (by simp [hy]))]
    rfl
theorem putP_left {A B : List It} {k v : Hs} (h : ∀ y ∈ B, lss k y.1 = true) : putP (A ++ B) k v = putP A k v ++ B := by
  induction A with
  | nil => rw [List.nil_append, putP_first h]; rfl
  | cons x A ih =>
    simp only [List.cons_append, putP]
    by_cases hl : lss x.1 k = true
    · rw [if_pos hl, if_pos hl, ih, List.cons_append]
    · rw [if_neg hl, if_neg hl, ← List.cons_append, List.filter_append, filter_none (m := B) (fun y hy => (lss_ne (h y hy)).symm), List.cons_append]
theorem putP_right {A B : List It} {k v : Hs} (h : ∀ y ∈ A, lss y.1 k = true) : putP (A ++ B) k v = A ++ putP B k v := by
  induction A with
  | nil => rfl
  | cons x A ih =>
    simp only [List.cons_append, putP]
    rw [if_pos (h x (by simp)), ih (fun y hy => h y (by simp [hy]))]
theorem putP_ne {m : List It} {k v : Hs} : putP m k v ≠ [] := by
  cases m with
  | nil => simp [putP]
  | cons x m => unfold putP; split <;> simp
theorem dropP_append (A B : List It) (k : Hs) : dropP (A ++ B) k = dropP A k ++ dropP B k := List.filter_append ..
theorem dropP_none {m : List It} {k : Hs} (h : ∀ y ∈ m, y.1 ≠ k) : dropP m k = m := filter_none h
theorem dropP_mem {m : List It} {k : Hs} {y : It} (h : y ∈ dropP m k) : y ∈ m := (List.mem_filter.1 h).1
theorem hasP_iff {m : List It} {k : Hs} : hasP m k = true ↔ ∃ y ∈ m, y.1 = k := by
  unfold hasP
  constructor
  · intro h
    obtain ⟨v, hv⟩ := Option.isSome_iff_exists.1 h
    exact ⟨_, getP_mem hv, rfl⟩
  · rintro ⟨y, hy, rfl⟩
    cases h : getP m y.1 with
    | some v => rfl
    | none =>
      exfalso
      induction m with
      | nil => cases hy
      | cons x m ih =>
        unfold getP at h
        by_cases hx : x.1 = y.1
        · rw [if_pos hx] at h; cases h
        · rw [if_neg hx] at h
          rcases List.mem_cons.1 hy with rfl | hy
          · exact hx rfl
          · exact ih hy h
theorem dropP_length {m : List It} (hs : Srt m) (k : Hs) : (dropP m k).length + (if hasP m k then 1 else 0) = m.length := by
  induction m with
  | nil => simp [dropP, hasP, getP]
  | cons x m ih =>
    have := ih hs.tail
    by_cases hx : x.1 = k
    · have hn : ∀ y ∈ m, y.1 ≠ k := fun y hy e => lss_ne (hs.head y hy) (by rw [hx, e])
      have e1 : dropP (x :: m) k = m := by unfold dropP; rw [List.filter_cons_of_neg (by simpa using hx), filter_none hn]
      have e2 : hasP (x :: m) k = true := by simp [hasP, getP, hx]
      rw [e1, e2]
      simp
    · have e1 : dropP (x :: m) k = x :: dropP m k := by unfold dropP; rw [List.filter_cons_of_pos (by simpa using hx)]
      have e2 : hasP (x :: m) k = hasP m k := by simp [hasP, getP, hx]
      rw [e1, e2, List.length_cons, List.length_cons]
      omega
theorem putP_length {m : List It} (hs : Srt m) (k v : Hs) : (putP m k v).length = m.length + (if hasP m k then 0 else 1) := by
  induction m with
  | nil => simp [putP, hasP, getP]
  | cons x m ih =>
    have := ih hs.tail
    unfold putP
    by_cases hl : lss x.1 k = true
    · have e2 : hasP (x :: m) k = hasP m k := by simp [hasP, getP, lss_ne hl]
      rw [if_pos hl, List.length_cons, this, e2, List.length_cons]
      omega
    · rw [if_neg hl]
      have hd := dropP_length hs k
      unfold dropP at hd
      rw [List.length_cons]
      cases hh : hasP (x :: m) k with
      | true =>
        rw [hh, if_pos rfl] at hd
        rw [if_pos rfl]
        omega
      | false =>
        rw [hh, if_neg (by decide)] at hd
        rw [if_neg (by decide)]
        omega

/-- All keys are alike ahead of bit n. -/
def Agree (L : List It) (n : Nat) : Prop := ∀ x ∈ L, ∀ y ∈ L, ∀ j, j < n → bit x.1 j = bit y.1 j
/-- The map L is forked at bit i: A has 0 there, B has 1. -/
structure Forks (L : List It) (i : Nat) (A B : List It) : Prop where
  eq : L = A ++ B
  hA : A ≠ []
  hB : B ≠ []
  lt : i < 256
  zero : ∀ x ∈ A, bit x.1 i = false
  one : ∀ x ∈ B, bit x.1 i = true
  same : Agree L i
theorem Forks.inA {L : List It} {i : Nat} {A B : List It} (h : Forks L i A B) {x : It} (hx : x ∈ A) : x ∈ L := by rw [h.eq]; simp [hx]
theorem Forks.inB {L : List It} {i : Nat} {A B : List It} (h : Forks L i A B) {x : It} (hx : x ∈ B) : x ∈ L := by rw [h.eq]; simp [hx]
theorem Forks.ahead {L : List It} {i : Nat} {A B : List It} (h : Forks L i A B) {x y : It} (hx : x ∈ A) (hy : y ∈ B) : lss x.1 y.1 = true :=
  lss_iff.2 ⟨i, h.lt, h.same x (h.inA hx) y (h.inB hy), h.zero x hx, h.one y hy⟩
theorem Forks.srt {L : List It} {i : Nat} {A B : List It} (h : Forks L i A B) (hA : Srt A) (hB : Srt B) : Srt L := by
  rw [h.eq]; exact hA.append hB fun a ha b hb => h.ahead ha hb
theorem Forks.ne {L : List It} {i : Nat} {A B : List It} (h : Forks L i A B) : L ≠ [] := by
  rw [h.eq]; intro e; exact h.hA (List.append_eq_nil_iff.1 e).1
theorem Forks.len {L : List It} {i : Nat} {A B : List It} (h : Forks L i A B) : L.length = A.length + B.length ∧ 0 < A.length ∧ 0 < B.length := by
  refine ⟨by rw [h.eq, List.length_append], List.length_pos_iff.2 h.hA, List.length_pos_iff.2 h.hB⟩
/-- A key that parts from all of L at bit n, where they are alike up to there. -/
theorem forks_apart {L : List It} {k v : Hs} {n : Nat} (hne : L ≠ []) (hn : n < 256) (hag : Agree L (n + 1)) {x0 : It} (hx0 : x0 ∈ L) (hsame : ∀ j, j < n → bit k j = bit x0.1 j) (hdiff : bit k n ≠ bit x0.1 n) :
    (bit k n = false → putP L k v = (k, v) :: L ∧ Forks (putP L k v) n [(k, v)] L) ∧ (bit k n = true → putP L k v = L ++ [(k, v)] ∧ Forks (putP L k v) n L [(k, v)]) := by
  have hs : ∀ y ∈ L, ∀ j, j < n → bit k j = bit y.1 j := fun y hy j hj => (hsame j hj).trans (hag x0 hx0 y hy j (by omega))
  have hd : ∀ y ∈ L, bit k n ≠ bit y.1 n := fun y hy => by rw [← hag x0 hx0 y hy n (by omega)]; exact hdiff
  constructor
  · intro h0
    have h1 : ∀ y ∈ L, bit y.1 n = true := fun y hy => by have := hd y hy; rw [h0] at this; cases hb : bit y.1 n <;> simp [hb] at this ⊢
    have hl : ∀ y ∈ L, lss k y.1 = true := fun y hy => lss_iff.2 ⟨n, hn, hs y hy, h0, h1 y hy⟩
    have e := putP_first (v := v) hl
    refine ⟨e, ⟨by rw [e]; rfl, by simp, hne, hn, fun x hx => by simp at hx; rw [hx]; exact h0, h1, fun x hx y hy j hj => ?_⟩⟩
    rw [e] at hx hy
    have q : ∀ z ∈ (k, v) :: L, bit z.1 j = bit k j := fun z hz => by
      rcases List.mem_cons.1 hz with rfl | hz
      · rfl
      · exact (hs z hz j hj).symm
    rw [q x hx, q y hy]
  · intro h0
    have h1 : ∀ y ∈ L, bit y.1 n = false := fun y hy => by have := hd y hy; rw [h0] at this; cases hb : bit y.1 n <;> simp [hb] at this ⊢
    have hl : ∀ y ∈ L, lss y.1 k = true := fun y hy => lss_iff.2 ⟨n, hn, fun j hj => (hs y hy j hj).symm, h1 y hy, h0⟩
    have e := putP_last (v := v) hl
    refine ⟨e, ⟨e, hne, by simp, hn, h1, fun x hx => by simp at hx; rw [hx]; exact h0, fun x hx y hy j hj => ?_⟩⟩
    rw [e] at hx hy
    have q : ∀ z ∈ L ++ [(k, v)], bit z.1 j = bit k j := fun z hz => by
      rcases List.mem_append.1 hz with hz | hz
      · exact (hs z hz j hj).symm
      · simp at hz; rw [hz]
    rw [q x hx, q y hy]
theorem Forks.putL {L : List It} {i : Nat} {A B : List It} (h : Forks L i A B) {k v : Hs} {x0 : It} (hx0 : x0 ∈ L) (hs : ∀ j, j < i → bit k j = bit x0.1 j) (h0 : bit k i = false) :
    putP L k v = putP A k v ++ B ∧ Forks (putP L k v) i (putP A k v) B := by
  have hs' : ∀ y ∈ L, ∀ j, j < i → bit k j = bit y.1 j := fun y hy j hj => (hs j hj).trans (h.same x0 hx0 y hy j hj)
  have e : putP L k v = putP A k v ++ B := by
    rw [h.eq]
    exact putP_left fun y hy => lss_iff.2 ⟨i, h.lt, hs' y (h.inB hy), h0, h.one y hy⟩
  refine ⟨e, ⟨e, putP_ne, h.hB, h.lt, fun x hx => ?_, h.one, fun x hx y hy j hj => ?_⟩⟩
  · rcases putP_mem hx with rfl | hx
    · exact h0
    · exact h.zero x hx
  · have q : ∀ z ∈ putP L k v, bit z.1 j = bit k j := fun z hz => by
      rcases putP_mem hz with rfl | hz
      · rfl
      · exact (hs' z hz j hj).symm
    rw [q x hx, q y hy]
theorem Forks.putR {L : List It} {i : Nat} {A B : List It} (h : Forks L i A B) {k v : Hs} {x0 : It} (hx0 : x0 ∈ L) (hs : ∀ j, j < i → bit k j = bit x0.1 j) (h0 : bit k i = true) :
    putP L k v = A ++ putP B k v ∧ Forks (putP L k v) i A (putP B k v) := by
  have hs' : ∀ y ∈ L, ∀ j, j < i → bit k j = bit y.1 j := fun y hy j hj => (hs j hj).trans (h.same x0 hx0 y hy j hj)
  have e : putP L k v = A ++ putP B k v := by
    rw [h.eq]
    exact putP_right fun y hy => lss_iff.2 ⟨i, h.lt, fun j hj => (hs' y (h.inA hy) j hj).symm, h.zero y hy, h0⟩
  refine ⟨e, ⟨e, h.hA, putP_ne, h.lt, h.zero, fun x hx => ?_, fun x hx y hy j hj => ?_⟩⟩
  · rcases putP_mem hx with rfl | hx
    · exact h0
    · exact h.one x hx
  · have q : ∀ z ∈ putP L k v, bit z.1 j = bit k j := fun z hz => by
      rcases putP_mem hz with rfl | hz
      · rfl
      · exact (hs' z hz j hj).symm
    rw [q x hx, q y hy]
theorem Forks.getL {L : List It} {i : Nat} {A B : List It} (h : Forks L i A B) {k : Hs} (h0 : bit k i = false) : getP L k = getP A k ∧ dropP L k = dropP A k ++ B := by
  have hn : ∀ y ∈ B, y.1 ≠ k := fun y hy e => by have := h.one y hy; rw [e, h0] at this; cases this
  rw [h.eq, getP_append, getP_none hn, dropP_append, dropP_none hn]
  exact ⟨by simp, rfl⟩
theorem Forks.getR {L : List It} {i : Nat} {A B : List It} (h : Forks L i A B) {k : Hs} (h0 : bit k i = true) : getP L k = getP B k ∧ dropP L k = A ++ dropP B k := by
  have hn : ∀ y ∈ A, y.1 ≠ k := fun y hy e => by have := h.zero y hy; rw [e, h0] at this; cases this
  rw [h.eq, getP_append, getP_none hn, dropP_append, dropP_none hn]
  exact ⟨by simp, rfl⟩
theorem Forks.dropL {L : List It} {i : Nat} {A B : List It} (h : Forks L i A B) {k : Hs} (h0 : bit k i = false) (hne : dropP A k ≠ []) : Forks (dropP L k) i (dropP A k) B :=
  ⟨(h.getL h0).2, hne, h.hB, h.lt, fun x hx => h.zero x (dropP_mem hx), h.one, fun x hx y hy => h.same x (dropP_mem hx) y (dropP_mem hy)⟩
theorem Forks.dropR {L : List It} {i : Nat} {A B : List It} (h : Forks L i A B) {k : Hs} (h0 : bit k i = true) (hne : dropP B k ≠ []) : Forks (dropP L k) i A (dropP B k) :=
  ⟨(h.getR h0).2, h.hA, hne, h.lt, h.zero, fun x hx => h.one x (dropP_mem hx), fun x hx y hy => h.same x (dropP_mem hx) y (dropP_mem hy)⟩
/-- Where a map of two or more is cut. -/
def cutB (L : List It) : Nat := match L.head?, L.getLast? with
  | some x, some y => apart x.1 y.1
  | _, _ => 0
def cutN (L : List It) : Nat := L.countP fun x => !(bit x.1 (cutB L))
/-- The root. -/
def rootF : Nat → List It → Hs
  | 0, _ => ntH
  | _ + 1, [] => ntH
  | _ + 1, [x] => itH x.1 x.2
  | n + 1, x :: y :: L => fkH (cutB (x :: y :: L)) (rootF n ((x :: y :: L).take (cutN (x :: y :: L)))) (rootF n ((x :: y :: L).drop (cutN (x :: y :: L))))
def rootP (L : List It) : Hs := rootF (L.length + 1) L
theorem Forks.cut {L : List It} {i : Nat} {A B : List It} (h : Forks L i A B) : cutB L = i ∧ cutN L = A.length := by
  have hc : cutB L = i := by
    unfold cutB
    obtain ⟨a, A', rfl⟩ := List.exists_cons_of_ne_nil h.hA
    have e1 : L.head? = some a := by rw [h.eq]; rfl
    obtain ⟨z, hz⟩ : ∃ z, B.getLast? = some z := by
      cases e : B.getLast? with
      | some z => exact ⟨z, rfl⟩
      | none => exact absurd (List.getLast?_eq_none_iff.1 e) h.hB
    have hzm : z ∈ B := List.mem_of_getLast? hz
    have e2 : L.getLast? = some z := by rw [h.eq, List.getLast?_append, hz]; rfl
    rw [e1, e2]
    refine apart_uniq (Nat.le_of_lt h.lt) (h.same _ (h.inA (by simp)) _ (h.inB hzm)) (fun _ => ?_)
    rw [h.zero a (by simp), h.one _ hzm]
    decide
  refine ⟨hc, ?_⟩
  unfold cutN
  rw [hc, h.eq, List.countP_append, List.countP_eq_length.2 (fun x hx => by simp [h.zero x hx]), List.countP_eq_zero.2 (fun x hx => by simp [h.one x hx])]
  rfl
theorem Srt.cut {L : List It} (h : Srt L) (h2 : 2 ≤ L.length) : 0 < cutN L ∧ cutN L < L.length := by
  match L, h, h2 with
  | x :: y :: M, h, _ =>
    obtain ⟨z, hz⟩ : ∃ z, (y :: M).getLast? = some z := by
      cases e : (y :: M).getLast? with
      | some z => exact ⟨z, rfl⟩
      | none => exact absurd (List.getLast?_eq_none_iff.1 e) (by simp)
    have hzm : z ∈ y :: M := List.mem_of_getLast? hz
    have hl : lss x.1 z.1 = true := h.head _ hzm
    have hc : cutB (x :: y :: M) = apart x.1 z.1 := by
      unfold cutB
      rw [List.head?_cons, List.getLast?_cons_cons, hz]
    unfold lss at hl
    rw [Bool.and_eq_true, decide_eq_true_eq] at hl
    have hx : bit x.1 (cutB (x :: y :: M)) = false := by rw [hc]; simpa using hl.2
    have hy : bit z.1 (cutB (x :: y :: M)) = true := by
      have := apart_ne hl.1
      rw [← hc, hx] at this
      cases hb : bit z.1 (cutB (x :: y :: M)) with
      | true => rfl
      | false => exact absurd hb.symm this
    constructor
    · exact List.countP_pos_iff.2 ⟨x, by simp, by simp [hx]⟩
    · rcases Nat.lt_or_ge (cutN (x :: y :: M)) (x :: y :: M).length with h | h
      · exact h
      · have h3 : cutN (x :: y :: M) = (x :: y :: M).length := Nat.le_antisymm List.countP_le_length h
        have := List.countP_eq_length.1 h3 z (List.mem_cons_of_mem _ hzm)
        rw [hy] at this
        cases this
theorem rootF_any : ∀ (n m : Nat) (L : List It), Srt L → L.length < n → L.length < m → rootF n L = rootF m L
  | 0, _, _, _, h, _ => absurd h (by omega)
  | _, 0, _, _, _, h => absurd h (by omega)
  | n + 1, m + 1, [], _, _, _ => rfl
  | n + 1, m + 1, [x], _, _, _ => rfl
  | n + 1, m + 1, x :: y :: L, hs, h1, h2 => by
    have hc := hs.cut (by simp)
    simp only [rootF]
    rw [rootF_any n m _ (hs.sub (List.take_sublist _ _)) (by rw [List.length_take]; omega) (by rw [List.length_take]; omega), rootF_any n m _ (hs.sub (List.drop_sublist _ _)) (by rw [List.length_drop]; omega) (by rw [List.length_drop]; omega)]
theorem rootP_nil : rootP [] = ntH := rfl
theorem rootP_one (x : It) : rootP [x] = itH x.1 x.2 := rfl
theorem rootP_two {L : List It} (hs : Srt L) (h2 : 2 ≤ L.length) : rootP L = fkH (cutB L) (rootP (L.take (cutN L))) (rootP (L.drop (cutN L))) := by
  have hc := hs.cut h2
  match L, hs, h2, hc with
  | x :: y :: M, hs, _, hc =>
    unfold rootP
    rw [rootF]
    rw [rootF_any _ _ _ (hs.sub (List.take_sublist _ _)) (by rw [List.length_take]; omega) (Nat.lt_succ_self _), rootF_any _ _ _ (hs.sub (List.drop_sublist _ _)) (by rw [List.length_drop]; omega) (Nat.lt_succ_self _)]
theorem Forks.root {L : List It} {i : Nat} {A B : List It} (h : Forks L i A B) (hA : Srt A) (hB : Srt B) : rootP L = fkH i (rootP A) (rootP B) := by
  obtain ⟨h1, h2⟩ := h.cut
  have hl := h.len
  rw [rootP_two (h.srt hA hB) (by omega), h1, h2, h.eq, List.take_left' rfl, List.drop_left' rfl]
/-- What acts leave. -/
def doP (m : List It) (a : Hs × Hs × Bool) : List It := if a.2.2 then dropP m a.1 else putP m a.1 a.2.1
def madeP (l : List (Hs × Hs × Bool)) : List It := l.foldl doP []
theorem doP_srt {m : List It} (h : Srt m) (a : Hs × Hs × Bool) : Srt (doP m a) := by unfold doP; split; exact h.drop _; exact h.put _ _
theorem doP_length {m : List It} (h : Srt m) (a : Hs × Hs × Bool) : (doP m a).length ≤ m.length + 1 := by
  unfold doP
  split
  · have := dropP_length h a.1; omega
  · rw [putP_length h]; split <;> omega
theorem foldP {m : List It} (l : List (Hs × Hs × Bool)) (h : Srt m) : Srt (l.foldl doP m) ∧ (l.foldl doP m).length ≤ m.length + l.length := by
  induction l generalizing m with
  | nil => exact ⟨h, by simp⟩
  | cons a l ih =>
    obtain ⟨h1, h2⟩ := ih (doP_srt h a)
    refine ⟨h1, ?_⟩
    have := doP_length h a
    simp only [List.foldl_cons, List.length_cons] at h2 ⊢
    omega
theorem madeP_srt (l : List (Hs × Hs × Bool)) : Srt (madeP l) := (foldP l Srt_nil).1
theorem madeP_length (l : List (Hs × Hs × Bool)) : (madeP l).length ≤ l.length := by have := (foldP l Srt_nil).2; simpa [madeP] using this
#print axioms Forks.root
end Go.Proofs.YtooffljimdklfaaDoor
