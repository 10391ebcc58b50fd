/-
  What may change; rows of elements of any make in memory: what one reads as, what the call owns.
-/
import Derived.Test.YtmicmbjbclkbjaaPuts
namespace Go.Proofs.Ytmicmbjbclkbjaa
open Go.RowKit
theorem hide {p : Prop} (h : p) : Hid p := h

/-- w' is w but for blocks of F; new blocks may be there. -/
structure Chg (F : Nat → Prop) (w w' : World) : Prop where
  os : w'.os = w.os
  tape : w'.tape = w.tape
  output : w'.output = w.output
  size : w.heap.size ≤ w'.heap.size
  block : ∀ k, k < w.heap.size → ¬ F k → w'.heap[k]? = w.heap[k]?
theorem Chg.refl (F : Nat → Prop) (w : World) : Chg F w w := ⟨rfl, rfl, rfl, Nat.le_refl _, fun _ _ _ => rfl⟩
theorem Chg.trans {F : Nat → Prop} {x y z : World} (h : Chg F x y) (k : Chg F y z) : Chg F x z :=
  ⟨k.os.trans h.os, k.tape.trans h.tape, k.output.trans h.output, Nat.le_trans h.size k.size, fun i hi hn => (k.block i (Nat.lt_of_lt_of_le hi h.size) hn).trans (h.block i hi hn)⟩
/-- .. where what may change behind is new, or may change ahead. -/
theorem Chg.then {F G : Nat → Prop} {x y z : World} (h : Chg F x y) (k : Chg G y z) (hG : ∀ i, i < x.heap.size → G i → F i) : Chg F x z :=
  ⟨k.os.trans h.os, k.tape.trans h.tape, k.output.trans h.output, Nat.le_trans h.size k.size, fun i hi hn => (k.block i (Nat.lt_of_lt_of_le hi h.size) (fun g => hn (hG i hi g))).trans (h.block i hi hn)⟩
theorem Chg.mono {F G : Nat → Prop} {w w' : World} (h : Chg F w w') (hF : ∀ i, i < w.heap.size → F i → G i) : Chg G w w' :=
  ⟨h.os, h.tape, h.output, h.size, fun i hi hn => h.block i hi (fun f => hn (hF i hi f))⟩
theorem Chg.of_below {F : Nat → Prop} {w w' : World} (h : Below w.heap.size w w') : Chg F w w' := ⟨h.os, h.tape, h.output, h.size, fun k hk _ => h.block k hk⟩
theorem Chg.of_but {F : Nat → Prop} {b : Nat} {w w' : World} (h : But b w w') (hb : F b) : Chg F w w' :=
  ⟨h.os, h.tape, h.output, h.size, fun k hk hn => h.block k hk (fun e => hn (e ▸ hb))⟩
theorem Chg.of_grown {F : Nat → Prop} {r : Option Nat} {w w' : World} (h : w.grownBy w' r) (hr : ∀ k, r = some k → k < w.heap.size → F k) : Chg F w w' :=
  ⟨h.os, h.tape, h.output, h.size, fun k hk hn => h.block k hk (fun e => hn (hr k e.symm hk))⟩
theorem Chg.below {F : Nat → Prop} {w w' : World} (h : Chg F w w') {B : Nat} (hB : B ≤ w.heap.size) (hF : ∀ k, k < B → ¬ F k) : Below B w w' :=
  ⟨h.os, h.tape, h.output, h.size, fun k hk => h.block k (by omega) (hF k hk)⟩
theorem Chg.drew (F : Nat → Prop) (w : World) : Chg F w w.drew := ⟨rfl, rfl, rfl, Nat.le_refl _, fun _ _ _ => rfl⟩
theorem Chg.alloc (F : Nat → Prop) (w : World) (o : Obj) : Chg F w (w.alloc o) := ⟨rfl, rfl, rfl, by simp, fun k hk _ => Below.heap_alloc _ _ _ hk⟩
theorem Chg.setCell {F : Nat → Prop} (w : World) {b : Nat} (hb : F b) (j : Nat) (v : Value) : Chg F w (w.setCell ⟨b, j, none⟩ v) := Chg.of_but (But.setCell b w j v) hb
theorem Chg.setCells {F : Nat → Prop} (w : World) {b : Nat} (hb : F b) (j : Nat) (ds : List Value) : Chg F w (w.setCells b j ds) := Chg.of_but (But.setCells b ds j w) hb
theorem Blk.chg {w w' : World} {b : Nat} {T : TypeId} {cs : List Value} (h : Blk w b T cs) {F : Nat → Prop} (hb : Chg F w w') (hF : ¬ F b) : Blk w' b T cs := (hb.block b h.lt hF).trans h


/-- The slice lies in block b. -/
def InB (v : Value) (b : Nat) : Prop := ∃ off n cap, v = .slice (some ⟨b, off, none⟩) n cap ∧ 0 < n
theorem Chg.cellAt {F : Nat → Prop} {w w' : World} (h : Chg F w w') {b j : Nat} (hb : b < w.heap.size) (hF : ¬ F b) : w'.cell? ⟨b, j, none⟩ = w.cell? ⟨b, j, none⟩ := by
  simp [World.cell?, h.block b hb hF]

/-- How an element lies in cells. -/
structure Enc (α : Type) where
  c : α → List Value
  n : Nat
  len : ∀ x, (c x).length = n
  one : ∀ x, ∀ u ∈ c x, u.oneCell' = true
def Enc.cs {α : Type} (E : Enc α) (L : List α) : List Value := L.flatMap E.c
section
variable {α : Type} {E : Enc α}
theorem Enc.cs_nil : E.cs [] = [] := rfl
theorem Enc.cs_cons (v : α) (L : List α) : E.cs (v :: L) = E.c v ++ E.cs L := rfl
theorem Enc.cs_append (L M : List α) : E.cs (L ++ M) = E.cs L ++ E.cs M := by simp [Enc.cs]
theorem Enc.cs_one1 (v : α) : E.cs [v] = E.c v := by simp [Enc.cs]
theorem Enc.cs_length : ∀ (L : List α), (E.cs L).length = L.length * E.n
  | [] => by simp [Enc.cs]
  | v :: L => by rw [Enc.cs_cons, List.length_append, E.len, Enc.cs_length L, List.length_cons, Nat.add_mul]; omega
theorem Enc.cs_one (L : List α) : ∀ u ∈ E.cs L, u.oneCell' = true := by
  intro u hu
  obtain ⟨v, _, h⟩ := List.mem_flatMap.1 hu
  exact E.one v u h
theorem Enc.cs_take : ∀ (L : List α) (k : Nat), E.cs (L.take k) = (E.cs L).take (k * E.n)
  | [], k => by simp [Enc.cs]
  | v :: L, 0 => by simp [Enc.cs]
  | v :: L, k + 1 => by
    rw [List.take_succ_cons, Enc.cs_cons, Enc.cs_cons, Enc.cs_take L k, List.take_append, E.len, List.take_of_length_le (l := E.c v) (by rw [E.len, Nat.add_mul]; omega)]
    congr 2
    rw [Nat.add_mul]
    omega
theorem Enc.cs_drop : ∀ (L : List α) (k : Nat), E.cs (L.drop k) = (E.cs L).drop (k * E.n)
  | [], k => by simp [Enc.cs]
  | v :: L, 0 => by simp [Enc.cs]
  | v :: L, k + 1 => by
    rw [List.drop_succ_cons, Enc.cs_cons, Enc.cs_drop L k, List.drop_append, E.len, List.drop_of_length_le (l := E.c v) (by rw [E.len, Nat.add_mul]; omega), List.nil_append]
    congr 1
    rw [Nat.add_mul]
    omega
theorem Enc.cs_get {L : List α} {j : Nat} (h : j < L.length) {i : Nat} {u : Value} (hi : (E.c L[j])[i]? = some u) : (E.cs L)[j * E.n + i]? = some u := by
  have e : E.cs L = E.cs (L.take j) ++ (E.c L[j] ++ E.cs (L.drop (j + 1))) := by
    rw [← Enc.cs_cons, ← Enc.cs_append, ← List.drop_eq_getElem_cons h, List.take_append_drop]
  have hlt := (List.getElem?_eq_some_iff.1 hi).1
  have hl : (E.cs (L.take j)).length = j * E.n := by rw [Enc.cs_length, List.length_take]; congr 1; omega
  rw [e, List.getElem?_append_right (by omega), hl, Nat.add_sub_cancel_left, List.getElem?_append_left hlt]
  exact hi
/-- The slice value v reads as the elements L. -/
def RdG (E : Enc α) (w : World) (v : Value) (L : List α) : Prop :=
  ∃ a cap, v = .slice a L.length cap ∧ L.length ≤ cap ∧ cap ≤ maxLen ∧ (a = none → cap = 0) ∧
    (0 < L.length → ∃ b off, a = some ⟨b, off, none⟩ ∧ b < w.heap.size ∧ ∀ j u, (E.cs L)[j]? = some u → w.cell? ⟨b, off + j, none⟩ = some u)
theorem RdG_nil (w : World) : RdG E w (.slice none 0 0) [] := ⟨none, 0, rfl, by simp, by simp, fun _ => rfl, fun h => by simp at h⟩
theorem RdG.chg {w w' : World} {v : Value} {L : List α} {F : Nat → Prop} (h : RdG E w v L) (hc : Chg F w w') (hF : ∀ b, InB v b → ¬ F b) : RdG E w' v L := by
  obtain ⟨a, cap, rfl, h1, h2, h3, h4⟩ := h
  refine ⟨a, cap, rfl, h1, h2, h3, fun hl => ?_⟩
  obtain ⟨b, off, rfl, hlt, hcell⟩ := h4 hl
  refine ⟨b, off, rfl, Nat.lt_of_lt_of_le hlt hc.size, fun j u hj => ?_⟩
  rw [← hcell j u hj]
  simp only [World.cell?]
  rw [hc.block b hlt (hF b ⟨off, _, _, rfl, hl⟩)]
theorem RdG.kept {w w' : World} {v : Value} {L : List α} (h : RdG E w v L) (hb : Below w.heap.size w w') : RdG E w' v L :=
  h.chg (F := fun _ => False) (Chg.of_below hb) (fun _ _ => id)
theorem RdG.slice {w : World} {v : Value} {L : List α} (h : RdG E w v L) : ∃ a cap, v = .slice a L.length cap := by
  obtain ⟨a, cap, rfl, -⟩ := h
  exact ⟨a, cap, rfl⟩
theorem RdG.inB_lt {w : World} {v : Value} {L : List α} (h : RdG E w v L) {b : Nat} (hb : InB v b) : b < w.heap.size := by
  obtain ⟨a, cap, rfl, h1, h2, h3, h4⟩ := h
  obtain ⟨off, n, cap', e, hn⟩ := hb
  simp only [Value.slice.injEq] at e
  obtain ⟨rfl, rfl, rfl⟩ := e
  obtain ⟨b', off', e, hlt, _⟩ := h4 hn
  simp only [Option.some.injEq, Addr.mk.injEq, and_true] at e
  obtain ⟨rfl, rfl⟩ := e
  exact hlt
/-- Where the elements lie. -/
theorem RdG.nth {w : World} {a : Option Addr} {n cap : Nat} {L : List α} (h : RdG E w (.slice a n cap) L) (hp : 0 < n) :
    ∃ b off, a = some ⟨b, off, none⟩ ∧ b < w.heap.size ∧ ∀ j (hj : j < L.length), w.rangeAt b (off + j * E.n) (E.c L[j]) := by
  obtain ⟨a', cap', e, h1, h2, h3, h4⟩ := h
  simp only [Value.slice.injEq] at e
  obtain ⟨rfl, rfl, rfl⟩ := e
  obtain ⟨b, off, rfl, hlt, hc⟩ := h4 hp
  refine ⟨b, off, rfl, hlt, fun j hj i u hi => ?_⟩
  rw [Nat.add_assoc]
  exact hc (j * E.n + i) u (Enc.cs_get hj hi)
theorem RdG.len {w : World} {a : Option Addr} {n cap : Nat} {L : List α} (h : RdG E w (.slice a n cap) L) : L.length = n := by
  obtain ⟨a', cap', e, _⟩ := h
  simp only [Value.slice.injEq] at e
  exact e.2.1.symm
theorem RdG.cap {w : World} {a : Option Addr} {n cap : Nat} {L : List α} (h : RdG E w (.slice a n cap) L) : n ≤ cap := by
  obtain ⟨a', cap', e, h1, _⟩ := h
  simp only [Value.slice.injEq] at e
  obtain ⟨_, rfl, rfl⟩ := e
  exact h1
theorem RdG.max {w : World} {a : Option Addr} {n cap : Nat} {L : List α} (h : RdG E w (.slice a n cap) L) : cap ≤ 9223372036854775807 := by
  obtain ⟨a', cap', e, h1, h2, _⟩ := h
  simp only [Value.slice.injEq] at e
  obtain ⟨_, rfl, rfl⟩ := e
  simpa [maxLen] using h2
/-- The slice value v, of a row of elements of type e from block B on, is the call's own and holds the elements L. -/
def OwnG (E : Enc α) (w : World) (B : Nat) (e : TypeId) (v : Value) (L : List α) : Prop := w.ownsRow B e E.n v L.length (E.cs L)
theorem OwnG.rd {w : World} {B : Nat} {e : TypeId} {v : Value} {L : List α} (h : OwnG E w B e v L) : RdG E w v L := by
  have hc := h
  obtain ⟨h1, h2⟩ := h
  rcases h2 with ⟨rfl, hn⟩ | ⟨g, cap, cur, rfl, hg, hh, hnc, hcm, hcs, htk⟩
  · have : L = [] := List.eq_nil_of_length_eq_zero hn
    subst this
    exact RdG_nil w
  · refine ⟨some ⟨g, 0, none⟩, cap, rfl, hnc, hcm, fun h => by simp at h, fun _ => ⟨g, 0, rfl, ?_, fun j u hj => ?_⟩⟩
    · exact (Array.getElem?_eq_some_iff.1 hh).1
    · have := World.ownsRow.cells hc (g := g) rfl j u hj
      simpa [Addr.add_lit] using this
theorem ownG_nil (w : World) (B : Nat) (e : TypeId) : OwnG E w B e (.slice none 0 0) [] := ⟨by simp [Enc.cs], .inl ⟨rfl, rfl⟩⟩
theorem OwnG.chg {w w' : World} {B : Nat} {e : TypeId} {v : Value} {L : List α} {F : Nat → Prop} (h : OwnG E w B e v L) (hc : Chg F w w') (hF : ∀ b, v.ownBlock = some b → ¬ F b) : OwnG E w' B e v L := by
  obtain ⟨h1, h2⟩ := h
  refine ⟨h1, ?_⟩
  rcases h2 with h2 | ⟨g, cap, cur, hv, hg, hh, r⟩
  · exact Or.inl h2
  · have hlt : g < w.heap.size := (Array.getElem?_eq_some_iff.1 hh).1
    exact Or.inr ⟨g, cap, cur, hv, hg, by rw [hc.block g hlt (hF g (by rw [hv]; rfl))]; exact hh, r⟩
theorem OwnG.kept {w w' : World} {B : Nat} {e : TypeId} {v : Value} {L : List α} (h : OwnG E w B e v L) (hb : Below w.heap.size w w') : OwnG E w' B e v L :=
  h.chg (F := fun _ => False) (Chg.of_below hb) (fun _ _ => id)
theorem OwnG.mono {w : World} {B B' : Nat} {e : TypeId} {v : Value} {L : List α} (h : OwnG E w B e v L) (hB : B' ≤ B) : OwnG E w B' e v L := by
  obtain ⟨h1, h2⟩ := h
  refine ⟨h1, ?_⟩
  rcases h2 with h2 | ⟨g, cap, cur, hv, hg, r⟩
  · exact Or.inl h2
  · exact Or.inr ⟨g, cap, cur, hv, Nat.le_trans hB hg, r⟩
theorem OwnG.block {w : World} {B : Nat} {e : TypeId} {v : Value} {L : List α} (h : OwnG E w B e v L) {b : Nat} (hb : v.ownBlock = some b) : B ≤ b ∧ b < w.heap.size ∧ ∃ cur, w.heap[b]? = some (.cells cur e (0, 0)) := by
  obtain ⟨h1, h2⟩ := h
  rcases h2 with ⟨rfl, _⟩ | ⟨g, cap, cur, rfl, hg, hh, r⟩
  · cases hb
  · cases hb
    exact ⟨hg, (Array.getElem?_eq_some_iff.1 hh).1, cur, hh⟩
theorem inB_own {v : Value} {b : Nat} (h : InB v b) : v.ownBlock = some b := by
  obtain ⟨off, n, cap, rfl, _⟩ := h
  rfl
/-- The block of an owned row, cell by cell. -/
theorem OwnG.blk {w : World} {B : Nat} {e : TypeId} {v : Value} {L : List α} (h : OwnG E w B e v L) (hp : 0 < L.length) :
    ∃ g cap, ∃ cur : List Value, v = .slice (some ⟨g, 0, none⟩) L.length cap ∧ B ≤ g ∧ Blk w g e cur ∧ cur.take (L.length * E.n) = E.cs L ∧ cur.length = cap * E.n ∧ L.length ≤ cap ∧ cap ≤ maxLen := by
  obtain ⟨h1, h2⟩ := h
  rcases h2 with ⟨_, hn⟩ | ⟨g, cap, cur, rfl, hg, hh, hnc, hcm, hcs, htk⟩
  · omega
  · exact ⟨g, cap, cur.toList, rfl, hg, by simpa [Blk] using hh, htk, by simpa using hcs, hnc, hcm⟩
theorem OwnG.of_blk {w : World} {B g cap : Nat} {e : TypeId} {L : List α} {cur : List Value} (hb : Blk w g e cur) (hB : B ≤ g) (ht : cur.take (L.length * E.n) = E.cs L) (hc : cur.length = cap * E.n) (h1 : L.length ≤ cap) (h2 : cap ≤ maxLen) : OwnG E w B e (.slice (some ⟨g, 0, none⟩) L.length cap) L :=
  ⟨Enc.cs_length L, .inr ⟨g, cap, cur.toArray, rfl, hB, hb, h1, h2, by simpa using hc, by simpa using ht⟩⟩
theorem RdG.src {P : Program} {w : World} {v : Value} {L : List α} (h : RdG E w v L) (t e : TypeId) (hk : P.underlying t = some (.slice e)) : Src P E.n t v L.length (E.cs L) w := by
  obtain ⟨a, cap, rfl, h1, h2, h3, h4⟩ := h
  cases a with
  | none =>
    have := h3 rfl
    have hl : L = [] := List.eq_nil_of_length_eq_zero (by omega)
    subst hl
    exact Src.ofNil w hk cap
  | some x =>
    refine Src.ofSlice w hk x L.length cap (E.cs L) (Enc.cs_length L) (fun j u hj => ?_) (Enc.cs_one L)
    have hjl : j < (E.cs L).length := (List.getElem?_eq_some_iff.1 hj).1
    rw [Enc.cs_length] at hjl
    have hp : 0 < L.length := by
      rcases Nat.eq_zero_or_pos L.length with h0 | h0
      · rw [h0] at hjl; omega
      · exact h0
    obtain ⟨b, off, e, _, hc⟩ := h4 hp
    simp only [Option.some.injEq] at e
    subst e
    rw [Addr.add_lit]
    exact hc j u hj
/-- append of elements. -/
theorem wpList_append_G {P : Program} (w : World) {ops : Array Oper} {rest : List Oper} {o : Oper} {a : Act} {Q : Exit → Act → World → Prop} (hgd : o.guard = none) (s x : Operand) (t tx : TypeId)
    (ho : o.op = .call { callee := .builtin .append, args := #[s, x], argTypes := #[t, tx] })
    (base : Nat) (e : TypeId) (z : Value) (bytes : Nat) (ht : P.underlying t = some (.slice e)) (hi : (P.info? e).map (fun i => (i.zero, i.size, i.bytes)) = some (some z, E.n, bytes)) (hzs : z.cells.size = E.n)
    (v : Value) (L : List α) (hv : a.eval s = v) (hown : OwnG E w base e v L)
    (xv : Value) (M : List α) (hx : a.eval x = xv) (hr : RdG E w xv M) (e' : TypeId) (htx : P.underlying tx = some (.slice e'))
    (hlen : (L.length + M.length) * bytes ≤ 140737488355328) (hm : L.length + M.length ≤ maxLen) (hbase : base ≤ w.heap.size)
    (h : ∀ v' w', OwnG E w' base e v' (L ++ M) → w.grownBy w' v.ownBlock → wpList P ops Q rest (a.put o.dst v') w') : wpList P ops Q (o :: rest) a w := by
  obtain ⟨i, hi0, hz0, hz1, hz2⟩ := info_parts hi
  refine wpList_append_mine w hgd s x t tx ho base e i z E.n bytes ht hi0 hz0 hz1 hz2 hzs v L.length (E.cs L) hv hown xv M.length (E.cs M) hx (hr.src tx e' htx) hm hlen hbase ?_
  intro v' w' h1 h2
  refine h v' w' ?_ h2
  unfold OwnG
  rw [List.length_append, Enc.cs_append]
  exact h1
/-- A row of one element. -/
theorem rdG_one (w : World) (T : TypeId) (v : α) : RdG E (w.alloc (.cells (E.c v).toArray T (0, 0))) (.slice (some ⟨w.heap.size, 0, none⟩) 1 1) [v] := by
  refine ⟨some ⟨w.heap.size, 0, none⟩, 1, rfl, by simp, by simp [maxLen], fun h => by simp at h, fun _ => ⟨w.heap.size, 0, rfl, by simp, fun j u hj => ?_⟩⟩
  have := (Blk.new w T (E.c v)).cell (j := j) (v := u) (by simpa [Enc.cs] using hj)
  rwa [Nat.zero_add]
theorem ownG_one (w : World) (B : Nat) (T : TypeId) (v : α) (hB : B ≤ w.heap.size) : OwnG E (w.alloc (.cells (E.c v).toArray T (0, 0))) B T (.slice (some ⟨w.heap.size, 0, none⟩) 1 1) [v] :=
  OwnG.of_blk (L := [v]) (Blk.new w T (E.c v)) hB (by rw [Enc.cs_one1, List.take_of_length_le]; rw [E.len]; simp) (by rw [E.len]; simp) (by simp) (by simp [maxLen])
theorem ownG_none (w : World) (B : Nat) (T : TypeId) (hB : B ≤ w.heap.size) : OwnG E (w.alloc (.cells #[] T (0, 0))) B T (.slice (some ⟨w.heap.size, 0, none⟩) 0 0) [] :=
  OwnG.of_blk (L := []) (cur := []) (Blk.new w T []) hB (by simp [Enc.cs]) (by simp) (by simp) (by simp [maxLen])
/-- From place i on. -/
theorem slice_G {P : Program} {t e : TypeId} (ht : P.underlying t = some (.slice e)) (hsz : (P.info? e).map (·.size) = some E.n) (a : Option Addr) (n cap i : Nat) (hi : i ≤ n) (hn : n ≤ cap) :
    ∃ a', (∀ W, (Instr.sliceAt t (.slice a n cap) (some (.int .i64 (i : Int))) none none).run P W = .ok (.slice a' (n - i) (cap - i)) W) ∧ (a' = if cap = i then a else a.map (·.add (i * E.n))) ∧
      (∀ w (L : List α), RdG E w (.slice a n cap) L → RdG E w (.slice a' (n - i) (cap - i)) (L.drop i)) := by
  have e1 : (i : Int) ≤ (n : Int) := by omega
  refine ⟨if cap = i then a else a.map (·.add (i * E.n)), fun W => ?_, rfl, fun w L hr => ?_⟩
  · cases hq : P.info? e with
    | none => simp [hq] at hsz
    | some k =>
      have hk : k.size = E.n := by simpa [hq] using hsz
      simp [Instr.sliceAt, Instr.slice, run_underlying ht, Instr.sliceBounds, run_sliceBound, e1, sizeOf, typeInfo, hq, hk]
  · obtain ⟨a0, cap0, e, h1, h2, h3, h4⟩ := hr
    simp only [Value.slice.injEq] at e
    obtain ⟨rfl, rfl, rfl⟩ := e
    refine ⟨if cap = i then a else a.map (·.add (i * E.n)), cap - i, by simp, by simp; omega, by omega, fun h => ?_, fun hp => ?_⟩
    · by_cases hcc : cap = i
      · omega
      · rw [if_neg hcc] at h
        have := h3 (by simpa using h)
        omega
    · simp at hp
      obtain ⟨b, off, rfl, hlt, hcell⟩ := h4 (by omega)
      rw [if_neg (by omega)]
      refine ⟨b, off + i * E.n, by simp [Addr.add_mid], hlt, fun j u hj => ?_⟩
      rw [Nat.add_assoc]
      refine hcell (i * E.n + j) u ?_
      rw [← hj, Enc.cs_drop, List.getElem?_drop]
/-- Up to place j. -/
theorem slice_G_to {P : Program} {t e : TypeId} (ht : P.underlying t = some (.slice e)) (hsz : (P.info? e).map (·.size) = some E.n) (a : Option Addr) (n cap j : Nat) (hj : j ≤ n) (hn : n ≤ cap) :
    (∀ W, (Instr.sliceAt t (.slice a n cap) none (some (.int .i64 (j : Int))) none).run P W = .ok (.slice a j cap) W) ∧
      (∀ w (L : List α), RdG E w (.slice a n cap) L → RdG E w (.slice a j cap) (L.take j)) := by
  have e2 : (j : Int) ≤ (cap : Int) := by omega
  refine ⟨fun W => ?_, fun w L hr => ?_⟩
  · cases hq : P.info? e with
    | none => simp [hq] at hsz
    | some k =>
      cases a <;> simp [Instr.sliceAt, Instr.slice, run_underlying ht, Instr.sliceBounds, run_sliceBound, e2, sizeOf, typeInfo, hq, Addr.add]
  · obtain ⟨a0, cap0, e, h1, h2, h3, h4⟩ := hr
    simp only [Value.slice.injEq] at e
    obtain ⟨rfl, rfl, rfl⟩ := e
    refine ⟨a, cap, by rw [List.length_take]; congr 1; omega, by rw [List.length_take]; omega, h2, h3, fun hp => ?_⟩
    rw [List.length_take] at hp
    obtain ⟨b, off, rfl, hlt, hcell⟩ := h4 (by omega)
    refine ⟨b, off, rfl, hlt, fun k u hk => hcell k u ?_⟩
    rw [Enc.cs_take] at hk
    have : k < j * E.n := by have := (List.getElem?_eq_some_iff.1 hk).1; rw [List.length_take] at this; omega
    rwa [List.getElem?_take_of_lt this] at hk
end
end Go.Proofs.Ytmicmbjbclkbjaa
