/-
  Texts that ride together: DiskM DiskS DiskL DiskC DiskP DiskY DiskE.
-/
import Derived.Test.YtgdhjgfoalianaaDoorGK
import Derived.Maps.OwnSet
import Derived.WalkSpells
import Derived.Laws.Externs
import Derived.MapKept
import Derived.Maps.AppendAt
/-
  Notions for package disk: what may change, numbers in a row, sectors in a map.
-/
namespace Go.Proofs.YtgdhjgfoalianaaDoor
open Go.RowKit

/-- w' is w but for blocks of F; new blocks may be there. -/
structure Chg (F : Nat → Prop) (w w' : World) : Prop where
  os : w'.os = w.os
  tape : w'.tape = w.tape
  output : w'.output = w.output
  size : w.heap.size ≤ w'.heap.size
  block : ∀ k, k < w.heap.size → ¬ F k → w'.heap[k]? = w.heap[k]?
theorem Chg.refl (F : Nat → Prop) (w : World) : Chg F w w := ⟨rfl, rfl, rfl, Nat.le_refl _, fun _ _ _ => rfl⟩
theorem Chg.trans {F : Nat → Prop} {x y z : World} (h : Chg F x y) (k : Chg F y z) : Chg F x z :=
  ⟨k.os.trans h.os, k.tape.trans h.tape, k.output.trans h.output, Nat.le_trans h.size k.size, fun i hi hn => (k.block i (Nat.lt_of_lt_of_le hi h.size) hn).trans (h.block i hi hn)⟩
/-- .. where what may change behind is new, or may change ahead. -/
theorem Chg.then {F G : Nat → Prop} {x y z : World} (h : Chg F x y) (k : Chg G y z) (hG : ∀ i, i < x.heap.size → G i → F i) : Chg F x z :=
  ⟨k.os.trans h.os, k.tape.trans h.tape, k.output.trans h.output, Nat.le_trans h.size k.size, fun i hi hn => (k.block i (Nat.lt_of_lt_of_le hi h.size) (fun g => hn (hG i hi g))).trans (h.block i hi hn)⟩
theorem Chg.mono {F G : Nat → Prop} {w w' : World} (h : Chg F w w') (hF : ∀ i, i < w.heap.size → F i → G i) : Chg G w w' :=
  ⟨h.os, h.tape, h.output, h.size, fun i hi hn => h.block i hi (fun f => hn (hF i hi f))⟩
theorem Chg.of_below {F : Nat → Prop} {w w' : World} (h : Below w.heap.size w w') : Chg F w w' := ⟨h.os, h.tape, h.output, h.size, fun k hk _ => h.block k hk⟩
theorem Chg.of_but {F : Nat → Prop} {b : Nat} {w w' : World} (h : But b w w') (hb : F b) : Chg F w w' :=
  ⟨h.os, h.tape, h.output, h.size, fun k hk hn => h.block k hk (fun e => hn (e ▸ hb))⟩
theorem Chg.of_grown {F : Nat → Prop} {r : Option Nat} {w w' : World} (h : w.grownBy w' r) (hr : ∀ k, r = some k → k < w.heap.size → F k) : Chg F w w' :=
  ⟨h.os, h.tape, h.output, h.size, fun k hk hn => h.block k hk (fun e => hn (hr k e.symm hk))⟩
theorem Chg.below {F : Nat → Prop} {w w' : World} (h : Chg F w w') {B : Nat} (hB : B ≤ w.heap.size) (hF : ∀ k, k < B → ¬ F k) : Below B w w' :=
  ⟨h.os, h.tape, h.output, h.size, fun k hk => h.block k (by omega) (hF k hk)⟩
theorem Chg.drew (F : Nat → Prop) (w : World) : Chg F w w.drew := ⟨rfl, rfl, rfl, Nat.le_refl _, fun _ _ _ => rfl⟩
theorem Chg.alloc (F : Nat → Prop) (w : World) (o : Obj) : Chg F w (w.alloc o) := ⟨rfl, rfl, rfl, by simp, fun k hk _ => Below.heap_alloc _ _ _ hk⟩
theorem Chg.setCell {F : Nat → Prop} (w : World) {b : Nat} (hb : F b) (j : Nat) (v : Value) : Chg F w (w.setCell ⟨b, j, none⟩ v) := Chg.of_but (But.setCell b w j v) hb
theorem Chg.setCells {F : Nat → Prop} (w : World) {b : Nat} (hb : F b) (j : Nat) (ds : List Value) : Chg F w (w.setCells b j ds) := Chg.of_but (But.setCells b ds j w) hb
theorem Chg.turned {F : Nat → Prop} {w w' : World} {b : Nat} (h : w.mapTurned w' b) (hb : F b) : Chg F w w' := Chg.of_grown h.grown (fun k e _ => by cases e; exact hb)
theorem Blk.chg {w w' : World} {b : Nat} {T : TypeId} {cs : List Value} (h : Blk w b T cs) {F : Nat → Prop} (hb : Chg F w w') (hF : ¬ F b) : Blk w' b T cs := (hb.block b h.lt hF).trans h

/-- Numbers as cells. -/
def Ni (l : List Int) : List Value := l.map fun n => Value.int .i64 n
theorem Ni_length (l : List Int) : (Ni l).length = l.length := by simp [Ni]
theorem Ni_append (l m : List Int) : Ni (l ++ m) = Ni l ++ Ni m := by simp [Ni]
theorem Ni_one (l : List Int) : ∀ u ∈ Ni l, u.oneCell' = true := by
  intro u hu
  obtain ⟨_, _, rfl⟩ := List.mem_map.1 hu
  rfl
theorem Ni_get {l : List Int} {j : Nat} (h : j < l.length) : (Ni l)[j]? = some (.int .i64 l[j]) := by simp [Ni, h]
/-- The slice v reads as the numbers l. -/
def RdN (w : World) (v : Value) (l : List Int) : Prop :=
  ∃ a cap, v = .slice a l.length cap ∧ l.length ≤ cap ∧ cap ≤ maxLen ∧ (a = none → cap = 0) ∧
    (0 < l.length → ∃ b off, a = some ⟨b, off, none⟩ ∧ b < w.heap.size ∧ ∀ j (h : j < l.length), w.cell? ⟨b, off + j, none⟩ = some (.int .i64 l[j]))
theorem RdN_nil (w : World) : RdN w (.slice none 0 0) [] := ⟨none, 0, rfl, by simp, by simp, fun _ => rfl, fun h => by simp at h⟩
/-- The slice lies in block b. -/
def InB (v : Value) (b : Nat) : Prop := ∃ off n cap, v = .slice (some ⟨b, off, none⟩) n cap ∧ 0 < n
theorem RdN.chg {w w' : World} {v : Value} {l : List Int} {F : Nat → Prop} (h : RdN w v l) (hc : Chg F w w') (hF : ∀ b, InB v b → ¬ F b) : RdN w' v l := by
  obtain ⟨a, cap, rfl, h1, h2, h3, h4⟩ := h
  refine ⟨a, cap, rfl, h1, h2, h3, fun hl => ?_⟩
  obtain ⟨b, off, rfl, hlt, hcell⟩ := h4 hl
  refine ⟨b, off, rfl, Nat.lt_of_lt_of_le hlt hc.size, fun j hj => ?_⟩
  rw [← hcell j hj]
  simp only [World.cell?]
  rw [hc.block b hlt (hF b ⟨off, _, _, rfl, hl⟩)]
theorem RdN.kept {w w' : World} {v : Value} {l : List Int} (h : RdN w v l) (hb : Below w.heap.size w w') : RdN w' v l :=
  h.chg (F := fun _ => False) (Chg.of_below hb) (fun _ _ => id)
theorem Rd.chg {w w' : World} {v : Value} {l : List UInt8} {F : Nat → Prop} (h : Rd w v l) (hc : Chg F w w') (hF : ∀ b, InB v b → ¬ F b) : Rd w' v l := by
  obtain ⟨a, cap, rfl, h1, h2, h3, h4⟩ := h
  refine ⟨a, cap, rfl, h1, h2, h3, fun hl => ?_⟩
  obtain ⟨b, off, rfl, hlt, hcell⟩ := h4 hl
  refine ⟨b, off, rfl, Nat.lt_of_lt_of_le hlt hc.size, fun j u hj => ?_⟩
  rw [← hcell j u hj]
  simp only [World.cell?]
  rw [hc.block b hlt (hF b ⟨off, _, _, rfl, hl⟩)]
theorem RdN.inB_lt {w : World} {v : Value} {l : List Int} (h : RdN w v l) {b : Nat} (hb : InB v b) : b < w.heap.size := by
  obtain ⟨a, cap, rfl, h1, h2, h3, h4⟩ := h
  obtain ⟨off, n, cap', e, hn⟩ := hb
  simp only [Value.slice.injEq] at e
  obtain ⟨rfl, rfl, rfl⟩ := e
  obtain ⟨b', off', e, hlt, _⟩ := h4 hn
  simp only [Option.some.injEq, Addr.mk.injEq, and_true] at e
  obtain ⟨rfl, rfl⟩ := e
  exact hlt
theorem Rd.inB_lt {w : World} {v : Value} {l : List UInt8} (h : Rd w v l) {b : Nat} (hb : InB v b) : b < w.heap.size := by
  obtain ⟨a, cap, rfl, h1, h2, h3, h4⟩ := h
  obtain ⟨off, n, cap', e, hn⟩ := hb
  simp only [Value.slice.injEq] at e
  obtain ⟨rfl, rfl, rfl⟩ := e
  obtain ⟨b', off', e, hlt, _⟩ := h4 hn
  simp only [Option.some.injEq, Addr.mk.injEq, and_true] at e
  obtain ⟨rfl, rfl⟩ := e
  exact hlt
/-- The row of numbers that the slice v owns. -/
def OwnN (w : World) (v : Value) (l : List Int) : Prop := w.ownsRow 0 3 1 v l.length (Ni l)
theorem OwnN.rd {w : World} {v : Value} {l : List Int} (h : OwnN w v l) : RdN w v l := by
  have hc := h
  obtain ⟨h1, h2⟩ := h
  rcases h2 with ⟨rfl, hn⟩ | ⟨g, cap, cur, rfl, hg, hh, hnc, hcm, hcs, htk⟩
  · have : l = [] := List.eq_nil_of_length_eq_zero hn
    subst this
    exact RdN_nil w
  · refine ⟨some ⟨g, 0, none⟩, cap, rfl, hnc, hcm, fun h => by simp at h, fun _ => ⟨g, 0, rfl, ?_, fun j hj => ?_⟩⟩
    · exact (Array.getElem?_eq_some_iff.1 hh).1
    · have := World.ownsRow.cells hc (g := g) rfl j _ (Ni_get hj)
      simpa [Addr.add_lit] using this
theorem OwnN.chg {w w' : World} {v : Value} {l : List Int} {F : Nat → Prop} (h : OwnN w v l) (hc : Chg F w w') (hF : ∀ b, v.ownBlock = some b → ¬ F b) : OwnN w' v l := by
  obtain ⟨h1, h2⟩ := h
  refine ⟨h1, ?_⟩
  rcases h2 with h2 | ⟨g, cap, cur, hv, hg, hh, r⟩
  · exact Or.inl h2
  · have hlt : g < w.heap.size := (Array.getElem?_eq_some_iff.1 hh).1
    exact Or.inr ⟨g, cap, cur, hv, hg, by rw [hc.block g hlt (hF g (by rw [hv]; rfl))]; exact hh, r⟩
theorem OwnN.block {w : World} {v : Value} {l : List Int} (h : OwnN w v l) {b : Nat} (hb : v.ownBlock = some b) : ∃ cur, w.heap[b]? = some (.cells cur 3 (0, 0)) := by
  obtain ⟨h1, h2⟩ := h
  rcases h2 with ⟨rfl, _⟩ | ⟨g, cap, cur, rfl, hg, hh, r⟩
  · cases hb
  · cases hb
    exact ⟨cur, hh⟩
theorem OwnN_nil (w : World) : OwnN w (.slice none 0 0) [] := ⟨rfl, .inl ⟨rfl, rfl⟩⟩

/-- A byte's cell. -/
def isB : Value → Bool
  | .int .u8 n => decide (0 ≤ n) && decide (n < 256)
  | _ => false
def unb : Value → UInt8
  | .int .u8 n => UInt8.ofNat n.toNat
  | _ => 0
/-- How a sector reads. -/
def secElem : Value → Option (DataW Unit × List MemPlace)
  | .agg cs => if cs.toList.all isB && cs.size == 32 then some (.lit (.string (cs.toList.map unb)), []) else none
  | _ => none
theorem unb_By (l : List UInt8) : (By l).map unb = l := by
  induction l with
  | nil => rfl
  | cons x r ih =>
    show unb (.int .u8 (x.toNat : Int)) :: (By r).map unb = _
    rw [ih]
    simp [unb]
theorem isB_By (l : List UInt8) : (By l).all isB = true := by
  rw [List.all_eq_true]
  intro v hv
  obtain ⟨x, _, rfl⟩ := List.mem_map.1 hv
  have := x.toNat_lt
  simp [isB]
  omega
theorem By_unb : ∀ (cs : List Value), cs.all isB = true → By (cs.map unb) = cs
  | [], _ => rfl
  | v :: r, h => by
    rw [List.all_cons, Bool.and_eq_true] at h
    show Value.int .u8 ((unb v).toNat : Int) :: By (r.map unb) = v :: r
    rw [By_unb r h.2]
    congr 1
    have h1 := h.1
    cases v <;> try (cases h1; done)
    rename_i k n
    cases k <;> try (cases h1; done)
    simp [isB] at h1
    simp [unb]
    omega
theorem secElem_mk {l : List UInt8} (h : l.length = 32) : secElem (.agg (By l).toArray) = some (.lit (.string l), []) := by
  simp only [secElem, isB_By, unb_By]
  simp [By_length, h]
theorem secElem_inv {v : Value} {z : DataW Unit × List MemPlace} (h : secElem v = some z) : ∃ l : List UInt8, l.length = 32 ∧ v = .agg (By l).toArray ∧ z = (.lit (.string l), []) := by
  cases v <;> try (cases h; done)
  rename_i cs
  simp only [secElem] at h
  split at h
  · rename_i hc
    rw [Bool.and_eq_true] at hc
    cases h
    refine ⟨cs.toList.map unb, by simpa using hc.2, ?_, rfl⟩
    rw [By_unb _ hc.1]
  · cases h

/-- A sector of noughts. -/
def Zs : List UInt8 := List.replicate 32 0
theorem keyed3 : Go.Maps.Keyed Tryd.prog 3 := Go.Maps.int_keyed Tryd.underlying3
theorem zeroS (w : World) : (zeroValue 88).run Tryd.prog w = .ok (.agg (By Zs).toArray) w := by kernel_rfl
def kI (k : Int) : Lit := .int .i64 k
theorem kI_ne {a b : Int} (h : a ≠ b) : kI a ≠ kI b := fun e => h (by cases e; rfl)
theorem kI_key (k : Int) : WideAt.IsKeyLit (kI k) := by simp [WideAt.IsKeyLit, kI]
/-- Block M is a map of N sectors by their numbers: f. -/
def MapS (w : World) (M : Nat) (f : Int → Option (List UInt8)) (N : Nat) : Prop :=
  ∃ D : DataW Unit, w.ownsMap Tryd.prog 3 secElem M N D ∧ Maps.size D = N ∧
    (∀ k, Maps.has D (kI k) = (f k).isSome) ∧ (∀ k l, f k = some l → D.atKey (kI k) (.lit (.string Zs)) = .lit (.string l))
/-- f with one more. -/
def put (f : Int → Option (List UInt8)) (k : Int) (l : List UInt8) : Int → Option (List UInt8) := fun j => if j = k then some l else f j
def del (f : Int → Option (List UInt8)) (k : Int) : Int → Option (List UInt8) := fun j => if j = k then none else f j
theorem MapS.chg {w w' : World} {M : Nat} {f : Int → Option (List UInt8)} {N : Nat} (h : MapS w M f N) {F : Nat → Prop} (hc : Chg F w w') (hF : ¬ F M) : MapS w' M f N := by
  obtain ⟨D, ⟨es, clock, hb, r⟩, h2⟩ := h
  exact ⟨D, ⟨es, clock, (hc.block M (Array.getElem?_eq_some_iff.1 hb).1 hF).trans hb, r⟩, h2⟩
theorem MapS.block {w : World} {M : Nat} {f : Int → Option (List UInt8)} {N : Nat} (h : MapS w M f N) : ∃ es clock, w.heap[M]? = some (.map es clock) := by
  obtain ⟨D, ⟨es, clock, hb, r⟩, h2⟩ := h
  exact ⟨es, clock, hb⟩
theorem MapS.lt {w : World} {M : Nat} {f : Int → Option (List UInt8)} {N : Nat} (h : MapS w M f N) : M < w.heap.size := by
  obtain ⟨es, clock, hb⟩ := h.block
  exact (Array.getElem?_eq_some_iff.1 hb).1
theorem MapS_made (w : World) : MapS (w.alloc (.map #[] 0)) w.heap.size (fun _ => none) 0 :=
  ⟨.map [], World.ownsMap_made w _ _ _, rfl, fun _ => rfl, fun _ _ h => by cases h⟩
theorem ownsMap_tight {w : World} {P : Program} {k : TypeId} {R : Value → Option (DataW Unit × List MemPlace)} {b n : Nat} {D : DataW Unit} (h : w.ownsMap P k R b n D) : w.ownsMap P k R b (Maps.size D) D := by
  obtain ⟨es, clock, hb, F, _, rfl⟩ := h
  exact ⟨es, clock, hb, F, by simp [Maps.size, length_sorted], rfl⟩
theorem MapS.copy {w : World} {M : Nat} {f : Int → Option (List UInt8)} {N : Nat} (h : MapS w M f N) {es : Array MapEntry} {clock : Nat} (hb : w.heap[M]? = some (.map es clock)) : MapS (w.alloc (.map es clock)) w.heap.size f N := by
  obtain ⟨D, ⟨es', clock', hb', r⟩, h2⟩ := h
  rw [hb] at hb'
  cases hb'
  exact ⟨D, ⟨es, clock, by show (w.heap.push _)[w.heap.size]? = _; simp, r⟩, h2⟩

/-- v, ok := m[k], of a key that is there. -/
theorem MapS.look {w : World} {M : Nat} {f : Int → Option (List UInt8)} {N : Nat} (h : MapS w M f N) (k : Int) (hk : (Lit.int .i64 k).wf = true) :
    ∃ l : List UInt8, l.length = 32 ∧ (∀ x, f k = some x → x = l) ∧ (Instr.lookup 63 (.map (some M)) (.int .i64 k) true).run Tryd.prog w = .ok (.tuple #[.agg (By l).toArray, .bool (f k).isSome]) w := by
  obtain ⟨D, h1, h2, h3, h4⟩ := h
  obtain ⟨v, ps, hrun, hv⟩ := h1.look_ok (t := 63) (e := 88) keyed3 Tryd.underlying63 (zeroS w) (secElem_mk (l := Zs) rfl) (key := .int .i64 k) (kl := kI k) (Go.Maps.keyOf_int_mk Tryd.underlying3 hk)
  obtain ⟨l, hl, rfl, hz⟩ := secElem_inv hv
  simp only [Prod.mk.injEq] at hz
  refine ⟨l, hl, fun x hx => ?_, ?_⟩
  · have := h4 k x hx
    rw [hz.1] at this
    cases this
    rfl
  · rw [hrun, h3 k]
/-- m[k] = s. -/
theorem MapS.put {w : World} {M : Nat} {f : Int → Option (List UInt8)} {N : Nat} (h : MapS w M f N) (hN : N ≤ 4096) (k : Int) (hk : (Lit.int .i64 k).wf = true) (l : List UInt8) (hl : l.length = 32) :
    ∃ w', (Instr.mapUpdate 63 (.map (some M)) (.int .i64 k) (.agg (By l).toArray)).run Tryd.prog w = .ok () w' ∧ MapS w' M (Go.Proofs.YtgdhjgfoalianaaDoor.put f k l) (if (f k).isSome then N else N + 1) ∧ w.mapTurned w' M := by
  obtain ⟨D, h1, h2, h3, h4⟩ := h
  obtain ⟨w', hrun, ho, ht⟩ := h1.store (t := 63) (e := 88) keyed3 Tryd.underlying63 (by unfold maxLen; omega) (key := .int .i64 k) (kl := kI k) (Go.Maps.keyOf_int_mk Tryd.underlying3 hk) (secElem_mk hl)
  have htd := h1.tidy keyed3
  have hs := Maps.size_put (k := kI k) htd (.lit (.string l))
  refine ⟨w', hrun, ⟨D.put (kI k) (.lit (.string l)), ?_, ?_, fun j => ?_, fun j x hx => ?_⟩, ht⟩
  · have := ownsMap_tight ho
    rw [hs, h3 k, h2] at this
    exact this
  · rw [hs, h3 k, h2]
  · unfold Go.Proofs.YtgdhjgfoalianaaDoor.put
    by_cases e : j = k
    · subst e
      rw [Maps.has_put_same htd.isMap (kI_key _)]
      simp
    · rw [Maps.has_put_other (kI_ne e), h3 j, if_neg e]
  · unfold Go.Proofs.YtgdhjgfoalianaaDoor.put at hx
    by_cases e : j = k
    · subst e
      rw [if_pos rfl] at hx
      cases hx
      exact Maps.atKey_put_same htd.isMap (kI_key _) _ _
    · rw [if_neg e] at hx
      rw [Maps.atKey_put_other (kI_ne e)]
      exact h4 j x hx
/-- delete(m, k). -/
theorem MapS.del {w : World} {M : Nat} {f : Int → Option (List UInt8)} {N : Nat} (h : MapS w M f N) (k : Int) (hk : (Lit.int .i64 k).wf = true) (ty : TypeId) :
    ∃ w', (Builtin.delete_ #[63, 3] ty #[.map (some M), .int .i64 k]).run Tryd.prog w = .ok (.tuple #[]) w' ∧ MapS w' M (Go.Proofs.YtgdhjgfoalianaaDoor.del f k) (if (f k).isSome then N - 1 else N) ∧ w.mapTurned w' M := by
  obtain ⟨D, h1, h2, h3, h4⟩ := h
  obtain ⟨w', hrun, ho, ht⟩ := h1.drop (t := 63) (e := 88) keyed3 Tryd.underlying63 (key := .int .i64 k) (kl := kI k) (Go.Maps.keyOf_int_mk Tryd.underlying3 hk) ty
  have htd := h1.tidy keyed3
  have hs := Maps.size_del (k := kI k) htd
  have hs' : Maps.size (D.del (kI k)) = if (f k).isSome then N - 1 else N := by
    rw [h3 k, h2] at hs
    cases hf : (f k).isSome <;> rw [hf] at hs <;> simp at hs ⊢ <;> omega
  refine ⟨w', hrun, ⟨D.del (kI k), ?_, hs', fun j => ?_, fun j x hx => ?_⟩, ht⟩
  · have := ownsMap_tight ho
    rw [hs'] at this
    exact this
  · unfold Go.Proofs.YtgdhjgfoalianaaDoor.del
    by_cases e : j = k
    · subst e
      rw [Maps.has_del_same]
      simp
    · rw [Maps.has_del_other (kI_ne e), h3 j, if_neg e]
  · unfold Go.Proofs.YtgdhjgfoalianaaDoor.del at hx
    by_cases e : j = k
    · subst e
      rw [if_pos rfl] at hx
      cases hx
    · rw [if_neg e] at hx
      rw [Maps.atKey_del_other (kI_ne e)]
      exact h4 j x hx
end Go.Proofs.YtgdhjgfoalianaaDoor

/-
  A Disk in memory; isMade, ready, Size, ends, On: what the calls do.
-/
namespace Go.Proofs.YtgdhjgfoalianaaDoor
open Go.RowKit

/-- What package disk keeps of a disk. -/
structure St where
  on : Bool
  safe : List UInt8
  f : Int → Option (List UInt8)
  order : List Nat
  ops : Nat
  keep : List Int
  torn : Int
def Nats (l : List Nat) : List Int := l.map fun n : Nat => (n : Int)
theorem Nats_length (l : List Nat) : (Nats l).length = l.length := by simp [Nats]
/-- The cells of a Disk. -/
def DB (on : Bool) (S n cap M : Nat) (vo : Value) (ops : Int) (vk : Value) (torn : Int) : List Value :=
  [.bool on, .slice (some ⟨S, 0, none⟩) n cap, .map (some M), vo, .int .i64 ops, vk, .int .i64 torn]
/-- Sectors in a row that the slice v owns. -/
def OwnS (w : World) (S n cap : Nat) (l : List UInt8) : Prop := w.ownsRow 0 88 32 (.slice (some ⟨S, 0, none⟩) n cap) n (By l)
theorem OwnS.blk {w : World} {S n cap : Nat} {l : List UInt8} (h : OwnS w S n cap l) : ∃ cur : List Value, Blk w S 88 cur ∧ cur.take (n * 32) = By l ∧ cur.length = cap * 32 ∧ n ≤ cap ∧ cap ≤ maxLen := by
  obtain ⟨h1, h2⟩ := h
  rcases h2 with ⟨h2, _⟩ | ⟨g, cap', cur, hv, hg, hh, hnc, hcm, hcs, htk⟩
  · cases h2
  · cases hv
    exact ⟨cur.toList, by simpa [Blk] using hh, htk, by simpa using hcs, hnc, hcm⟩
theorem OwnS.len {w : World} {S n cap : Nat} {l : List UInt8} (h : OwnS w S n cap l) : l.length = n * 32 := by
  have := h.1
  rwa [By_length] at this
theorem OwnS.of_blk {w : World} {S n cap : Nat} {l : List UInt8} {cur : List Value} (hb : Blk w S 88 cur) (ht : cur.take (n * 32) = By l) (hl : l.length = n * 32) (hc : cur.length = cap * 32) (h1 : n ≤ cap) (h2 : cap ≤ maxLen) : OwnS w S n cap l :=
  ⟨by rw [By_length, hl], .inr ⟨S, cap, cur.toArray, rfl, Nat.zero_le _, hb, h1, h2, by simpa using hc, by simpa using ht⟩⟩
theorem OwnS.chg {w w' : World} {S n cap : Nat} {l : List UInt8} {F : Nat → Prop} (h : OwnS w S n cap l) (hc : Chg F w w') (hF : ¬ F S) : OwnS w' S n cap l := by
  obtain ⟨cur, hb, ht, hl, h1, h2⟩ := h.blk
  exact OwnS.of_blk (hb.chg hc hF) ht h.len hl h1 h2
theorem OwnS.lt {w : World} {S n cap : Nat} {l : List UInt8} (h : OwnS w S n cap l) : S < w.heap.size := by
  obtain ⟨cur, hb, _⟩ := h.blk
  exact hb.lt
/-- Block D is a Disk: its sectors lie in block S, the dirty ones (N of them) in the map M. -/
structure At (w : World) (D S M n cap N : Nat) (vo vk : Value) (s : St) : Prop where
  d : Blk w D 67 (DB s.on S n cap M vo s.ops vk s.torn)
  sf : OwnS w S n cap s.safe
  mp : MapS w M s.f N
  od : OwnN w vo (Nats s.order)
  kp : RdN w vk s.keep
  kw : ∀ k ∈ s.keep, (Lit.int .i64 k).wf = true
  pos : 0 < n
  max : n ≤ 4096
theorem At.DS {w : World} {D S M n cap N : Nat} {vo vk : Value} {s : St} (h : At w D S M n cap N vo vk s) : D ≠ S := fun e => by
  obtain ⟨cur, hb, _⟩ := h.sf.blk
  have := h.d
  rw [e] at this
  unfold Blk at hb this
  rw [hb] at this
  cases this
theorem At.DM {w : World} {D S M n cap N : Nat} {vo vk : Value} {s : St} (h : At w D S M n cap N vo vk s) : D ≠ M := fun e => by
  obtain ⟨es, clock, hb⟩ := h.mp.block
  have := h.d
  rw [e] at this
  unfold Blk at this
  rw [hb] at this
  cases this
theorem At.SM {w : World} {D S M n cap N : Nat} {vo vk : Value} {s : St} (h : At w D S M n cap N vo vk s) : S ≠ M := fun e => by
  obtain ⟨cur, hb, _⟩ := h.sf.blk
  obtain ⟨es, clock, hb'⟩ := h.mp.block
  rw [e] at hb
  unfold Blk at hb
  rw [hb'] at hb
  cases hb
theorem At.VD {w : World} {D S M n cap N : Nat} {vo vk : Value} {s : St} (h : At w D S M n cap N vo vk s) {b : Nat} (hb : vo.ownBlock = some b) : b ≠ D ∧ b ≠ S ∧ b ≠ M := by
  obtain ⟨cur, hc⟩ := h.od.block hb
  refine ⟨fun e => ?_, fun e => ?_, fun e => ?_⟩
  · have := h.d
    rw [← e] at this
    unfold Blk at this
    rw [hc] at this
    cases this
  · obtain ⟨cur', hb', _⟩ := h.sf.blk
    rw [← e] at hb'
    unfold Blk at hb'
    rw [hc] at hb'
    cases hb'
  · obtain ⟨es, clock, hb'⟩ := h.mp.block
    rw [← e, hc] at hb'
    cases hb'
theorem At.len {w : World} {D S M n cap N : Nat} {vo vk : Value} {s : St} (h : At w D S M n cap N vo vk s) : s.safe.length = 32 * n := by have := h.sf.len; omega
/-- What changes no block of it leaves it. -/
theorem At.chg {w w' : World} {D S M n cap N : Nat} {vo vk : Value} {s : St} (h : At w D S M n cap N vo vk s) {F : Nat → Prop} (hc : Chg F w w') (h1 : ¬ F D) (h2 : ¬ F S) (h3 : ¬ F M) (h4 : ∀ b, vo.ownBlock = some b → ¬ F b) (h5 : ∀ b, InB vk b → ¬ F b) : At w' D S M n cap N vo vk s :=
  ⟨h.d.chg hc h1, h.sf.chg hc h2, h.mp.chg hc h3, h.od.chg hc h4, h.kp.chg hc h5, h.kw, h.pos, h.max⟩
theorem At.kept {w w' : World} {D S M n cap N : Nat} {vo vk : Value} {s : St} (h : At w D S M n cap N vo vk s) (hb : Below w.heap.size w w') : At w' D S M n cap N vo vk s :=
  h.chg (F := fun _ => False) (Chg.of_below hb) id id id (fun _ _ => id) (fun _ _ => id)

section
variable {w : World} {D S n cap M : Nat} {vo vk : Value} {on : Bool} {ops torn : Int}
set_option maxRecDepth 100000 in
theorem isMade_any (hB : Blk w D 67 (DB on S n cap M vo ops vk torn)) (hn : 0 < n) : Calls Tryd.prog 44 #[.pointer (some ⟨D, 0, none⟩)] w fun e w' => e = .returned (.bool true) ∧ w' = w := by
  have c1 := hB.cell (j := 1) rfl
  have q1 : (0 : Int) < (n : Int) := by omega
  clear hB
  go_enter Tryd.func44, Tryd.ntmps44
  go_wp2
  go_ret
  exact ⟨rfl, rfl⟩
set_option maxRecDepth 100000 in
theorem ready_any (hB : Blk w D 67 (DB on S n cap M vo ops vk torn)) (hn : 0 < n) : Calls Tryd.prog 46 #[.pointer (some ⟨D, 0, none⟩)] w fun e w' => e = .returned (.int .i64 (if on then 0 else 7)) ∧ w' = w := by
  have c0 := hB.cell (j := 0) rfl
  have HB : Hid (Blk w D 67 (DB on S n cap M vo ops vk torn)) := hB
  clear hB
  go_enter Tryd.func46, Tryd.ntmps46
  go_wp2_with fail
  refine (isMade_any HB.out hn).mono ?_
  rintro e w1 ⟨rfl, hw⟩; subst hw
  cases on
  · go_wp2
    go_ret
    exact ⟨rfl, rfl⟩
  · go_wp2
    go_ret
    exact ⟨rfl, rfl⟩
set_option maxRecDepth 100000 in
theorem on_any (hB : Blk w D 67 (DB on S n cap M vo ops vk torn)) (hn : 0 < n) : Calls Tryd.prog 33 #[.pointer (some ⟨D, 0, none⟩)] w fun e w' => e = .returned (.bool on) ∧ w' = w := by
  have c0 := hB.cell (j := 0) rfl
  have HB : Hid (Blk w D 67 (DB on S n cap M vo ops vk torn)) := hB
  clear hB
  go_enter Tryd.func33, Tryd.ntmps33
  go_wp2_with fail
  refine (isMade_any HB.out hn).mono ?_
  rintro e w1 ⟨rfl, hw⟩; subst hw
  go_wp2
  go_ret
  exact ⟨rfl, rfl⟩
set_option maxRecDepth 100000 in
theorem size_any (hB : Blk w D 67 (DB on S n cap M vo ops vk torn)) (hn : 0 < n) (hm : n ≤ 4096) : Calls Tryd.prog 53 #[.pointer (some ⟨D, 0, none⟩)] w fun e w' => e = .returned (.int .i64 ((32 * n : Nat) : Int)) ∧ w' = w := by
  have c1 := hB.cell (j := 1) rfl
  have HB : Hid (Blk w D 67 (DB on S n cap M vo ops vk torn)) := hB
  clear hB
  go_enter Tryd.func53, Tryd.ntmps53
  go_wp2_with fail
  refine (isMade_any HB.out hn).mono ?_
  rintro e w1 ⟨rfl, hw⟩; subst hw
  go_wp2
  go_ret
  refine ⟨?_, rfl⟩
  show Ending.returned (.int .i64 ((n : Int) * 32)) = _
  congr 2
  omega
set_option maxRecDepth 100000 in
theorem ends_any (hB : Blk w D 67 (DB on S n cap M vo ops vk torn)) (hn : 0 < n) (hm : n ≤ 4096) (p k : Int) (hp : 0 ≤ p) (hp2 : p < 9223372036854775808) :
    Calls Tryd.prog 47 #[.pointer (some ⟨D, 0, none⟩), .int .i64 p, .int .i64 k] w fun e w' => e = .returned (.bool (decide (k ≤ ((32 * n : Nat) : Int) - p))) ∧ w' = w := by
  have HB : Hid (Blk w D 67 (DB on S n cap M vo ops vk torn)) := hB
  clear hB
  go_enter Tryd.func47, Tryd.ntmps47
  go_wp2_with fail
  refine (size_any HB.out hn hm).mono ?_
  rintro e w1 ⟨rfl, hw⟩; subst hw
  go_wp2
  go_ret
  refine ⟨?_, rfl⟩
  congr 2
end
end Go.Proofs.YtgdhjgfoalianaaDoor

/-
  (*disk.Disk).last; slices.Clone, maps.Clone: what the calls do.
-/
namespace Go.Proofs.YtgdhjgfoalianaaDoor
open Go.RowKit
theorem Tryd.size88 : (Tryd.prog.info? 88).map (·.size) = some 32 := by kernel_rfl
/-- A sector as it was written last. -/
def lastOf (s : St) (k : Nat) : List UInt8 := match s.f k with
  | some l => l
  | none => (s.safe.drop (32 * k)).take 32
theorem OwnS.range {w : World} {S n cap : Nat} {l : List UInt8} (h : OwnS w S n cap l) (k : Nat) (hk : k < n) : w.rangeAt S (k * 32) (By ((l.drop (32 * k)).take 32)) := by
  obtain ⟨cur, hb, ht, hl, h1, h2⟩ := h.blk
  refine hb.range (k * 32) _ (fun j v hj => ?_)
  have hll := h.len
  have hj32 : j < 32 := by
    have := (List.getElem?_eq_some_iff.1 hj).1
    rw [By_length, List.length_take] at this
    omega
  have : (cur.take (n * 32))[k * 32 + j]? = cur[k * 32 + j]? := List.getElem?_take_of_lt (by omega)
  rw [← this, ht, ← hj]
  simp only [By, List.map_take, List.map_drop]
  rw [List.getElem?_take_of_lt hj32, List.getElem?_drop]
  congr 1
  omega
theorem sec_length {l : List UInt8} {n k : Nat} (h : l.length = n * 32) (hk : k < n) : ((l.drop (32 * k)).take 32).length = 32 := by
  rw [List.length_take, List.length_drop]
  omega
theorem i64_of_nat {k : Nat} (h : k ≤ 4096) : (Lit.int .i64 (k : Int)).wf = true := by
  exact WalkArith.wf_i64 (by omega)
set_option maxHeartbeats 1000000 in
set_option maxRecDepth 100000 in
theorem last_any {w : World} {D S M n cap N : Nat} {vo vk : Value} {s : St} (h : At w D S M n cap N vo vk s) (k : Nat) (hk : k < n) :
    Calls Tryd.prog 55 #[.pointer (some ⟨D, 0, none⟩), .int .i64 (k : Int)] w fun e w' => e = .returned (.agg (By (lastOf s k)).toArray) ∧ Below w.heap.size w w' := by
  have HA : Hid (At w D S M n cap N vo vk s) := h
  have hn := h.max
  clear h
  obtain ⟨B, HB⟩ : ∃ B, Hid (w.heap.size = B) := ⟨_, rfl⟩
  have hz := zeroS
  obtain ⟨Z, HZ⟩ : ∃ Z, Hid (By Zs = Z) := ⟨_, rfl⟩
  rw [HZ.out] at hz
  have hzl : Z.length = 32 := by rw [← HZ.out]; rfl
  go_enter Tryd.func55, Tryd.ntmps55
  go_upto_region 1 with fail
  rw [HB.out]
  obtain ⟨w1, hw1⟩ : ∃ x, x = w.alloc (.cells Z.toArray 88 (0, 0)) := ⟨_, rfl⟩
  rw [← hw1]
  have L1 : Hid (Below B w w1) := (show Below _ _ _ by rw [hw1]; exact (Below.refl _ _).alloc (by rw [HB.out]; exact Nat.le_refl _) _)
  have A1 : Hid (At w1 D S M n cap N vo vk s) := HA.out.kept (by rw [HB.out]; exact L1.out)
  have R1 : Hid (Blk w1 B 88 Z) := (show Blk _ _ _ _ by rw [hw1, ← HB.out]; exact Blk.new w 88 Z)
  clear hw1
  have c1 := A1.out.d.cell (j := 1) rfl
  have c2 := A1.out.d.cell (j := 2) rfl
  obtain ⟨x, hx, hfx, hlk⟩ := A1.out.mp.look k (i64_of_nat (by omega))
  have X1 : Hid (∀ u ∈ By x, u.oneCell' = true) := By_one x
  have HXl : (By x).length = 32 := by rw [By_length, hx]
  obtain ⟨X, HX⟩ : ∃ X, Hid (By x = X) := ⟨_, rfl⟩
  rw [HX.out] at hlk X1 HXl
  obtain ⟨C, HC⟩ : ∃ C, Hid (w1.heap.size = C) := ⟨_, rfl⟩
  have HBC : Hid (B < C) := (show _ by rw [← HC.out]; exact R1.out.lt)
  go_upto_region 2 with (first
    | (refine wpList_store_new rfl 88 _ _ rfl w1 _ _ _ rfl rfl rfl (by simpa [HXl] using Tryd.size88) (by simp [hzl, HXl]) (all_one X1.out) ?_)
    | fail)
  rw [HC.out]
  obtain ⟨w2, hw2⟩ : ∃ x, x = w1.alloc (.cells X.toArray 88 (0, 0)) := ⟨_, rfl⟩
  rw [← hw2]
  have L2 : Hid (Below C w1 w2) := (show Below _ _ _ by rw [hw2]; exact (Below.refl _ _).alloc (by rw [HC.out]; exact Nat.le_refl _) _)
  have A2 : Hid (At w2 D S M n cap N vo vk s) := A1.out.kept (by rw [HC.out]; exact L2.out)
  have R2 : Hid (Blk w2 B 88 Z) := R1.out.kept (by rw [HC.out]; exact L2.out)
  have X2 : Hid (Blk w2 C 88 X) := (show Blk _ _ _ _ by rw [hw2, ← HC.out]; exact Blk.new w1 88 X)
  clear hw2 c1 c2 hlk
  have c1 := A2.out.d.cell (j := 1) rfl
  have t2 := R2.out.there 0 32 (by omega)
  have L12 : Hid (Below B w w2) := L1.out.trans (L2.out.mono (Nat.le_of_lt HBC.out))
  cases hf : s.f k with
  | some y =>
    obtain rfl := hfx y hf
    clear hfx
    have r2 := X2.out.range0
    simp only [Option.isSome_some]
    go_wp2_with (first
      | (refine wpList_load_mid rfl 88 _ rfl C 0 rfl X _ r2 Tryd.underlying88 rfl (by rw [HXl]; exact Tryd.size88) ?_)
      | (refine wpList_store_mid rfl 88 _ _ rfl B 0 _ rfl rfl (by simpa [HXl] using t2) (by simpa [HXl] using Tryd.size88) (all_one X1.out) ?_)
      | fail)
    have hB := Blk.over X R2.out 0 (by omega)
    rw [over_all _ _ (by omega)] at hB
    refine bodyPost_ret (results_cell_row rfl _ _ B 88 _ (0, 0) _ rfl hB Tryd.underlying88 rfl (by simpa [HXl] using Tryd.size88)) rfl ⟨?_, ?_⟩
    · unfold lastOf
      rw [hf, HX.out]
    · rw [HB.out]
      exact L12.out.trans ((But.setCells B _ 0 w2).below (by omega) (by have := R2.out.lt; omega))
  | none =>
    clear hfx
    simp only [Option.isSome_none]
    have r2 := A2.out.sf.range k hk
    have hyl := sec_length A2.out.sf.len hk
    obtain ⟨y, HY⟩ : ∃ y, Hid ((s.safe.drop (32 * k)).take 32 = y) := ⟨_, rfl⟩
    rw [HY.out] at r2 hyl
    have Y1 : Hid (∀ u ∈ By y, u.oneCell' = true) := By_one y
    have HYl : (By y).length = 32 := by rw [By_length, hyl]
    obtain ⟨Y, HYY⟩ : ∃ Y, Hid (By y = Y) := ⟨_, rfl⟩
    rw [HYY.out] at r2 Y1 HYl
    go_wp2_with (first
      | (refine wpList_load_mid rfl 88 _ rfl S (k * 32) rfl Y _ r2 Tryd.underlying88 rfl (by rw [HYl]; exact Tryd.size88) ?_)
      | (refine wpList_store_mid rfl 88 _ _ rfl B 0 _ rfl rfl (by simpa [HYl] using t2) (by simpa [HYl] using Tryd.size88) (all_one Y1.out) ?_)
      | fail)
    have hB := Blk.over Y R2.out 0 (by omega)
    rw [over_all _ _ (by omega)] at hB
    refine bodyPost_ret (results_cell_row rfl _ _ B 88 _ (0, 0) _ rfl hB Tryd.underlying88 rfl (by simpa [HYl] using Tryd.size88)) rfl ⟨?_, ?_⟩
    · unfold lastOf
      rw [hf, HY.out, HYY.out]
    · rw [HB.out]
      exact L12.out.trans ((But.setCells B _ 0 w2).below (by omega) (by have := R2.out.lt; omega))
end Go.Proofs.YtgdhjgfoalianaaDoor

/-
  slices.Clone, maps.Clone: what the calls do.
-/
namespace Go.Proofs.YtgdhjgfoalianaaDoor
open Go.RowKit
theorem Tryd.info3 : (Tryd.prog.info? 3).map (fun i => (i.zero, i.size, i.bytes)) = some (some (.int .i64 0), 1, 8) := by kernel_rfl
theorem Tryd.info88 : (Tryd.prog.info? 88).map (fun i => (i.zero, i.size, i.bytes)) = some (some (.agg (By Zs).toArray), 32, 32) := by kernel_rfl
theorem RdN.src {w : World} {v : Value} {l : List Int} (h : RdN w v l) : Src Tryd.prog 1 34 v l.length (Ni l) w := by
  obtain ⟨a, cap, rfl, h1, h2, h3, h4⟩ := h
  cases a with
  | none =>
    have := h3 rfl
    have hl : l = [] := List.eq_nil_of_length_eq_zero (by omega)
    subst hl
    exact Src.ofNil w Tryd.underlying34 cap
  | some x =>
    refine Src.ofSlice w Tryd.underlying34 x l.length cap (Ni l) (by simp [Ni_length]) (fun j u hj => ?_) (Ni_one l)
    have hjl : j < l.length := by
      have := (List.getElem?_eq_some_iff.1 hj).1
      simpa [Ni_length] using this
    obtain ⟨b, off, e, _, hc⟩ := h4 (by omega)
    simp only [Option.some.injEq] at e
    subst e
    rw [Addr.add_lit, hc j hjl, ← hj, Ni_get hjl]
set_option maxHeartbeats 1000000 in
set_option maxRecDepth 100000 in
theorem cloneI_any {w : World} {v : Value} {l : List Int} (h : RdN w v l) (hl : l.length ≤ 1000000) :
    Calls Tryd.prog 45 #[v] w fun e w' => ∃ v', e = .returned v' ∧ OwnN w' v' l ∧ (∀ b, v'.ownBlock = some b → w.heap.size ≤ b) ∧ Below w.heap.size w w' := by
  have HR : Hid (RdN w v l) := h
  obtain ⟨a, cap, rfl, h1, h2, h3, h4⟩ := h
  clear h4
  obtain ⟨i0, hi, hz0, hz1, hz2⟩ := info_parts Tryd.info3
  have hq := fun W => Lib.run_eql_slice_nil (P := Tryd.prog) W 34 3 a l.length cap 0 0 Tryd.underlying34
  go_enter Tryd.func45, Tryd.ntmps45
  cases a with
  | none =>
    have hc0 := h3 rfl
    have hl0 : l = [] := List.eq_nil_of_length_eq_zero (by omega)
    subst hl0 hc0
    simp only [Option.isNone_none, List.length_nil] at hq ⊢
    go_wp2
    go_ret
    exact ⟨_, rfl, OwnN_nil _, fun b hb => (by cases hb), Below.refl _ _⟩
  | some x =>
    simp only [Option.isNone_some] at hq
    go_wp2_with (first
      | (at_builtin; refine wpList_append_mine _ rfl (.tmp 5) (.tmp 6) 34 34 rfl w.heap.size 3 i0 (.int .i64 0) 1 8 Tryd.underlying34 hi hz0 hz1 hz2 rfl (.slice (some ⟨w.heap.size, 0, none⟩) 0 0) 0 [] rfl ⟨rfl, .inr ⟨w.heap.size, 0, #[], rfl, Nat.le_refl _, heap_alloc_new w _, Nat.le_refl _, by simp [maxLen], rfl, rfl⟩⟩ (.slice (some x) l.length cap) l.length (Ni l) rfl (HR.out.kept ((Below.refl _ _).alloc (Nat.le_refl _) _)).src (by simp only [maxLen]; omega) (by omega) (by simp) ?_)
      | fail)
    intro v' w' ho hg
    go_wp2
    go_ret
    refine ⟨v', rfl, ⟨ho.1, ?_⟩, fun b hb => (ho.lt b hb).1, ?_⟩
    · rcases ho.2 with h | ⟨g, cap, cur, hv, hg, r⟩
      · exact .inl h
      · exact .inr ⟨g, cap, cur, hv, Nat.zero_le _, r⟩
    · exact ((Below.refl _ _).alloc (Nat.le_refl _) _).trans ((Below.refl _ _).grown hg (by simp) (fun k hk => by cases hk; exact Nat.le_refl _))
theorem OwnS.src {w : World} {S n cap : Nat} {l : List UInt8} (h : OwnS w S n cap l) : Src Tryd.prog 32 62 (.slice (some ⟨S, 0, none⟩) n cap) n (By l) w :=
  Src.ofSlice w Tryd.underlying62 ⟨S, 0, none⟩ n cap (By l) (by rw [By_length]; exact h.len) (fun j u hj => by
    rw [Addr.add_lit]
    have := World.ownsRow.cells h (g := S) rfl j u hj
    simpa [Addr.add_lit] using this) (By_one l)
section
variable {P : Program} (w : World)
theorem run_typeAssert_map (t xT k e : TypeId) (v : Value) (h : P.underlying t = some (.map k e)) : (Instr.typeAssert (.iface t v) xT t false).run P w = .ok v w := by
  simp [Instr.typeAssert, run_underlying h, go_sem, Result.andThen]
theorem run_maps_clone {r : Nat} {es : Array MapEntry} {clock : Nat} (t : TypeId) (hb : w.heap[r]? = some (.map es clock)) :
    (Extern.MapsClone.clone #[.iface t (.map (some r))]).run P w = .ok (.iface t (.map (some w.heap.size))) (w.alloc (.map es clock)) := by
  have e : Extern.MapsClone.clone #[.iface t (.map (some r))] = (getObj r >>= fun o => match o with
      | .map entries clock => (newObj (.map entries clock) >>= fun n => pure (.iface t (.map (some n))))
      | _ => stuck "maps.clone: a map expected") := rfl
  rw [e]
  simp [MapKept.run_getObj_map hb, Result.andThen, go_sem]
end
end Go.Proofs.YtgdhjgfoalianaaDoor

/-
  A disk, plain: what is written, synced, dirty, and what a loss of power leaves. No program is spoken of.
-/
namespace Go.Proofs.YtgdhjgfoalianaaDoor.Pd

/-- The bytes b laid over l from place p on. -/
def spl (l : List UInt8) (p : Nat) (b : List UInt8) : List UInt8 := l.take p ++ b ++ l.drop (p + b.length)
theorem spl_length {l b : List UInt8} {p : Nat} (h : p + b.length ≤ l.length) : (spl l p b).length = l.length := by simp [spl]; omega
theorem spl_nil (l : List UInt8) (p : Nat) : spl l p [] = l := by simp [spl]
theorem spl_get {l b : List UInt8} {p : Nat} (h : p + b.length ≤ l.length) (i : Nat) : (spl l p b)[i]? = if p ≤ i ∧ i < p + b.length then b[i - p]? else l[i]? := by
  unfold spl
  have hp : (l.take p).length = p := by simp; omega
  by_cases h1 : i < p
  · rw [if_neg (by omega), List.append_assoc, List.getElem?_append_left (by omega), List.getElem?_take_of_lt h1]
  · by_cases h2 : i < p + b.length
    · rw [if_pos ⟨by omega, h2⟩, List.append_assoc, List.getElem?_append_right (by omega), hp, List.getElem?_append_left (by omega)]
    · rw [if_neg (by omega), List.getElem?_append_right (by rw [List.length_append, hp]; omega), List.length_append, hp, List.getElem?_drop]
      congr 1
      omega
/-- One byte more. -/
theorem spl_snoc {l b : List UInt8} {p : Nat} (x : UInt8) (h : p + b.length + 1 ≤ l.length) : (spl l p b).set (p + b.length) x = spl l p (b ++ [x]) := by
  have k1 : p + b.length ≤ l.length := by omega
  have k2 : p + (b ++ [x]).length ≤ l.length := by simp; omega
  apply List.ext_getElem?
  intro i
  rw [List.getElem?_set, spl_get k1, spl_get k2, spl_length k1]
  by_cases hi : p + b.length = i
  · subst hi
    rw [if_pos rfl, if_pos (by omega), if_pos (by simp)]
    simp
  · rw [if_neg hi]
    by_cases h1 : p ≤ i ∧ i < p + b.length
    · rw [if_pos h1, if_pos (by simp; omega), List.getElem?_append_left (by omega)]
    · rw [if_neg h1, if_neg (by simp; omega)]

/-- One sector more that is dirty. -/
def adds (d : List Nat) (s : Nat) : List Nat := if s ∈ d then d else d ++ [s]
theorem mem_adds {d : List Nat} {s t : Nat} : t ∈ adds d s ↔ t ∈ d ∨ t = s := by
  unfold adds
  by_cases h : s ∈ d
  · rw [if_pos h]
    exact ⟨.inl, fun e => e.elim id (fun e => e ▸ h)⟩
  · rw [if_neg h]; simp
theorem adds_nodup {d : List Nat} {s : Nat} (h : d.Nodup) : (adds d s).Nodup := by
  unfold adds
  by_cases hs : s ∈ d
  · rw [if_pos hs]; exact h
  · rw [if_neg hs, List.nodup_append]
    exact ⟨h, by simp, fun a ha b hb => by simp at hb; subst hb; exact fun e => hs (e ▸ ha)⟩
/-- The sectors that n bytes from place p on touch, byte by byte. -/
def touch (d : List Nat) (p : Nat) : Nat → List Nat
  | 0 => d
  | n + 1 => adds (touch d p n) ((p + n) / 32)
theorem mem_touch {d : List Nat} {p : Nat} : ∀ {n s : Nat}, s ∈ touch d p n ↔ s ∈ d ∨ ∃ i, i < n ∧ s = (p + i) / 32
  | 0, s => by simp [touch]
  | n + 1, s => by
    rw [touch, mem_adds, mem_touch]
    constructor
    · rintro ((h | ⟨i, h1, h2⟩) | h)
      · exact .inl h
      · exact .inr ⟨i, by omega, h2⟩
      · exact .inr ⟨n, by omega, h⟩
    · rintro (h | ⟨i, h1, h2⟩)
      · exact .inl (.inl h)
      · by_cases hi : i = n
        · exact .inr (hi ▸ h2)
        · exact .inl (.inr ⟨i, by omega, h2⟩)
theorem touch_nodup {d : List Nat} {p : Nat} (h : d.Nodup) : ∀ n, (touch d p n).Nodup
  | 0 => h
  | n + 1 => adds_nodup (touch_nodup h n)
/-- .. sector by sector: k sectors from s on. -/
def touchS (d : List Nat) (s : Nat) : Nat → List Nat
  | 0 => d
  | k + 1 => adds (touchS d s k) (s + k)
theorem mem_touchS {d : List Nat} {s : Nat} : ∀ {k t : Nat}, t ∈ touchS d s k ↔ t ∈ d ∨ (s ≤ t ∧ t < s + k)
  | 0, t => ⟨.inl, fun h => h.elim id (fun h => by omega)⟩
  | k + 1, t => by
    rw [touchS, mem_adds, mem_touchS]
    constructor
    · rintro ((h | h) | h)
      · exact .inl h
      · exact .inr ⟨by omega, by omega⟩
      · exact .inr ⟨by omega, by omega⟩
    · rintro (h | h)
      · exact .inl (.inl h)
      · by_cases e : t = s + k
        · exact .inr e
        · exact .inl (.inr ⟨by omega, by omega⟩)
/-- Bytes or sectors: the same, in the same order. -/
theorem touch_eq {d : List Nat} {p : Nat} : ∀ n, touch d p (n + 1) = touchS d (p / 32) ((p + n) / 32 - p / 32 + 1)
  | 0 => by simp [touch, touchS]
  | n + 1 => by
    rw [touch, touch_eq n]
    have hle : p / 32 ≤ (p + n) / 32 := Nat.div_le_div_right (by omega)
    by_cases h : (p + (n + 1)) / 32 = (p + n) / 32
    · rw [h]
      unfold adds
      rw [if_pos]
      exact mem_touchS.2 (.inr ⟨hle, by omega⟩)
    · have h1 : (p + (n + 1)) / 32 = (p + n) / 32 + 1 := by omega
      rw [h1, show (p + n) / 32 + 1 - p / 32 + 1 = ((p + n) / 32 - p / 32 + 1) + 1 by omega]
      conv => rhs; rw [touchS]
      congr 1
      omega

/-- A disk. -/
structure DM where
  now : List UInt8
  safe : List UInt8
  dirty : List Nat
  off : Bool
  armed : Nat
  keep : List Int
  torn : Int

def new (s : Nat) : DM := ⟨List.replicate (32 * s) 0, List.replicate (32 * s) 0, [], false, 0, [], 0⟩
/-- How much of a sector is torn. -/
def clip (t : Int) : Nat := if t < 0 then 0 else if 32 < t then 32 else t.toNat
theorem clip_le (t : Int) : clip t ≤ 32 := by unfold clip; split; omega; split <;> omega
/-- The first n bytes of sector s as they were written last. -/
def lay (now safe : List UInt8) (s n : Nat) : List UInt8 := spl safe (32 * s) ((now.drop (32 * s)).take n)
/-- What a loss of power leaves, sector by sector. -/
def left (now : List UInt8) (keep : List Int) (t : Nat) : List Nat → Bool → List UInt8 → List UInt8
  | [], _, safe => safe
  | s :: r, first, safe => if (s : Int) ∈ keep then left now keep t r first (lay now safe s 32) else left now keep t r false (lay now safe s (if first then t else 0))
/-- What a loss of power leaves, byte by byte. -/
def stays (keep : List Int) (t : Nat) (s j : Nat) : List Nat → Bool → Bool
  | [], _ => false
  | x :: r, first => if (x : Int) ∈ keep then (if x = s then true else stays keep t s j r first) else (if x = s then first && decide (j < t) else stays keep t s j r false)
theorem lay_length {now safe : List UInt8} {s n : Nat} (_ : now.length = safe.length) (hs : 32 * s + 32 ≤ safe.length) (hn : n ≤ 32) : (lay now safe s n).length = safe.length := by
  apply spl_length
  simp
  omega
theorem lay_get {now safe : List UInt8} {s n : Nat} (hl : now.length = safe.length) (hs : 32 * s + 32 ≤ safe.length) (hn : n ≤ 32) (i : Nat) :
    (lay now safe s n)[i]? = if i / 32 = s ∧ i % 32 < n then now[i]? else safe[i]? := by
  have hb : ((now.drop (32 * s)).take n).length = n := by simp; omega
  unfold lay
  rw [spl_get (by omega), hb]
  by_cases h : 32 * s ≤ i ∧ i < 32 * s + n
  · rw [if_pos h, if_pos (by omega), List.getElem?_take_of_lt (by omega), List.getElem?_drop]
    congr 1
    omega
  · rw [if_neg h, if_neg (by omega)]
theorem left_length {now : List UInt8} {keep : List Int} {t : Nat} (ht : t ≤ 32) : ∀ {dirty : List Nat} {first : Bool} {safe : List UInt8}, now.length = safe.length → (∀ s ∈ dirty, 32 * s + 32 ≤ safe.length) → (left now keep t dirty first safe).length = safe.length
  | [], _, _, _, _ => rfl
  | s :: r, first, safe, hl, hd => by
    have hs := hd s (by simp)
    unfold left
    by_cases hk : (s : Int) ∈ keep
    · have h1 := lay_length hl hs (Nat.le_refl 32)
      rw [if_pos hk, left_length ht (by omega) (fun x hx => by have := hd x (by simp [hx]); omega), h1]
    · have h1 := lay_length (n := if first then t else 0) hl hs (by split <;> omega)
      rw [if_neg hk, left_length ht (by omega) (fun x hx => by have := hd x (by simp [hx]); omega), h1]
theorem stays_none {keep : List Int} {t s j : Nat} : ∀ {dirty : List Nat} {first : Bool}, s ∉ dirty → stays keep t s j dirty first = false
  | [], _, _ => rfl
  | x :: r, first, h => by
    simp only [List.mem_cons, not_or] at h
    unfold stays
    have hx : ¬ x = s := fun e => h.1 e.symm
    rw [if_neg hx, if_neg hx, stays_none h.2, stays_none h.2]
    split <;> rfl
theorem left_get {now : List UInt8} {keep : List Int} {t : Nat} (ht : t ≤ 32) : ∀ {dirty : List Nat} {first : Bool} {safe : List UInt8}, dirty.Nodup → now.length = safe.length → (∀ s ∈ dirty, 32 * s + 32 ≤ safe.length) → ∀ i,
    (left now keep t dirty first safe)[i]? = if stays keep t (i / 32) (i % 32) dirty first = true then now[i]? else safe[i]?
  | [], _, _, _, _, _, i => by simp [left, stays]
  | s :: r, first, safe, hn, hl, hd, i => by
    have hs := hd s (by simp)
    rw [List.nodup_cons] at hn
    unfold left stays
    by_cases hk : (s : Int) ∈ keep
    · have h1 := lay_length hl hs (Nat.le_refl 32)
      rw [if_pos hk, if_pos hk, left_get ht hn.2 (by omega) (fun x hx => by have := hd x (by simp [hx]); omega), lay_get hl hs (Nat.le_refl 32)]
      by_cases hsi : s = i / 32
      · rw [if_pos hsi, stays_none (by rw [← hsi]; exact hn.1)]
        rw [if_neg (by simp), if_pos ⟨hsi.symm, by omega⟩, if_pos rfl]
      · rw [if_neg hsi]
        congr 1
        rw [if_neg (by omega)]
    · have h1 := lay_length (n := if first then t else 0) hl hs (by split <;> omega)
      rw [if_neg hk, if_neg hk, left_get ht hn.2 (by omega) (fun x hx => by have := hd x (by simp [hx]); omega), lay_get hl hs (by split <;> omega)]
      by_cases hsi : s = i / 32
      · rw [if_pos hsi, stays_none (by rw [← hsi]; exact hn.1), if_neg (by simp)]
        cases first <;> simp [hsi]
      · rw [if_neg hsi]
        congr 1
        rw [if_neg (by omega)]

def crash (d : DM) (keep : List Int) (torn : Int) : DM :=
  { d with now := left d.now keep (clip torn) d.dirty true d.safe, safe := left d.now keep (clip torn) d.dirty true d.safe, dirty := [], off := true, armed := 0 }
/-- An act that would do something: does the power go? -/
def strike (d : DM) : Bool × DM := if d.armed = 0 then (false, d) else if d.armed = 1 then (true, crash d d.keep d.torn) else (false, { d with armed := d.armed - 1 })
def write (d : DM) (p : Int) (b : List UInt8) : Nat × DM :=
  if d.off then (7, d) else if p < 0 then (2, d) else if (d.now.length : Int) < p ∨ (d.now.length : Int) - p < b.length then (6, d) else if b = [] then (0, d) else
    match strike d with
    | (true, e) => (7, e)
    | (false, e) => (0, { e with now := spl e.now p.toNat b, dirty := touch e.dirty p.toNat b.length })
def read (d : DM) (p n : Int) : List UInt8 × Nat :=
  if d.off then ([], 7) else if p < 0 ∨ n < 0 ∨ (d.now.length : Int) < p ∨ (d.now.length : Int) - p < n then ([], 2) else ((d.now.drop p.toNat).take n.toNat, 0)
def sync (d : DM) : Nat × DM :=
  if d.off then (7, d) else if d.dirty = [] then (0, d) else
    match strike d with
    | (true, e) => (7, e)
    | (false, e) => (0, { e with safe := e.now, dirty := [] })
def arm (d : DM) (ops : Int) (keep : List Int) (torn : Int) : DM := { d with armed := ops.toNat, keep := keep, torn := torn }
def crashed (d : DM) (keep : List Int) (torn : Int) : Bool × DM := if d.off then (false, d) else (true, crash d keep torn)
def start (d : DM) : Bool × DM := if d.off then (true, { d with off := false, dirty := [] }) else (false, d)

/-- What holds of every disk of S sectors. -/
structure Ok (S : Nat) (d : DM) : Prop where
  now : d.now.length = 32 * S
  safe : d.safe.length = 32 * S
  nodup : d.dirty.Nodup
  low : ∀ s ∈ d.dirty, s < S
  alike : ∀ i, i / 32 ∉ d.dirty → d.now[i]? = d.safe[i]?
theorem ok_new (S : Nat) : Ok S (new S) := ⟨by simp [new], by simp [new], by simp [new], by simp [new], fun i _ => rfl⟩
theorem Ok.fits {S : Nat} {d : DM} (h : Ok S d) : ∀ s ∈ d.dirty, 32 * s + 32 ≤ d.safe.length := fun s hs => by have := h.low s hs; have := h.safe; omega
theorem Ok.crash {S : Nat} {d : DM} (h : Ok S d) (keep : List Int) (torn : Int) : Ok S (crash d keep torn) := by
  have hl := left_length (keep := keep) (clip_le torn) (first := true) (h.now.trans h.safe.symm) h.fits
  exact ⟨hl.trans h.safe, hl.trans h.safe, List.nodup_nil, by simp [Pd.crash], fun i _ => rfl⟩
theorem Ok.strike {S : Nat} {d : DM} (h : Ok S d) : Ok S (strike d).2 := by
  unfold Pd.strike
  split
  · exact h
  · split
    · exact h.crash _ _
    · exact ⟨h.now, h.safe, h.nodup, h.low, h.alike⟩
theorem Ok.write {S : Nat} {d : DM} (h : Ok S d) (p : Int) (b : List UInt8) : Ok S (write d p b).2 := by
  unfold Pd.write
  split
  · exact h
  split
  · exact h
  split
  · exact h
  split
  · exact h
  have hk := h.strike
  cases hs : Pd.strike d with
  | mk x e =>
    rw [hs] at hk
    cases x with
    | true => exact hk
    | false =>
      rename_i h1 h2 h3 h4
      have he : e.now.length = d.now.length := hk.now.trans h.now.symm
      have hfit : p.toNat + b.length ≤ e.now.length := by rw [he]; omega
      refine ⟨(spl_length hfit).trans hk.now, hk.safe, touch_nodup hk.nodup _, fun s hs => ?_, fun i hi => ?_⟩
      · rcases mem_touch.1 hs with hs | ⟨j, hj, rfl⟩
        · exact hk.low s hs
        · have hen : e.now.length = 32 * S := hk.now
          omega
      · have hnt : i / 32 ∉ e.dirty ∧ ¬ (p.toNat ≤ i ∧ i < p.toNat + b.length) := by
          refine ⟨fun hm => hi (mem_touch.2 (.inl hm)), fun hm => hi (mem_touch.2 (.inr ⟨i - p.toNat, by omega, by congr 1; omega⟩))⟩
        show (spl e.now p.toNat b)[i]? = e.safe[i]?
        rw [spl_get hfit, if_neg hnt.2]
        exact hk.alike i hnt.1
theorem Ok.sync {S : Nat} {d : DM} (h : Ok S d) : Ok S (sync d).2 := by
  unfold Pd.sync
  split
  · exact h
  split
  · exact h
  have hk := h.strike
  cases hs : Pd.strike d with
  | mk x e =>
    rw [hs] at hk
    cases x with
    | true => exact hk
    | false => exact ⟨hk.now, hk.now, List.nodup_nil, by simp, fun i _ => rfl⟩
theorem Ok.arm {S : Nat} {d : DM} (h : Ok S d) (ops : Int) (keep : List Int) (torn : Int) : Ok S (arm d ops keep torn) := ⟨h.now, h.safe, h.nodup, h.low, h.alike⟩
theorem Ok.start {S : Nat} {d : DM} (h : Ok S d) (hd : d.off = true → d.dirty = []) : Ok S (start d).2 := by
  unfold Pd.start
  split
  · rename_i ho
    exact ⟨h.now, h.safe, List.nodup_nil, by simp, fun i _ => h.alike i (by rw [hd ho]; simp)⟩
  · exact h
/-- Of a disk that lost its power nothing is dirty. -/
def Dark (d : DM) : Prop := d.off = true → d.dirty = []
/-- With all dirty sectors kept all is there. -/
theorem stays_all {keep : List Int} {t s j : Nat} : ∀ {dirty : List Nat} {first : Bool}, s ∈ dirty → (∀ x ∈ dirty, (x : Int) ∈ keep) → stays keep t s j dirty first = true
  | x :: r, first, h, hk => by
    unfold stays
    rw [if_pos (hk x (by simp))]
    by_cases hx : x = s
    · rw [if_pos hx]
    · rw [if_neg hx]
      exact stays_all ((List.mem_cons.1 h).resolve_left (fun e => hx e.symm)) (fun y hy => hk y (by simp [hy]))
theorem crash_all {S : Nat} {d : DM} (h : Ok S d) {keep : List Int} (hk : ∀ x ∈ d.dirty, (x : Int) ∈ keep) (torn : Int) : (crash d keep torn).now = d.now := by
  apply List.ext_getElem?
  intro i
  show (left d.now keep (clip torn) d.dirty true d.safe)[i]? = _
  rw [left_get (clip_le torn) h.nodup (h.now.trans h.safe.symm) h.fits]
  by_cases hi : i / 32 ∈ d.dirty
  · rw [stays_all hi hk, if_pos rfl]
  · rw [stays_none hi, if_neg (by simp)]
    exact (h.alike i hi).symm
/-- What was not dirty is there. -/
theorem crash_clean {S : Nat} {d : DM} (h : Ok S d) (keep : List Int) (torn : Int) {i : Nat} (hi : i / 32 ∉ d.dirty) : (crash d keep torn).now[i]? = d.now[i]? := by
  show (left d.now keep (clip torn) d.dirty true d.safe)[i]? = _
  rw [left_get (clip_le torn) h.nodup (h.now.trans h.safe.symm) h.fits, stays_none hi, if_neg (by simp)]
  exact (h.alike i hi).symm
/-- The first dirty sector that is not kept. -/
def cut1 (keep : List Int) : List Nat → Option Nat
  | [] => none
  | x :: r => if (x : Int) ∈ keep then cut1 keep r else some x
theorem stays_kept {keep : List Int} {t s j : Nat} (hk : (s : Int) ∈ keep) : ∀ {dirty : List Nat} {first : Bool}, s ∈ dirty → stays keep t s j dirty first = true
  | x :: r, first, h => by
    unfold stays
    by_cases hx : x = s
    · subst hx
      rw [if_pos hk, if_pos rfl]
    · have hr := (List.mem_cons.1 h).resolve_left (fun e => hx e.symm)
      rw [if_neg hx, if_neg hx, stays_kept hk hr, stays_kept hk hr]
      split <;> rfl
theorem stays_late {keep : List Int} {t s j : Nat} (hk : (s : Int) ∉ keep) : ∀ {dirty : List Nat}, stays keep t s j dirty false = false
  | [] => rfl
  | x :: r => by
    unfold stays
    by_cases hx : x = s
    · subst hx
      rw [if_neg hk, if_pos rfl]; rfl
    · rw [if_neg hx, if_neg hx, stays_late hk]
      split <;> rfl
theorem stays_cut {keep : List Int} {t s j : Nat} (hk : (s : Int) ∉ keep) : ∀ {dirty : List Nat}, stays keep t s j dirty true = (decide (cut1 keep dirty = some s) && decide (j < t))
  | [] => by simp [stays, cut1]
  | x :: r => by
    unfold stays cut1
    by_cases hx : (x : Int) ∈ keep
    · have hne : ¬ x = s := fun e => hk (e ▸ hx)
      rw [if_pos hx, if_pos hx, if_neg hne, stays_cut hk]
    · rw [if_neg hx, if_neg hx]
      by_cases he : x = s
      · rw [if_pos he]; simp [he]
      · rw [if_neg he, stays_late hk]; simp [he]
/-- A sector that is kept is as it was written last. -/
theorem crash_kept {S : Nat} {d : DM} (h : Ok S d) {keep : List Int} (torn : Int) {i : Nat} (hi : ((i / 32 : Nat) : Int) ∈ keep) : (crash d keep torn).now[i]? = d.now[i]? := by
  by_cases hd : i / 32 ∈ d.dirty
  · show (left d.now keep (clip torn) d.dirty true d.safe)[i]? = _
    rw [left_get (clip_le torn) h.nodup (h.now.trans h.safe.symm) h.fits, stays_kept hi hd, if_pos rfl]
  · exact crash_clean h keep torn hd
/-- One that is not kept is as it was synced, but for the first: its begin is as it was written last. -/
theorem crash_cut {S : Nat} {d : DM} (h : Ok S d) {keep : List Int} (torn : Int) {i : Nat} (hi : ((i / 32 : Nat) : Int) ∉ keep) :
    (crash d keep torn).now[i]? = if cut1 keep d.dirty = some (i / 32) ∧ i % 32 < clip torn then d.now[i]? else d.safe[i]? := by
  show (left d.now keep (clip torn) d.dirty true d.safe)[i]? = _
  rw [left_get (clip_le torn) h.nodup (h.now.trans h.safe.symm) h.fits, stays_cut hi]
  simp only [Bool.and_eq_true, decide_eq_true_eq]
end Go.Proofs.YtgdhjgfoalianaaDoor.Pd

/-
  (*disk.Disk).lay: what the call does.
-/
namespace Go.Proofs.YtgdhjgfoalianaaDoor
open Go.RowKit
open Pd (spl spl_length)
theorem slice_sec (g o : Nat) (ho : o < 32) (W : World) : (Instr.sliceAt 88 (.pointer (some ⟨g, 0, none⟩)) (some (.int .i64 (o : Int))) none none).run Tryd.prog W = .ok (.slice (some ⟨g, o, none⟩) (32 - o) (32 - o)) W := by
  have h9 : (o : Int) ≤ 32 := by omega
  have hn : ¬ 32 = o := by omega
  simp [Instr.sliceAt, Instr.sureAddr, run_underlying Tryd.underlying88, Instr.sliceBounds, run_sliceBound, h9, hn, Addr.add_lit]
theorem By_over (l b : List UInt8) (o : Nat) : over (By l) o (By b) = By (spl l o b) := by
  simp [over, spl, By, List.map_take, List.map_drop]
theorem lastOf_length {w : World} {D S M n cap N : Nat} {vo vk : Value} {s : St} (h : At w D S M n cap N vo vk s) (k : Nat) (hk : k < n) : (lastOf s k).length = 32 := by
  unfold lastOf
  cases hf : s.f k with
  | some y =>
    obtain ⟨x, hx, hfx, _⟩ := h.mp.look k (i64_of_nat (by have := h.max; omega))
    rw [hfx y hf, hx]
  | none => exact sec_length h.sf.len hk
theorem Blk.type {w : World} {b : Nat} {T T' : TypeId} {cs cs' : List Value} (h : Blk w b T cs) (h' : Blk w b T' cs') : T = T' := by
  unfold Blk at h h'
  rw [h] at h'
  have := Option.some.inj h'
  injection this
theorem slice_of_owns {w : World} {base e size n : Nat} {v : Value} {xs : List Value} (h : w.ownsRow base e size v (n + 1) xs) : ∃ g cp, v = .slice (some ⟨g, 0, none⟩) (n + 1) cp := by
  rcases h.2 with ⟨_, h0⟩ | ⟨g, cp, cur, hv, _⟩
  · simp at h0
  · exact ⟨g, cp, hv⟩
/-- m[k] = s, in a walk. -/
theorem wpList_mapput {w : World} {ops : Array Oper} {rest : List Oper} {op : Oper} {a : Act} {Q : Exit → Act → World → Prop} (hg : op.guard = none) (m x v : Operand) (hop : op.op = Op.mapUpdate 63 m x v)
    (M N : Nat) (f : Int → Option (List UInt8)) (hm : a.eval m = .map (some M)) (hMS : MapS w M f N) (hN : N ≤ 4096) (k : Int) (hk : (Lit.int .i64 k).wf = true) (hx : a.eval x = .int .i64 k) (l : List UInt8) (hl : l.length = 32) (hv : a.eval v = .agg (By l).toArray)
    (h : ∀ w', MapS w' M (put f k l) (if (f k).isSome then N else N + 1) → w.mapTurned w' M → wpList Tryd.prog ops Q rest (a.put op.dst undef) w') : wpList Tryd.prog ops Q (op :: rest) a w := by
  refine wpList_plain hg fun K' hK' => ?_
  obtain ⟨w', hrun, r1, r2⟩ := hMS.put hN k hk l hl
  unfold Oper.wp
  simp [execOp, hop, hm, hx, hv, hrun, Result.andThen]
  exact hK' _ _ (h w' r1 r2)
/-- delete(m, k), in a walk. -/
theorem wpList_mapdel {w : World} {ops : Array Oper} {rest : List Oper} {op : Oper} {a : Act} {Q : Exit → Act → World → Prop} (hg : op.guard = none) (m x : Operand) (hop : op.op = Op.call { callee := Callee.builtin Builtin.delete, args := #[m, x], argTypes := #[63, 3] })
    (M N : Nat) (f : Int → Option (List UInt8)) (hm : a.eval m = .map (some M)) (hMS : MapS w M f N) (k : Int) (hk : (Lit.int .i64 k).wf = true) (hx : a.eval x = .int .i64 k)
    (h : ∀ w', MapS w' M (del f k) (if (f k).isSome then N - 1 else N) → w.mapTurned w' M → wpList Tryd.prog ops Q rest (a.put op.dst (.tuple #[])) w') : wpList Tryd.prog ops Q (op :: rest) a w := by
  refine wpList_plain hg fun K' hK' => ?_
  obtain ⟨w', hrun, r1, r2⟩ := hMS.del k hk op.type
  unfold Oper.wp
  simp [execOp, hop, resolve, invoke, builtin, hm, hx, hrun, Result.andThen]
  exact hK' _ _ (h w' r1 r2)
theorem At.drew {w : World} {D S M n cap N : Nat} {vo vk : Value} {s : St} (h : At w D S M n cap N vo vk s) : At w.drew D S M n cap N vo vk s := h.chg (F := fun _ => False) (Chg.drew _ _) id id id (fun _ _ => id) (fun _ _ => id)
/-- How many are dirty then. -/
def cntS (f : Int → Option (List UInt8)) (k : Int) (N : Nat) : Nat := if (f k).isSome then N else N + 1
/-- What lay makes of a disk. -/
def layS (s : St) (k o : Nat) (X : List UInt8) : St := { s with f := put s.f k (spl (lastOf s k) o X), order := if (s.f k).isSome then s.order else s.order ++ [k] }
set_option maxHeartbeats 2000000 in
set_option maxRecDepth 100000 in
theorem lay_any {w : World} {D S M n cap N : Nat} {vo vk : Value} {s : St} (h : At w D S M n cap N vo vk s) (hN : N ≤ 4096) (hO : s.order.length ≤ 4096) (p : Nat) (hp : p < 32 * n) (v : Value) (b : List UInt8) (hr : Rd w v b)
    (hvk : ∀ c, InB vk c → c ≠ D ∧ vo.ownBlock ≠ some c) :
    Calls Tryd.prog 49 #[.pointer (some ⟨D, 0, none⟩), .int .i64 (p : Int), v] w fun e w' => e = .returned (.int .i64 ((b.take (32 - p % 32)).length : Int)) ∧
      ∃ vo' N', At w' D S M n cap N' vo' vk (layS s (p / 32) (p % 32) (b.take (32 - p % 32))) ∧ N' = cntS s.f (p / 32 : Nat) N ∧ Chg (fun c => c = D ∨ c = M ∨ vo.ownBlock = some c) w w' ∧ (∀ c, vo'.ownBlock = some c → vo.ownBlock = some c ∨ w.heap.size ≤ c) := by
  have HA : Hid (At w D S M n cap N vo vk s) := h
  have HR : Hid (Rd w v b) := hr
  have hn := h.max
  obtain ⟨k, HK⟩ : ∃ k, Hid (k = p / 32) := ⟨_, rfl⟩
  obtain ⟨o, HO⟩ : ∃ o, Hid (o = p % 32) := ⟨_, rfl⟩
  have hk : k < n := by have := HK.out; omega
  have ho : o < 32 := by have := HO.out; omega
  have E1 : Hid ((p : Int) / 32 = (k : Int)) := (show _ = _ by have := HK.out; omega)
  have E2 : Hid ((p : Int) % 32 = (o : Int)) := (show _ = _ by have := HO.out; omega)
  rw [← HK.out, ← HO.out]
  clear h hr
  obtain ⟨X, HX⟩ : ∃ X, Hid (b.take (32 - o) = X) := ⟨_, rfl⟩
  rw [HX.out]
  have hxl : X.length ≤ 32 - o := by rw [← HX.out, List.length_take]; omega
  obtain ⟨B, HB⟩ : ∃ B, Hid (w.heap.size = B) := ⟨_, rfl⟩
  have hz := zeroS
  obtain ⟨Z, HZ⟩ : ∃ Z, Hid (By Zs = Z) := ⟨_, rfl⟩
  rw [HZ.out] at hz
  have hzl : Z.length = 32 := by rw [← HZ.out]; rfl
  go_enter Tryd.func49, Tryd.ntmps49
  go_upto_region 2 with fail
  rw [E1.out]
  go_wp2_with fail
  refine (last_any HA.out k hk).mono ?_
  rintro e w1 ⟨rfl, hw1⟩
  have A1 : Hid (At w1 D S M n cap N vo vk s) := HA.out.kept hw1
  have R1 : Hid (Rd w1 v b) := HR.out.kept hw1
  have L1 : Hid (Below B w w1) := (show Below _ _ _ by rw [← HB.out]; exact hw1)
  clear hw1
  have hll := lastOf_length A1.out k hk
  obtain ⟨l, HL⟩ : ∃ l, Hid (lastOf s k = l) := ⟨_, rfl⟩
  rw [HL.out] at hll ⊢
  have C1 : Hid (∀ u ∈ By l, u.oneCell' = true) := By_one l
  have HCl : (By l).length = 32 := by rw [By_length, hll]
  obtain ⟨CL, HCL⟩ : ∃ CL, Hid (By l = CL) := ⟨_, rfl⟩
  rw [HCL.out] at C1 HCl ⊢
  obtain ⟨C, HC⟩ : ∃ C, Hid (w1.heap.size = C) := ⟨_, rfl⟩
  go_upto_region 3 with (first
    | (refine wpList_store_new rfl 88 _ _ rfl w1 _ _ _ rfl rfl rfl (by simpa [HCl] using Tryd.size88) (by simp [hzl, HCl]) (all_one C1.out) ?_)
    | fail)
  rw [HC.out]
  obtain ⟨w2, hw2⟩ : ∃ x, x = w1.alloc (.cells CL.toArray 88 (0, 0)) := ⟨_, rfl⟩
  rw [← hw2]
  have L2 : Hid (Below C w1 w2) := (show Below _ _ _ by rw [hw2]; exact (Below.refl _ _).alloc (by rw [HC.out]; exact Nat.le_refl _) _)
  have A2 : Hid (At w2 D S M n cap N vo vk s) := A1.out.kept (by rw [HC.out]; exact L2.out)
  have R2 : Hid (Rd w2 v b) := R1.out.kept (by rw [HC.out]; exact L2.out)
  have B2 : Hid (Blk w2 C 88 CL) := (show Blk _ _ _ _ by rw [hw2, ← HC.out]; exact Blk.new w1 88 CL)
  have hBC : B ≤ C := by have := L1.out.size; rw [HB.out, HC.out] at this; exact this
  have HCs : Hid (C < w2.heap.size) := B2.out.lt
  clear hw2 A1 R1
  have hs1 : ∀ W, (Instr.sliceAt 88 (.pointer (some ⟨C, 0, none⟩)) (some (.int .i64 ((p : Int) % 32))) none none).run Tryd.prog W = .ok (.slice (some ⟨C, o, none⟩) (32 - o) (32 - o)) W := by rw [E2.out]; exact slice_sec C o ho
  obtain ⟨c, HXc⟩ : ∃ c, Hid (X.length = c) := ⟨_, rfl⟩
  go_upto_region 4 with (first
    | (refine wpList_copy_bytes rfl (.tmp 19) (.tmp 20) 33 33 rfl 5 Tryd.underlying33 Tryd.size5 C o (32 - o) (32 - o) v b rfl rfl R2.out X c HX.out HXc.out 88 CL B2.out (by omega) ?_)
    | fail)
  obtain ⟨w3, hw3⟩ : ∃ x, x = w2.setCells C o (By X) := ⟨_, rfl⟩
  rw [← hw3]
  have U3 : Hid (But C w2 w3) := (show But _ _ _ by rw [hw3]; exact But.setCells C _ _ _)
  have L3 : Hid (Below C w1 w3) := L2.out.trans (U3.out.below (Nat.le_refl _) (Nat.le_of_lt HCs.out))
  have A3 : Hid (At w3 D S M n cap N vo vk s) := HA.out.kept (by rw [HB.out]; exact L1.out.trans (L3.out.mono hBC))
  obtain ⟨y, HY⟩ : ∃ y, Hid (spl l o X = y) := ⟨_, rfl⟩
  have hyl : y.length = 32 := by rw [← HY.out, spl_length (by omega)]; exact hll
  have HYl : (By y).length = 32 := by rw [By_length, hyl]
  have Y3 : Hid (Blk w3 C 88 (By y)) := (show Blk _ _ _ _ by
    have := Blk.over (By X) B2.out o (by rw [By_length]; omega)
    rw [← HCL.out, By_over, HY.out] at this
    rw [hw3]; exact this)
  clear hw3 hs1 U3 B2 A2 R2
  have c2 := A3.out.d.cell (j := 2) rfl
  obtain ⟨x, hx, hfx, hlk⟩ := A3.out.mp.look k (i64_of_nat (by omega))
  have X1 : Hid (∀ u ∈ By x, u.oneCell' = true) := By_one x
  have HXl : (By x).length = 32 := by rw [By_length, hx]
  obtain ⟨XX, HXX⟩ : ∃ X, Hid (By x = X) := ⟨_, rfl⟩
  rw [HXX.out] at hlk X1 HXl
  obtain ⟨E, HE⟩ : ∃ C, Hid (w3.heap.size = C) := ⟨_, rfl⟩
  have hCE : C < E := by rw [← HE.out]; exact Y3.out.lt
  go_upto_region 5 with (first
    | (refine wpList_store_new rfl 88 _ _ rfl w3 _ _ _ rfl rfl rfl (by simpa [HXl] using Tryd.size88) (by simp [hzl, HXl]) (all_one X1.out) ?_)
    | fail)
  rw [HE.out]
  obtain ⟨w4, hw4⟩ : ∃ x, x = w3.alloc (.cells XX.toArray 88 (0, 0)) := ⟨_, rfl⟩
  rw [← hw4]
  have L4 : Hid (Below E w3 w4) := (show Below _ _ _ by rw [hw4]; exact (Below.refl _ _).alloc (by rw [HE.out]; exact Nat.le_refl _) _)
  have A4 : Hid (At w4 D S M n cap N vo vk s) := A3.out.kept (by rw [HE.out]; exact L4.out)
  have Y4 : Hid (Blk w4 C 88 (By y)) := Y3.out.kept (by rw [HE.out]; exact L4.out)
  have L04 : Hid (Below B w w4) := L1.out.trans ((L3.out.mono hBC).trans (L4.out.mono (by omega)))
  clear hw4 hlk c2 L4 L3 L2 L1 A3 Y3 HA HR
  have c2 := A4.out.d.cell (j := 2) rfl
  have c3 := A4.out.d.cell (j := 3) rfl
  have z3 := A4.out.d.frozen 3
  have HKM : Hid (¬ InB vk M) := (show ¬ _ from fun hM => by
    obtain ⟨off, m, cp, e, hm⟩ := hM
    have hkp := A4.out.kp
    rw [e] at hkp
    obtain ⟨a, cp', e', h1, h2, h3, h4⟩ := hkp
    simp only [Value.slice.injEq] at e'
    obtain ⟨rfl, e2, rfl⟩ := e'
    obtain ⟨b', off', e3, hlt, hc⟩ := h4 (by omega)
    simp only [Option.some.injEq, Addr.mk.injEq, and_true] at e3
    obtain ⟨rfl, rfl⟩ := e3
    obtain ⟨es, clock, hb⟩ := A4.out.mp.block
    have := hc 0 (by omega)
    simp [World.cell?, hb] at this)
  have U4 : Hid (Chg (fun c => c = D ∨ c = M ∨ vo.ownBlock = some c) w w4) := Chg.of_below (by rw [HB.out]; exact L04.out)
  cases hf : s.f k with
  | some z =>
    simp only [Option.isSome_some]
    go_wp2_with fail
    obtain ⟨w5, hw5⟩ : ∃ x, x = w4 := ⟨_, rfl⟩
    have A5 : Hid (At w5 D S M n cap N vo vk s) := hw5 ▸ A4
    have Y5 : Hid (Blk w5 C 88 (By y)) := hw5 ▸ Y4
    have U5 : Hid (Chg (fun c => c = D ∨ c = M ∨ vo.ownBlock = some c) w w5) := hw5 ▸ U4
    have HOD : Hid (s.order = (layS s k o X).order) := (show _ = _ by simp [layS, hf])
    have HVO : Hid (∀ c, vo.ownBlock = some c → vo.ownBlock = some c ∨ w.heap.size ≤ c) := fun c hc => .inl hc
    rw [← hw5]
    clear hw5 A4 Y4 U4 c2 c3 z3
    have r5 := Y5.out.drew.range0
    have c2 := A5.out.d.drew.cell (j := 2) rfl
    refine wp_region_still_tail 6 Tryd.mixed (by kernel_rfl) ?_
    simp only [List.take_succ_cons, List.take_zero, List.drop_succ_cons, List.drop_zero]
    iterate 5 still_step
    refine wpStill_load_mid rfl 88 _ rfl C 0 rfl (By y) _ r5 Tryd.underlying88 rfl (by rw [HYl]; exact Tryd.size88) ?_
    refine wpStill_nil ?_
    refine wpList_mapput rfl _ _ _ rfl M N s.f rfl A5.out.drew.mp hN k (i64_of_nat (by omega)) rfl y hyl rfl ?_
    intro w6 m6 t6
    have U6 : Hid (Chg (fun c => c = D ∨ c = M ∨ vo.ownBlock = some c) w w6) := U5.out.trans ((Chg.drew _ _).trans (Chg.turned t6 (.inr (.inl rfl))))
    have A6 : Hid (At w6 D S M n cap (cntS s.f k N) vo vk (layS s k o X)) := (show At _ _ _ _ _ _ _ _ _ _ by
      have hA := A5.out.drew
      have hT : Chg (fun c => c = M) w5.drew w6 := Chg.turned t6 rfl
      exact ⟨hA.d.chg hT hA.DM, hA.sf.chg hT hA.SM, by rw [← HY.out, ← HL.out] at m6; exact m6, HOD.out ▸ hA.od.chg hT (fun b hb => (hA.VD hb).2.2), hA.kp.chg hT (fun b hb e => by
        subst e
        exact HKM.out hb), hA.kw, hA.pos, hA.max⟩)
    clear m6 t6
    go_wp2
    go_ret
    exact ⟨by show Ending.returned (.int .i64 (c : Int)) = _; rw [HXc.out], vo, _, A6.out, rfl, U6.out, HVO.out⟩
  | none =>
    simp only [Option.isSome_none]
    obtain ⟨i0, hi, hz0, hz1, hz2⟩ := info_parts Tryd.info3
    go_upto_region 7 with (first
      | (at_builtin; refine wpList_append_own_at _ rfl _ _ 34 rfl 0 3 i0 (.int .i64 0) 1 8 Tryd.underlying34 hi hz0 hz1 hz2 rfl (by decide) vo (Nats s.order).length (Ni (Nats s.order)) rfl (A4.out.od.chg (F := fun _ => False) (Chg.alloc _ _ _) (fun _ _ => id)) ⟨w4.heap.size, 0, none⟩ 1 1 [.int .i64 (k : Int)] rfl rfl (cell_one_new _ _ _) (Ni_one [(k : Int)]) (by rw [Nats_length]; unfold maxLen; omega) (by rw [Nats_length]; omega) (by simp) ?_; intro v5 wa ho5 hg5 hn5 hl5; clear hn5; have HO5 : Hid _ := ho5; have HG5 : Hid _ := hg5; have HL5 : Hid _ := hl5; have da : Blk wa D 67 (DB s.on S n cap M vo s.ops vk s.torn) := A4.out.d.chg ((Chg.alloc (fun c => vo.ownBlock = some c) w4 _).trans (Chg.of_grown hg5 (fun k e _ => e))) (fun e => (A4.out.VD e).1 rfl); have ca := da.cell (j := 3) rfl; have za := da.frozen 3; have hv5 := slice_of_owns ho5; clear ho5 hg5 hl5 da; obtain ⟨g5, cp5, he5⟩ := hv5; rw [he5])
      | fail)
    rw [← he5]
    obtain ⟨w5, hw5⟩ : ∃ x, x = wa.setCell ⟨D, 3, none⟩ v5 := ⟨_, rfl⟩
    rw [← hw5]
    have UA : Hid (Chg (fun c => vo.ownBlock = some c) w4 wa) := (Chg.alloc (fun c => vo.ownBlock = some c) w4 _).trans (Chg.of_grown HG5.out (fun k e _ => e))
    have UB : Hid (Chg (fun c => c = D) wa w5) := (show Chg _ _ _ by rw [hw5]; exact Chg.setCell (F := fun c => c = D) wa rfl 3 v5)
    have HVO : Hid (∀ c, v5.ownBlock = some c → vo.ownBlock = some c ∨ w.heap.size ≤ c) := fun c hc => by
      rcases HL5.out with e | e
      · exact .inl (e ▸ hc)
      · rw [e] at hc
        cases hc
        refine .inr ?_
        have := L04.out.size
        simp
        omega
    have HV5D : Hid (∀ c, v5.ownBlock = some c → ¬ c = D) := fun c hc e => by
      rcases HL5.out with e' | e'
      · exact (A4.out.VD (e' ▸ hc)).1 e
      · rw [e'] at hc
        cases hc
        have := A4.out.d.lt
        simp at e
        omega
    have A5 : Hid (At w5 D S M n cap N v5 vk { s with order := s.order ++ [k] }) := (show At _ _ _ _ _ _ _ _ _ _ by
      have hA := A4.out
      refine ⟨?_, (hA.sf.chg UA.out (fun e => (hA.VD e).2.1 rfl)).chg UB.out (fun e => hA.DS e.symm), (hA.mp.chg UA.out (fun e => (hA.VD e).2.2 rfl)).chg UB.out (fun e => hA.DM e.symm), ?_, (hA.kp.chg UA.out (fun c hc e => (hvk c hc).2 e)).chg UB.out (fun c hc e => (hvk c hc).1 e), hA.kw, hA.pos, hA.max⟩
      · have hB := (hA.d.chg UA.out (fun e => (hA.VD e).1 rfl)).set 3 v5
        rw [hw5]
        exact hB
      · refine OwnN.chg (w := wa) ?_ UB.out HV5D.out
        have := HO5.out
        unfold OwnN
        rw [show Nats (s.order ++ [k]) = Nats s.order ++ [(k : Int)] by simp [Nats], Ni_append, List.length_append]
        exact this)
    have Y5 : Hid (Blk w5 C 88 (By y)) := (Y4.out.chg UA.out (fun e => by
        obtain ⟨cur, hc⟩ := A4.out.od.block e
        exact absurd (Y4.out.type (cs' := cur.toList) (by simpa [Blk] using hc)) (by decide))).chg UB.out (fun e => by
        subst e
        exact absurd (Y4.out.type A4.out.d) (by decide))
    have U5 : Hid (Chg (fun c => c = D ∨ c = M ∨ vo.ownBlock = some c) w w5) := U4.out.trans ((UA.out.mono (fun _ _ e => .inr (.inr e))).trans (UB.out.mono (fun _ _ e => .inl e)))
    have HOD : Hid (s.order ++ [k] = (layS s k o X).order) := (show _ = _ by simp [layS, hf])
    clear hw5 A4 Y4 U4 c2 c3 z3 ca za UA UB HO5 HG5 HL5 HV5D he5
    have r5 := Y5.out.drew.range0
    have c2 := A5.out.d.drew.cell (j := 2) rfl
    refine wp_region_still_tail 6 Tryd.mixed (by kernel_rfl) ?_
    simp only [List.take_succ_cons, List.take_zero, List.drop_succ_cons, List.drop_zero]
    iterate 5 still_step
    refine wpStill_load_mid rfl 88 _ rfl C 0 rfl (By y) _ r5 Tryd.underlying88 rfl (by rw [HYl]; exact Tryd.size88) ?_
    refine wpStill_nil ?_
    refine wpList_mapput rfl _ _ _ rfl M N s.f rfl A5.out.drew.mp hN k (i64_of_nat (by omega)) rfl y hyl rfl ?_
    intro w6 m6 t6
    have U6 : Hid (Chg (fun c => c = D ∨ c = M ∨ vo.ownBlock = some c) w w6) := U5.out.trans ((Chg.drew _ _).trans (Chg.turned t6 (.inr (.inl rfl))))
    have A6 : Hid (At w6 D S M n cap (cntS s.f k N) v5 vk (layS s k o X)) := (show At _ _ _ _ _ _ _ _ _ _ by
      have hA := A5.out.drew
      have hT : Chg (fun c => c = M) w5.drew w6 := Chg.turned t6 rfl
      exact ⟨hA.d.chg hT hA.DM, hA.sf.chg hT hA.SM, by rw [← HY.out, ← HL.out] at m6; exact m6, HOD.out ▸ hA.od.chg hT (fun b hb => (hA.VD hb).2.2), hA.kp.chg hT (fun b hb e => by
        subst e
        exact HKM.out hb), hA.kw, hA.pos, hA.max⟩)
    clear m6 t6
    go_wp2
    go_ret
    exact ⟨by show Ending.returned (.int .i64 (c : Int)) = _; rw [HXc.out], v5, _, A6.out, rfl, U6.out, HVO.out⟩
end Go.Proofs.YtgdhjgfoalianaaDoor

/-
  (*disk.Disk).settle: what the call does.
-/
namespace Go.Proofs.YtgdhjgfoalianaaDoor
open Go.RowKit
open Pd (spl spl_length)
/-- What stands in a disk's lists hangs together. -/
structure Wf (n N : Nat) (s : St) : Prop where
  nodup : s.order.Nodup
  low : ∀ k ∈ s.order, k < n
  keys : ∀ k : Int, (s.f k).isSome = true → ∃ j, j ∈ s.order ∧ k = ((j : Nat) : Int)
  cnt : N = (s.order.filter fun j : Nat => (s.f j).isSome).length
theorem filter_del {l : List Nat} {p : Nat → Bool} {k : Nat} (hn : l.Nodup) (hk : k ∈ l) (hp : p k = true) : (l.filter fun j => !decide (j = k) && p j).length + 1 = (l.filter p).length := by
  induction l with
  | nil => cases hk
  | cons x r ih =>
    rw [List.nodup_cons] at hn
    by_cases hx : x = k
    · subst hx
      have e : r.filter (fun j => !decide (j = x) && p j) = r.filter p := List.filter_congr fun j hj => by
        have : ¬ j = x := fun e => hn.1 (by rw [← e]; exact hj)
        simp [this]
      rw [List.filter_cons_of_neg (by simp), List.filter_cons_of_pos hp, e, List.length_cons]
    · have hr : k ∈ r := (List.mem_cons.1 hk).resolve_left (fun e => hx e.symm)
      have := ih hn.2 hr
      cases hpx : p x with
      | true => rw [List.filter_cons_of_pos (by simp [hx, hpx]), List.filter_cons_of_pos hpx, List.length_cons, List.length_cons]; omega
      | false => rw [List.filter_cons_of_neg (by simp [hpx]), List.filter_cons_of_neg (by simp [hpx])]; exact this
theorem Wf.del {n N : Nat} {s : St} (h : Wf n N s) (k : Int) (safe : List UInt8) : Wf n (if (s.f k).isSome then N - 1 else N) { s with f := del s.f k, safe := safe } := by
  refine ⟨h.nodup, h.low, fun j hj => h.keys j ?_, ?_⟩
  · have hj' : (Go.Proofs.YtgdhjgfoalianaaDoor.del s.f k j).isSome = true := hj
    unfold Go.Proofs.YtgdhjgfoalianaaDoor.del at hj'
    by_cases e : j = k
    · rw [if_pos e] at hj'; cases hj'
    · rwa [if_neg e] at hj'
  · show _ = (s.order.filter fun j : Nat => (Go.Proofs.YtgdhjgfoalianaaDoor.del s.f k j).isSome).length
    cases hf : (s.f k).isSome with
    | true =>
      obtain ⟨j, hj, rfl⟩ := h.keys k hf
      have := filter_del (p := fun j : Nat => (s.f j).isSome) h.nodup hj hf
      have e : (s.order.filter fun i : Nat => (Go.Proofs.YtgdhjgfoalianaaDoor.del s.f j i).isSome) = (s.order.filter fun i : Nat => !decide (i = j) && (s.f i).isSome) := List.filter_congr fun i _ => by
        unfold Go.Proofs.YtgdhjgfoalianaaDoor.del
        by_cases e : i = j
        · rw [if_pos (by omega)]; simp [e]
        · rw [if_neg (by omega)]; simp [e]
      rw [e, if_pos rfl, h.cnt]
      omega
    | false =>
      have e : (s.order.filter fun i : Nat => (Go.Proofs.YtgdhjgfoalianaaDoor.del s.f k i).isSome) = (s.order.filter fun i : Nat => (s.f i).isSome) := List.filter_congr fun i _ => by
        unfold Go.Proofs.YtgdhjgfoalianaaDoor.del
        by_cases e : (i : Int) = k
        · rw [if_pos e, e, hf]; rfl
        · rw [if_neg e]
      rw [e, if_neg (by simp)]
      exact h.cnt
/-- What settle makes of a disk. -/
def settle1 (s : St) (k : Int) : St := match s.f k with
  | some l => { s with f := del s.f k, safe := spl s.safe (32 * k.toNat) l }
  | none => s
def settleS (s : St) : List Int → St
  | [] => s
  | k :: r => settleS (settle1 s k) r
theorem settleS_append (s : St) (k : Int) : ∀ l : List Int, ∀ s, settleS s (l ++ [k]) = settle1 (settleS s l) k
  | [], _ => rfl
  | _ :: r, _ => settleS_append s k r _
theorem settleS_take (s : St) (l : List Int) (i : Nat) (hi : i < l.length) : settleS s (l.take (i + 1)) = settle1 (settleS s (l.take i)) l[i] := by
  rw [List.take_add_one, List.getElem?_eq_getElem hi, Option.toList_some, settleS_append s]
theorem settle1_order (s : St) (k : Int) : (settle1 s k).order = s.order := by unfold settle1; split <;> rfl
theorem settleS_order : ∀ (l : List Int) (s : St), (settleS s l).order = s.order
  | [], _ => rfl
  | k :: r, s => (settleS_order r _).trans (settle1_order s k)
theorem settle1_same (s : St) (k : Int) : (settle1 s k).on = s.on ∧ (settle1 s k).ops = s.ops ∧ (settle1 s k).keep = s.keep ∧ (settle1 s k).torn = s.torn := by unfold settle1; split <;> exact ⟨rfl, rfl, rfl, rfl⟩
theorem settleS_same : ∀ (l : List Int) (s : St), (settleS s l).on = s.on ∧ (settleS s l).ops = s.ops ∧ (settleS s l).keep = s.keep ∧ (settleS s l).torn = s.torn
  | [], _ => ⟨rfl, rfl, rfl, rfl⟩
  | k :: r, s => by
    obtain ⟨a, b, c, d⟩ := settleS_same r (settle1 s k)
    obtain ⟨a', b', c', d'⟩ := settle1_same s k
    exact ⟨a.trans a', b.trans b', c.trans c', d.trans d'⟩
/-- A sector stored. -/
theorem OwnS.store {w w' : World} {S n cap : Nat} {l : List UInt8} (h : OwnS w S n cap l) (k : Nat) (hk : k < n) (y : List UInt8) (hy : y.length ≤ 32) (hw : w' = w.setCells S (k * 32) (By y)) : OwnS w' S n cap (spl l (32 * k) y) := by
  obtain ⟨cur, hb, ht, hl, h1, h2⟩ := h.blk
  have hll := h.len
  subst hw
  have hov := Blk.over (By y) hb (k * 32) (by rw [By_length]; omega)
  refine OwnS.of_blk hov ?_ (by rw [spl_length (by omega)]; exact hll) (by rw [over_length (by rw [By_length]; omega)]; exact hl) h1 h2
  have e : (over cur (k * 32) (By y)).take (n * 32) = over (cur.take (n * 32)) (k * 32) (By y) := by
    unfold over
    rw [By_length, List.take_append, List.take_append, List.take_take, List.length_append, List.length_take, By_length, List.take_drop]
    rw [show min (n * 32) (k * 32) = k * 32 by omega, List.take_take, show min (k * 32) (n * 32) = k * 32 by omega, show min (k * 32) cur.length = k * 32 by omega]
    rw [List.take_of_length_le (l := By y) (by rw [By_length]; omega)]
    congr 2
    congr 1
    omega
  rw [e, ht, By_over, Nat.mul_comm]

set_option maxHeartbeats 2000000 in
set_option maxRecDepth 100000 in
theorem settle_any {w : World} {D S M n cap N : Nat} {vo vk : Value} {s : St} (h : At w D S M n cap N vo vk s) (hW : Wf n N s) (v : Value) (l : List Int) (hr : RdN w v l) (hl : ∀ k ∈ l, (Lit.int .i64 k).wf = true)
    (hvb : ∀ c, InB v c → c ≠ S ∧ c ≠ M) (hvk : ∀ c, InB vk c → c ≠ S ∧ c ≠ M) (hvo : ∀ c, vo.ownBlock = some c → c ≠ S ∧ c ≠ M) :
    Calls Tryd.prog 41 #[.pointer (some ⟨D, 0, none⟩), v] w fun e w' => e = .returned (.tuple #[]) ∧ ∃ N', At w' D S M n cap N' vo vk (settleS s l) ∧ Wf n N' (settleS s l) ∧ Chg (fun c => c = S ∨ c = M) w w' := by
  have HA : Hid (At w D S M n cap N vo vk s) := h
  have HW : Hid (Wf n N s) := hW
  have HR : Hid (RdN w v l) := hr
  have HL : Hid (∀ k ∈ l, (Lit.int .i64 k).wf = true) := hl
  have HVB : Hid (∀ c, InB v c → c ≠ S ∧ c ≠ M) := hvb
  have HVK : Hid (∀ c, InB vk c → c ≠ S ∧ c ≠ M) := hvk
  have HVO : Hid (∀ c, vo.ownBlock = some c → c ≠ S ∧ c ≠ M) := hvo
  have hn := h.max
  clear h hW hl hvb hvk hvo
  obtain ⟨a, cp, rfl, h1, h2, h3, h4⟩ := hr
  clear h4 h3
  have hz := zeroS
  obtain ⟨Z, HZ⟩ : ∃ Z, Hid (By Zs = Z) := ⟨_, rfl⟩
  rw [HZ.out] at hz
  have hzl : Z.length = 32 := by rw [← HZ.out]; rfl
  have hlm : l.length ≤ 9223372036854775807 := by unfold maxLen at h2; omega
  go_enter Tryd.func41, Tryd.ntmps41
  go_wp2_with fail
  go_loopg [10] l.length (fun g x wr => ∃ i : Nat, g + i = l.length ∧ x = .int .i64 (i : Int) ∧ ∃ Nr, Hid (At wr D S M n cap Nr vo vk (settleS s (l.take i))) ∧ Hid (Wf n Nr (settleS s (l.take i))) ∧ Hid (Chg (fun c => c = S ∨ c = M) w wr))
  case atStart => exact ⟨0, by omega, rfl, N, HA, HW, Chg.refl _ _⟩
  case round =>
    obtain ⟨i, hgi, rfl, Nr, AR, WR, UR⟩ := hrel
    by_cases hlt : i < l.length
    · have q1 : (i : Int) < (l.length : Int) := by omega
      obtain ⟨q, HQ⟩ : ∃ q, Hid (l[i] = q) := ⟨l[i], (show l[i] = l[i] from rfl)⟩
      have hqw : (Lit.int .i64 q).wf = true := by rw [← HQ.out]; exact HL.out _ (List.getElem_mem hlt)
      have RR := HR.out.chg UR.out (fun c hc e => e.elim (HVB.out c hc).1 (HVB.out c hc).2)
      obtain ⟨a', cp', e', _, _, _, h4⟩ := RR
      simp only [Value.slice.injEq] at e'
      obtain ⟨rfl, -, rfl⟩ := e'
      obtain ⟨b, off, rfl, hlb, hc⟩ := h4 (by omega)
      have cq := hc i hlt
      rw [HQ.out] at cq
      clear hc h4
      have HST : Hid (settleS s (l.take (i + 1)) = settle1 (settleS s (l.take i)) q) := (show _ = _ by rw [settleS_take s l i hlt, HQ.out])
      obtain ⟨sr, HSR⟩ : ∃ sr, Hid (settleS s (l.take i) = sr) := ⟨_, rfl⟩
      rw [HSR.out] at AR WR HST
      have c1 := AR.out.d.cell (j := 1) rfl
      have c2 := AR.out.d.cell (j := 2) rfl
      obtain ⟨x, hx, hfx, hlk⟩ := AR.out.mp.look q hqw
      have X1 : Hid (∀ u ∈ By x, u.oneCell' = true) := By_one x
      have HXl : (By x).length = 32 := by rw [By_length, hx]
      obtain ⟨XX, HXX⟩ : ∃ X, Hid (By x = X) := ⟨_, rfl⟩
      rw [HXX.out] at hlk X1 HXl
      obtain ⟨E, HE⟩ : ∃ C, Hid (wr.heap.size = C) := ⟨_, rfl⟩
      go_upto_region 4 with (first
        | (refine wpList_store_new rfl 88 _ _ rfl wr _ _ _ rfl rfl rfl (by simpa [HXl] using Tryd.size88) (by simp [hzl, HXl]) (all_one X1.out) ?_)
        | fail)
      rw [HE.out]
      obtain ⟨w4, hw4⟩ : ∃ x, x = wr.alloc (.cells XX.toArray 88 (0, 0)) := ⟨_, rfl⟩
      rw [← hw4]
      have L4 : Hid (Below E wr w4) := (show Below _ _ _ by rw [hw4]; exact (Below.refl _ _).alloc (by rw [HE.out]; exact Nat.le_refl _) _)
      have A4 : Hid (At w4 D S M n cap Nr vo vk sr) := AR.out.kept (by rw [HE.out]; exact L4.out)
      have U4 : Hid (Chg (fun c => c = S ∨ c = M) w w4) := UR.out.trans (Chg.of_below (by rw [HE.out]; exact L4.out))
      have Y4 : Hid (Blk w4 E 88 XX) := (show Blk _ _ _ _ by rw [hw4, ← HE.out]; exact Blk.new wr 88 XX)
      have HES : Hid (E ≠ S ∧ E ≠ M ∧ E ≠ D) := (show _ from ⟨fun e => by have := AR.out.sf.lt; rw [HE.out] at this; omega, fun e => by have := AR.out.mp.lt; rw [HE.out] at this; omega, fun e => by have := AR.out.d.lt; rw [HE.out] at this; omega⟩)
      clear hw4 hlk c1 c2 cq AR
      cases hf : sr.f q with
      | some y =>
        obtain rfl := hfx y hf
        simp only [Option.isSome_some]
        clear hfx
        obtain ⟨j, hj, HJ⟩ : ∃ j : Nat, j < n ∧ Hid (q = (j : Int)) := by
          obtain ⟨j, hj, e⟩ := WR.out.keys q (by rw [hf]; rfl)
          exact ⟨j, WR.out.low j hj, e⟩
        have q2 : q < (n : Int) := by have := HJ.out; omega
        have q3 : 0 ≤ q := by have := HJ.out; omega
        go_upto_region 5 with fail
        have c1 := A4.out.d.drew.cell (j := 1) rfl
        have r4 := Y4.out.drew.range0
        refine wp_region_still_tail 7 Tryd.mixed (by kernel_rfl) ?_
        simp only [List.take_succ_cons, List.take_zero, List.drop_succ_cons, List.drop_zero]
        iterate 5 still_step
        refine wpStill_load_mid rfl 88 _ rfl E 0 rfl XX _ r4 Tryd.underlying88 rfl (by rw [HXl]; exact Tryd.size88) ?_
        still_step
        refine wpStill_nil ?_
        obtain ⟨jt, HJT⟩ : ∃ jt, Hid (q.toNat = jt) := ⟨_, rfl⟩
        have hjt : jt = j := by rw [← HJT.out, HJ.out]; simp
        subst hjt
        rw [HJT.out]
        obtain ⟨cur, hcur, hct, hcl, hnc, hcm⟩ := A4.out.sf.blk
        have t4 := hcur.drew.there (jt * 32) 32 (by omega)
        clear hcur hct hcl hcm
        refine wpList_store_mid rfl 88 _ _ rfl S (jt * 32) _ rfl rfl (by simpa [HXl] using t4) (by simpa [HXl] using Tryd.size88) (all_one X1.out) ?_
        obtain ⟨w5, hw5⟩ : ∃ x, x = w4.drew.setCells S (jt * 32) XX := ⟨_, rfl⟩
        have hw5' : ({ heap := w4.heap, tape := w4.tape, drawn := w4.drawn + 1, os := w4.os, output := w4.output } : World).setCells S (jt * 32) XX.toArray.toList = w5 := hw5.symm
        rw [hw5']
        have UA : Hid (Chg (fun c => c = S) w4 w5) := (show Chg _ _ _ by rw [hw5]; exact (Chg.drew _ _).trans (Chg.setCells (F := fun c => c = S) _ rfl _ _))
        have A5 : Hid (At w5 D S M n cap Nr vo vk { sr with safe := spl sr.safe (32 * jt) y }) := (show At _ _ _ _ _ _ _ _ _ _ by
          have hA := A4.out
          refine ⟨hA.d.chg UA.out hA.DS, ?_, hA.mp.chg UA.out (fun e => hA.SM e.symm), hA.od.chg UA.out (fun c hc e => (HVO.out c hc).1 e), hA.kp.chg UA.out (fun c hc e => (HVK.out c hc).1 e), hA.kw, hA.pos, hA.max⟩
          exact hA.drew.sf.store jt hj y (by omega) (by rw [HXX.out]; exact hw5))
        have U5 : Hid (Chg (fun c => c = S ∨ c = M) w w5) := U4.out.trans (UA.out.mono (fun _ _ e => .inl e))
        clear hw5 hw5' UA t4 c1 r4 A4 U4 Y4
        have c2 := A5.out.d.cell (j := 2) rfl
        go_wp2_with (first
          | (at_delete; refine wpList_mapdel rfl _ _ rfl M Nr sr.f rfl A5.out.mp q hqw rfl ?_; intro w6 m6 t6; have M6 : Hid _ := m6; have T6 : Hid _ := t6; clear m6 t6)
          | fail)
        go_roundg (gk - 1)
        case measure => omega
        case rel =>
          have hT : Chg (fun c => c = M) w5 w6 := Chg.turned T6.out rfl
          have hA := A5.out
          have e1 : settle1 sr q = { sr with f := del sr.f q, safe := spl sr.safe (32 * q.toNat) y } := by unfold settle1; rw [hf]
          refine ⟨i + 1, by omega, by go_num, (if (sr.f q).isSome then Nr - 1 else Nr), ?_, ?_, U5.out.trans (hT.mono (fun _ _ e => .inr e))⟩
          · show At _ _ _ _ _ _ _ _ _ _
            rw [HST.out, e1, HJT.out]
            exact ⟨hA.d.chg hT hA.DM, hA.sf.chg hT hA.SM, M6.out, hA.od.chg hT (fun c hc e => (HVO.out c hc).2 e), hA.kp.chg hT (fun c hc e => (HVK.out c hc).2 e), hA.kw, hA.pos, hA.max⟩
          · show Wf _ _ _
            rw [HST.out, e1]
            exact WR.out.del q (spl sr.safe (32 * q.toNat) y)
      | none =>
        simp only [Option.isSome_none]
        go_wp2_with fail
        go_roundg (gk - 1)
        case measure => omega
        case rel =>
          have e1 : settle1 sr q = sr := by unfold settle1; rw [hf]
          refine ⟨i + 1, by omega, by go_num, Nr, ?_, ?_, U4⟩
          · rw [HST.out, e1]; exact A4
          · rw [HST.out, e1]; exact WR
    · obtain rfl : i = l.length := by omega
      rw [List.take_length] at AR WR
      go_wp2_with fail
      go_end0
      exact ⟨rfl, Nr, AR.out, WR.out, UR.out⟩
end Go.Proofs.YtgdhjgfoalianaaDoor
