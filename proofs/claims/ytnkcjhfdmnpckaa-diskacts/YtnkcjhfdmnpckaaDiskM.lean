/-
  Notions for package disk: what may change, numbers in a row, sectors in a map.
-/
import Derived.Test.YtnkcjhfdmnpckaaPuts
import Derived.Maps.OwnSet
namespace Go.Proofs.Ytnkcjhfdmnpckaa
open Go.RowKit

/-- w' is w but for blocks of F; new blocks may be there. -/
structure Chg (F : Nat → Prop) (w w' : World) : Prop where
  os : w'.os = w.os
  tape : w'.tape = w.tape
  output : w'.output = w.output
  size : w.heap.size ≤ w'.heap.size
  block : ∀ k, k < w.heap.size → ¬ F k → w'.heap[k]? = w.heap[k]?
theorem Chg.refl (F : Nat → Prop) (w : World) : Chg F w w := ⟨rfl, rfl, rfl, Nat.le_refl _, fun _ _ _ => rfl⟩
theorem Chg.trans {F : Nat → Prop} {x y z : World} (h : Chg F x y) (k : Chg F y z) : Chg F x z :=
  ⟨k.os.trans h.os, k.tape.trans h.tape, k.output.trans h.output, Nat.le_trans h.size k.size, fun i hi hn => (k.block i (Nat.lt_of_lt_of_le hi h.size) hn).trans (h.block i hi hn)⟩
/-- .. where what may change behind is new, or may change ahead. -/
theorem Chg.then {F G : Nat → Prop} {x y z : World} (h : Chg F x y) (k : Chg G y z) (hG : ∀ i, i < x.heap.size → G i → F i) : Chg F x z :=
  ⟨k.os.trans h.os, k.tape.trans h.tape, k.output.trans h.output, Nat.le_trans h.size k.size, fun i hi hn => (k.block i (Nat.lt_of_lt_of_le hi h.size) (fun g => hn (hG i hi g))).trans (h.block i hi hn)⟩
theorem Chg.mono {F G : Nat → Prop} {w w' : World} (h : Chg F w w') (hF : ∀ i, i < w.heap.size → F i → G i) : Chg G w w' :=
  ⟨h.os, h.tape, h.output, h.size, fun i hi hn => h.block i hi (fun f => hn (hF i hi f))⟩
theorem Chg.of_below {F : Nat → Prop} {w w' : World} (h : Below w.heap.size w w') : Chg F w w' := ⟨h.os, h.tape, h.output, h.size, fun k hk _ => h.block k hk⟩
theorem Chg.of_but {F : Nat → Prop} {b : Nat} {w w' : World} (h : But b w w') (hb : F b) : Chg F w w' :=
  ⟨h.os, h.tape, h.output, h.size, fun k hk hn => h.block k hk (fun e => hn (e ▸ hb))⟩
theorem Chg.of_grown {F : Nat → Prop} {r : Option Nat} {w w' : World} (h : w.grownBy w' r) (hr : ∀ k, r = some k → k < w.heap.size → F k) : Chg F w w' :=
  ⟨h.os, h.tape, h.output, h.size, fun k hk hn => h.block k hk (fun e => hn (hr k e.symm hk))⟩
theorem Chg.below {F : Nat → Prop} {w w' : World} (h : Chg F w w') {B : Nat} (hB : B ≤ w.heap.size) (hF : ∀ k, k < B → ¬ F k) : Below B w w' :=
  ⟨h.os, h.tape, h.output, h.size, fun k hk => h.block k (by omega) (hF k hk)⟩
theorem Chg.drew (F : Nat → Prop) (w : World) : Chg F w w.drew := ⟨rfl, rfl, rfl, Nat.le_refl _, fun _ _ _ => rfl⟩
theorem Chg.alloc (F : Nat → Prop) (w : World) (o : Obj) : Chg F w (w.alloc o) := ⟨rfl, rfl, rfl, by simp, fun k hk _ => Below.heap_alloc _ _ _ hk⟩
theorem Chg.setCell {F : Nat → Prop} (w : World) {b : Nat} (hb : F b) (j : Nat) (v : Value) : Chg F w (w.setCell ⟨b, j, none⟩ v) := Chg.of_but (But.setCell b w j v) hb
theorem Chg.setCells {F : Nat → Prop} (w : World) {b : Nat} (hb : F b) (j : Nat) (ds : List Value) : Chg F w (w.setCells b j ds) := Chg.of_but (But.setCells b ds j w) hb
theorem Chg.turned {F : Nat → Prop} {w w' : World} {b : Nat} (h : w.mapTurned w' b) (hb : F b) : Chg F w w' := Chg.of_grown h.grown (fun k e _ => by cases e; exact hb)
theorem Blk.chg {w w' : World} {b : Nat} {T : TypeId} {cs : List Value} (h : Blk w b T cs) {F : Nat → Prop} (hb : Chg F w w') (hF : ¬ F b) : Blk w' b T cs := (hb.block b h.lt hF).trans h

/-- Numbers as cells. -/
def Ni (l : List Int) : List Value := l.map fun n => Value.int .i64 n
theorem Ni_length (l : List Int) : (Ni l).length = l.length := by simp [Ni]
theorem Ni_append (l m : List Int) : Ni (l ++ m) = Ni l ++ Ni m := by simp [Ni]
theorem Ni_one (l : List Int) : ∀ u ∈ Ni l, u.oneCell' = true := by
  intro u hu
  obtain ⟨_, _, rfl⟩ := List.mem_map.1 hu
  rfl
theorem Ni_get {l : List Int} {j : Nat} (h : j < l.length) : (Ni l)[j]? = some (.int .i64 l[j]) := by simp [Ni, h]
/-- The slice v reads as the numbers l. -/
def RdN (w : World) (v : Value) (l : List Int) : Prop :=
  ∃ a cap, v = .slice a l.length cap ∧ l.length ≤ cap ∧ cap ≤ maxLen ∧ (a = none → cap = 0) ∧
    (0 < l.length → ∃ b off, a = some ⟨b, off, none⟩ ∧ b < w.heap.size ∧ ∀ j (h : j < l.length), w.cell? ⟨b, off + j, none⟩ = some (.int .i64 l[j]))
theorem RdN_nil (w : World) : RdN w (.slice none 0 0) [] := ⟨none, 0, rfl, by simp, by simp, fun _ => rfl, fun h => by simp at h⟩
/-- The slice lies in block b. -/
def InB (v : Value) (b : Nat) : Prop := ∃ off n cap, v = .slice (some ⟨b, off, none⟩) n cap ∧ 0 < n
theorem RdN.chg {w w' : World} {v : Value} {l : List Int} {F : Nat → Prop} (h : RdN w v l) (hc : Chg F w w') (hF : ∀ b, InB v b → ¬ F b) : RdN w' v l := by
  obtain ⟨a, cap, rfl, h1, h2, h3, h4⟩ := h
  refine ⟨a, cap, rfl, h1, h2, h3, fun hl => ?_⟩
  obtain ⟨b, off, rfl, hlt, hcell⟩ := h4 hl
  refine ⟨b, off, rfl, Nat.lt_of_lt_of_le hlt hc.size, fun j hj => ?_⟩
  rw [← hcell j hj]
  simp only [World.cell?]
  rw [hc.block b hlt (hF b ⟨off, _, _, rfl, hl⟩)]
theorem RdN.kept {w w' : World} {v : Value} {l : List Int} (h : RdN w v l) (hb : Below w.heap.size w w') : RdN w' v l :=
  h.chg (F := fun _ => False) (Chg.of_below hb) (fun _ _ => id)
theorem Rd.chg {w w' : World} {v : Value} {l : List UInt8} {F : Nat → Prop} (h : Rd w v l) (hc : Chg F w w') (hF : ∀ b, InB v b → ¬ F b) : Rd w' v l := by
  obtain ⟨a, cap, rfl, h1, h2, h3, h4⟩ := h
  refine ⟨a, cap, rfl, h1, h2, h3, fun hl => ?_⟩
  obtain ⟨b, off, rfl, hlt, hcell⟩ := h4 hl
  refine ⟨b, off, rfl, Nat.lt_of_lt_of_le hlt hc.size, fun j u hj => ?_⟩
  rw [← hcell j u hj]
  simp only [World.cell?]
  rw [hc.block b hlt (hF b ⟨off, _, _, rfl, hl⟩)]
theorem RdN.inB_lt {w : World} {v : Value} {l : List Int} (h : RdN w v l) {b : Nat} (hb : InB v b) : b < w.heap.size := by
  obtain ⟨a, cap, rfl, h1, h2, h3, h4⟩ := h
  obtain ⟨off, n, cap', e, hn⟩ := hb
  simp only [Value.slice.injEq] at e
  obtain ⟨rfl, rfl, rfl⟩ := e
  obtain ⟨b', off', e, hlt, _⟩ := h4 hn
  simp only [Option.some.injEq, Addr.mk.injEq, and_true] at e
  obtain ⟨rfl, rfl⟩ := e
  exact hlt
theorem Rd.inB_lt {w : World} {v : Value} {l : List UInt8} (h : Rd w v l) {b : Nat} (hb : InB v b) : b < w.heap.size := by
  obtain ⟨a, cap, rfl, h1, h2, h3, h4⟩ := h
  obtain ⟨off, n, cap', e, hn⟩ := hb
  simp only [Value.slice.injEq] at e
  obtain ⟨rfl, rfl, rfl⟩ := e
  obtain ⟨b', off', e, hlt, _⟩ := h4 hn
  simp only [Option.some.injEq, Addr.mk.injEq, and_true] at e
  obtain ⟨rfl, rfl⟩ := e
  exact hlt
/-- The row of numbers that the slice v owns. -/
def OwnN (w : World) (v : Value) (l : List Int) : Prop := w.ownsRow 0 3 1 v l.length (Ni l)
theorem OwnN.rd {w : World} {v : Value} {l : List Int} (h : OwnN w v l) : RdN w v l := by
  have hc := h
  obtain ⟨h1, h2⟩ := h
  rcases h2 with ⟨rfl, hn⟩ | ⟨g, cap, cur, rfl, hg, hh, hnc, hcm, hcs, htk⟩
  · have : l = [] := List.eq_nil_of_length_eq_zero hn
    subst this
    exact RdN_nil w
  · refine ⟨some ⟨g, 0, none⟩, cap, rfl, hnc, hcm, fun h => by simp at h, fun _ => ⟨g, 0, rfl, ?_, fun j hj => ?_⟩⟩
    · exact (Array.getElem?_eq_some_iff.1 hh).1
    · have := World.ownsRow.cells hc (g := g) rfl j _ (Ni_get hj)
      simpa [Addr.add_lit] using this
theorem OwnN.chg {w w' : World} {v : Value} {l : List Int} {F : Nat → Prop} (h : OwnN w v l) (hc : Chg F w w') (hF : ∀ b, v.ownBlock = some b → ¬ F b) : OwnN w' v l := by
  obtain ⟨h1, h2⟩ := h
  refine ⟨h1, ?_⟩
  rcases h2 with h2 | ⟨g, cap, cur, hv, hg, hh, r⟩
  · exact Or.inl h2
  · have hlt : g < w.heap.size := (Array.getElem?_eq_some_iff.1 hh).1
    exact Or.inr ⟨g, cap, cur, hv, hg, by rw [hc.block g hlt (hF g (by rw [hv]; rfl))]; exact hh, r⟩
theorem OwnN.block {w : World} {v : Value} {l : List Int} (h : OwnN w v l) {b : Nat} (hb : v.ownBlock = some b) : ∃ cur, w.heap[b]? = some (.cells cur 3 (0, 0)) := by
  obtain ⟨h1, h2⟩ := h
  rcases h2 with ⟨rfl, _⟩ | ⟨g, cap, cur, rfl, hg, hh, r⟩
  · cases hb
  · cases hb
    exact ⟨cur, hh⟩
theorem OwnN_nil (w : World) : OwnN w (.slice none 0 0) [] := ⟨rfl, .inl ⟨rfl, rfl⟩⟩

/-- A byte's cell. -/
def isB : Value → Bool
  | .int .u8 n => decide (0 ≤ n) && decide (n < 256)
  | _ => false
def unb : Value → UInt8
  | .int .u8 n => UInt8.ofNat n.toNat
  | _ => 0
/-- How a sector reads. -/
def secElem : Value → Option (DataW Unit × List MemPlace)
  | .agg cs => if cs.toList.all isB && cs.size == 32 then some (.lit (.string (cs.toList.map unb)), []) else none
  | _ => none
theorem unb_By (l : List UInt8) : (By l).map unb = l := by
  induction l with
  | nil => rfl
  | cons x r ih =>
    show unb (.int .u8 (x.toNat : Int)) :: (By r).map unb = _
    rw [ih]
    simp [unb]
theorem isB_By (l : List UInt8) : (By l).all isB = true := by
  rw [List.all_eq_true]
  intro v hv
  obtain ⟨x, _, rfl⟩ := List.mem_map.1 hv
  have := x.toNat_lt
  simp [isB]
  omega
theorem By_unb : ∀ (cs : List Value), cs.all isB = true → By (cs.map unb) = cs
  | [], _ => rfl
  | v :: r, h => by
    rw [List.all_cons, Bool.and_eq_true] at h
    show Value.int .u8 ((unb v).toNat : Int) :: By (r.map unb) = v :: r
    rw [By_unb r h.2]
    congr 1
    have h1 := h.1
    cases v <;> try (cases h1; done)
    rename_i k n
    cases k <;> try (cases h1; done)
    simp [isB] at h1
    simp [unb]
    omega
theorem secElem_mk {l : List UInt8} (h : l.length = 32) : secElem (.agg (By l).toArray) = some (.lit (.string l), []) := by
  simp only [secElem, isB_By, unb_By]
  simp [By_length, h]
theorem secElem_inv {v : Value} {z : DataW Unit × List MemPlace} (h : secElem v = some z) : ∃ l : List UInt8, l.length = 32 ∧ v = .agg (By l).toArray ∧ z = (.lit (.string l), []) := by
  cases v <;> try (cases h; done)
  rename_i cs
  simp only [secElem] at h
  split at h
  · rename_i hc
    rw [Bool.and_eq_true] at hc
    cases h
    refine ⟨cs.toList.map unb, by simpa using hc.2, ?_, rfl⟩
    rw [By_unb _ hc.1]
  · cases h

/-- A sector of noughts. -/
def Zs : List UInt8 := List.replicate 32 0
theorem keyed3 : Go.Maps.Keyed Try.prog 3 := Go.Maps.int_keyed Try.underlying3
theorem zeroS (w : World) : (zeroValue 68).run Try.prog w = .ok (.agg (By Zs).toArray) w := by kernel_rfl
def kI (k : Int) : Lit := .int .i64 k
theorem kI_ne {a b : Int} (h : a ≠ b) : kI a ≠ kI b := fun e => h (by cases e; rfl)
theorem kI_key (k : Int) : WideAt.IsKeyLit (kI k) := by simp [WideAt.IsKeyLit, kI]
/-- Block M is a map of N sectors by their numbers: f. -/
def MapS (w : World) (M : Nat) (f : Int → Option (List UInt8)) (N : Nat) : Prop :=
  ∃ D : DataW Unit, w.ownsMap Try.prog 3 secElem M N D ∧ Maps.size D = N ∧
    (∀ k, Maps.has D (kI k) = (f k).isSome) ∧ (∀ k l, f k = some l → D.atKey (kI k) (.lit (.string Zs)) = .lit (.string l))
/-- f with one more. -/
def put (f : Int → Option (List UInt8)) (k : Int) (l : List UInt8) : Int → Option (List UInt8) := fun j => if j = k then some l else f j
def del (f : Int → Option (List UInt8)) (k : Int) : Int → Option (List UInt8) := fun j => if j = k then none else f j
theorem MapS.chg {w w' : World} {M : Nat} {f : Int → Option (List UInt8)} {N : Nat} (h : MapS w M f N) {F : Nat → Prop} (hc : Chg F w w') (hF : ¬ F M) : MapS w' M f N := by
  obtain ⟨D, ⟨es, clock, hb, r⟩, h2⟩ := h
  exact ⟨D, ⟨es, clock, (hc.block M (Array.getElem?_eq_some_iff.1 hb).1 hF).trans hb, r⟩, h2⟩
theorem MapS.block {w : World} {M : Nat} {f : Int → Option (List UInt8)} {N : Nat} (h : MapS w M f N) : ∃ es clock, w.heap[M]? = some (.map es clock) := by
  obtain ⟨D, ⟨es, clock, hb, r⟩, h2⟩ := h
  exact ⟨es, clock, hb⟩
theorem MapS.lt {w : World} {M : Nat} {f : Int → Option (List UInt8)} {N : Nat} (h : MapS w M f N) : M < w.heap.size := by
  obtain ⟨es, clock, hb⟩ := h.block
  exact (Array.getElem?_eq_some_iff.1 hb).1
theorem MapS_made (w : World) : MapS (w.alloc (.map #[] 0)) w.heap.size (fun _ => none) 0 :=
  ⟨.map [], World.ownsMap_made w _ _ _, rfl, fun _ => rfl, fun _ _ h => by cases h⟩
theorem ownsMap_tight {w : World} {P : Program} {k : TypeId} {R : Value → Option (DataW Unit × List MemPlace)} {b n : Nat} {D : DataW Unit} (h : w.ownsMap P k R b n D) : w.ownsMap P k R b (Maps.size D) D := by
  obtain ⟨es, clock, hb, F, _, rfl⟩ := h
  exact ⟨es, clock, hb, F, by simp [Maps.size, length_sorted], rfl⟩
theorem MapS.copy {w : World} {M : Nat} {f : Int → Option (List UInt8)} {N : Nat} (h : MapS w M f N) {es : Array MapEntry} {clock : Nat} (hb : w.heap[M]? = some (.map es clock)) : MapS (w.alloc (.map es clock)) w.heap.size f N := by
  obtain ⟨D, ⟨es', clock', hb', r⟩, h2⟩ := h
  rw [hb] at hb'
  cases hb'
  exact ⟨D, ⟨es, clock, by show (w.heap.push _)[w.heap.size]? = _; simp, r⟩, h2⟩

/-- v, ok := m[k], of a key that is there. -/
theorem MapS.look {w : World} {M : Nat} {f : Int → Option (List UInt8)} {N : Nat} (h : MapS w M f N) (k : Int) (hk : (Lit.int .i64 k).wf = true) :
    ∃ l : List UInt8, l.length = 32 ∧ (∀ x, f k = some x → x = l) ∧ (Instr.lookup 52 (.map (some M)) (.int .i64 k) true).run Try.prog w = .ok (.tuple #[.agg (By l).toArray, .bool (f k).isSome]) w := by
  obtain ⟨D, h1, h2, h3, h4⟩ := h
  obtain ⟨v, ps, hrun, hv⟩ := h1.look_ok (t := 52) (e := 68) keyed3 Try.underlying52 (zeroS w) (secElem_mk (l := Zs) rfl) (key := .int .i64 k) (kl := kI k) (Go.Maps.keyOf_int_mk Try.underlying3 hk)
  obtain ⟨l, hl, rfl, hz⟩ := secElem_inv hv
  simp only [Prod.mk.injEq] at hz
  refine ⟨l, hl, fun x hx => ?_, ?_⟩
  · have := h4 k x hx
    rw [hz.1] at this
    cases this
    rfl
  · rw [hrun, h3 k]
/-- m[k] = s. -/
theorem MapS.put {w : World} {M : Nat} {f : Int → Option (List UInt8)} {N : Nat} (h : MapS w M f N) (hN : N ≤ 4096) (k : Int) (hk : (Lit.int .i64 k).wf = true) (l : List UInt8) (hl : l.length = 32) :
    ∃ w', (Instr.mapUpdate 52 (.map (some M)) (.int .i64 k) (.agg (By l).toArray)).run Try.prog w = .ok () w' ∧ MapS w' M (Go.Proofs.Ytnkcjhfdmnpckaa.put f k l) (if (f k).isSome then N else N + 1) ∧ w.mapTurned w' M := by
  obtain ⟨D, h1, h2, h3, h4⟩ := h
  obtain ⟨w', hrun, ho, ht⟩ := h1.store (t := 52) (e := 68) keyed3 Try.underlying52 (by unfold maxLen; omega) (key := .int .i64 k) (kl := kI k) (Go.Maps.keyOf_int_mk Try.underlying3 hk) (secElem_mk hl)
  have htd := h1.tidy keyed3
  have hs := Maps.size_put (k := kI k) htd (.lit (.string l))
  refine ⟨w', hrun, ⟨D.put (kI k) (.lit (.string l)), ?_, ?_, fun j => ?_, fun j x hx => ?_⟩, ht⟩
  · have := ownsMap_tight ho
    rw [hs, h3 k, h2] at this
    exact this
  · rw [hs, h3 k, h2]
  · unfold Go.Proofs.Ytnkcjhfdmnpckaa.put
    by_cases e : j = k
    · subst e
      rw [Maps.has_put_same htd.isMap (kI_key _)]
      simp
    · rw [Maps.has_put_other (kI_ne e), h3 j, if_neg e]
  · unfold Go.Proofs.Ytnkcjhfdmnpckaa.put at hx
    by_cases e : j = k
    · subst e
      rw [if_pos rfl] at hx
      cases hx
      exact Maps.atKey_put_same htd.isMap (kI_key _) _ _
    · rw [if_neg e] at hx
      rw [Maps.atKey_put_other (kI_ne e)]
      exact h4 j x hx
/-- delete(m, k). -/
theorem MapS.del {w : World} {M : Nat} {f : Int → Option (List UInt8)} {N : Nat} (h : MapS w M f N) (k : Int) (hk : (Lit.int .i64 k).wf = true) (ty : TypeId) :
    ∃ w', (Builtin.delete_ #[52, 3] ty #[.map (some M), .int .i64 k]).run Try.prog w = .ok (.tuple #[]) w' ∧ MapS w' M (Go.Proofs.Ytnkcjhfdmnpckaa.del f k) (if (f k).isSome then N - 1 else N) ∧ w.mapTurned w' M := by
  obtain ⟨D, h1, h2, h3, h4⟩ := h
  obtain ⟨w', hrun, ho, ht⟩ := h1.drop (t := 52) (e := 68) keyed3 Try.underlying52 (key := .int .i64 k) (kl := kI k) (Go.Maps.keyOf_int_mk Try.underlying3 hk) ty
  have htd := h1.tidy keyed3
  have hs := Maps.size_del (k := kI k) htd
  have hs' : Maps.size (D.del (kI k)) = if (f k).isSome then N - 1 else N := by
    rw [h3 k, h2] at hs
    cases hf : (f k).isSome <;> rw [hf] at hs <;> simp at hs ⊢ <;> omega
  refine ⟨w', hrun, ⟨D.del (kI k), ?_, hs', fun j => ?_, fun j x hx => ?_⟩, ht⟩
  · have := ownsMap_tight ho
    rw [hs'] at this
    exact this
  · unfold Go.Proofs.Ytnkcjhfdmnpckaa.del
    by_cases e : j = k
    · subst e
      rw [Maps.has_del_same]
      simp
    · rw [Maps.has_del_other (kI_ne e), h3 j, if_neg e]
  · unfold Go.Proofs.Ytnkcjhfdmnpckaa.del at hx
    by_cases e : j = k
    · subst e
      rw [if_pos rfl] at hx
      cases hx
    · rw [if_neg e] at hx
      rw [Maps.atKey_del_other (kI_ne e)]
      exact h4 j x hx
end Go.Proofs.Ytnkcjhfdmnpckaa
