/-
  Pairs in rows and in a map; a Buffer in memory.
-/
import Derived.Test.YtmicmbjbclkbjaaBfK
import Derived.Test.YtmicmbjbclkbjaaBfP
import Derived.Maps.OwnSet
namespace Go.Proofs.Ytmicmbjbclkbjaa
open Go.RowKit
theorem Chg.turned {F : Nat → Prop} {w w' : World} {b : Nat} (h : w.mapTurned w' b) (hb : F b) : Chg F w w' := Chg.of_grown h.grown (fun k e _ => by cases e; exact hb)
theorem ownsMap_tight {w : World} {P : Program} {k : TypeId} {R : Value → Option (DataW Unit × List MemPlace)} {b n : Nat} {D : DataW Unit} (h : w.ownsMap P k R b n D) : w.ownsMap P k R b (Maps.size D) D := by
  obtain ⟨es, clock, hb, F, _, rfl⟩ := h
  exact ⟨es, clock, hb, F, by simp [Maps.size, length_sorted], rfl⟩

/-- The cells of a pair. -/
def PC (p : Pr) : List Value := [.string p.1, .string p.2.1, .bool p.2.2]
theorem PC_one (p : Pr) : ∀ u ∈ PC p, u.oneCell' = true := by
  intro u hu
  simp only [PC, List.mem_cons, List.not_mem_nil, or_false] at hu
  rcases hu with rfl | rfl | rfl <;> rfl
def PE : Enc Pr := ⟨PC, 3, fun _ => rfl, PC_one⟩
theorem Try.info9 : (Try.prog.info? 9).map (fun i => (i.zero, i.size, i.bytes)) = some (some (.string ⟨#[]⟩), 1, 16) := by kernel_rfl
theorem Try.size9 : (Try.prog.info? 9).map (·.size) = some 1 := by kernel_rfl
theorem Try.info41 : (Try.prog.info? 41).map (fun i => (i.zero, i.size, i.bytes)) = some (some (.agg #[.string ⟨#[]⟩, .string ⟨#[]⟩, .bool false]), 3, 40) := by kernel_rfl
theorem Try.size41 : (Try.prog.info? 41).map (·.size) = some 3 := by kernel_rfl
theorem Zpair : ∀ W : World, (zeroValue 41).run Try.prog W = .ok (.agg #[.string ⟨#[]⟩, .string ⟨#[]⟩, .bool false]) W := fun W => by kernel_rfl
theorem keyed9 : Go.Maps.Keyed Try.prog 9 := Go.Maps.string_keyed Try.underlying9
def kS (k : ByteArray) : Lit := .string k.data.toList
theorem kS_ne {a b : ByteArray} (h : a ≠ b) : kS a ≠ kS b := fun e => h (by
  simp only [kS, Lit.string.injEq] at e
  obtain ⟨⟨x⟩⟩ := a
  obtain ⟨⟨y⟩⟩ := b
  simp at e
  rw [e])
theorem kS_key (k : ByteArray) : WideAt.IsKeyLit (kS k) := by simp [WideAt.IsKeyLit, kS]
theorem kS_same (a b : ByteArray) : (kS a).sameKey (kS b) = decide (a = b) := by
  rw [Bool.eq_iff_iff, WideAt.sameKey_iff (kS_key b), decide_eq_true_eq]
  exact ⟨fun h => Classical.byContradiction fun hn => kS_ne hn h, fun h => by rw [h]⟩
theorem key9_inv {key : Value} {kl : Lit} (h : keyOf Try.prog 9 key = some kl) : ∃ k : ByteArray, key = .string k ∧ kl = kS k := by
  have hk := Try.underlying9
  cases key <;> simp [keyOf, hk, mapKey] at h
  obtain ⟨h1, h2⟩ := h
  exact ⟨_, rfl, h2.symm⟩
theorem gt_lt (a b : ByteArray) : (!(Op.bytesLess a.toList b.toList || a.toList == b.toList)) = lt b a := by
  show (!(lt a b || a.toList == b.toList)) = lt b a
  cases h : lt b a with
  | true =>
    have h1 := lt_asymm h
    have h2 : (a.toList == b.toList) = false := by
      rw [beq_eq_false_iff_ne]
      intro e
      rw [ba_inj.1 e, lt_irrefl] at h
      cases h
    rw [h1, h2]
    rfl
  | false =>
    cases h1 : lt a b with
    | true => rfl
    | false => rw [lt_total h h1]; simp
theorem sgt (t : TypeId) (a b : ByteArray) : binOp .gtr t (.string a) (.string b) = pure (.bool (lt b a)) := by
  rw [← gt_lt]
  simp [binOp, Op.stringOp]
theorem sge (t : TypeId) (a b : ByteArray) : binOp .geq t (.string a) (.string b) = pure (.bool (!lt a b)) := by
  simp [binOp, Op.stringOp, lt]
theorem slt (t : TypeId) (a b : ByteArray) : binOp .lss t (.string a) (.string b) = pure (.bool (lt a b)) := by
  simp [binOp, Op.stringOp, lt]
theorem sle (t : TypeId) (a b : ByteArray) : binOp .leq t (.string a) (.string b) = pure (.bool (!lt b a)) := by
  rw [← gt_lt]
  simp [binOp, Op.stringOp]
theorem wr64 {x : Int} (h0 : -9223372036854775808 ≤ x) (h1 : x ≤ 9223372036854775807) : IntKind.i64.wrap x = x := by
  rw [IntKind.wrap_i64]
  omega
/-- A pair without anything. -/
def zp : Pr := (em, em, false)
theorem zeroP (W : World) : (zeroValue 41).run Try.prog W = .ok (.agg (PC zp).toArray) W := by kernel_rfl
theorem infoP9 : ∃ i z, Try.prog.info? 41 = some i ∧ i.zero = some z ∧ i.size = PE.n ∧ i.bytes = 40 ∧ z.cells.size = PE.n := by
  obtain ⟨i, h1, h2, h3, h4⟩ := info_parts Try.info41
  exact ⟨i, _, h1, h2, h3, h4, rfl⟩
/-- How a pair in a map is told. -/
def encP (p : Pr) : DataW Unit := .agg [.lit (.string p.1.data.toList), .lit (.string p.2.1.data.toList), .lit (.bool p.2.2)]
def prE : Value → Option (DataW Unit × List MemPlace)
  | .agg ⟨[.string a, .string b, .bool c]⟩ => some (encP (a, b, c), [])
  | _ => none
theorem prE_mk (p : Pr) : prE (.agg (PC p).toArray) = some (encP p, []) := rfl
theorem prE_inv {v : Value} {z : DataW Unit × List MemPlace} (h : prE v = some z) : ∃ p : Pr, v = .agg (PC p).toArray ∧ z = (encP p, []) := by
  unfold prE at h
  split at h
  · cases h
    exact ⟨(_, _, _), rfl, rfl⟩
  · cases h
theorem ba_data {a b : ByteArray} (h : a.data.toList = b.data.toList) : a = b := by
  obtain ⟨⟨x⟩⟩ := a
  obtain ⟨⟨y⟩⟩ := b
  simp at h
  rw [h]
theorem encP_inj {p q : Pr} (h : encP p = encP q) : p = q := by
  obtain ⟨a, b, c⟩ := p
  obtain ⟨a', b', c'⟩ := q
  simp [encP] at h
  obtain ⟨h1, h2, h3⟩ := h
  have e1 : a = a' := ba_data (by simp [h1])
  have e2 : b = b' := ba_data (by simp [h2])
  rw [e1, e2, h3]
/-- Block M is a map of the pairs L by their keys. -/
def MapP (w : World) (M : Nat) (L : List Pr) : Prop :=
  ∃ D : DataW Unit, w.ownsMap Try.prog 9 prE M L.length D ∧ Maps.size D = L.length ∧ (∀ k, Maps.has D (kS k) = (getB L k).isSome) ∧ (∀ k p, getB L k = some p → ∀ zd, D.atKey (kS k) zd = encP p)
theorem MapP.chg {w w' : World} {M : Nat} {L : List Pr} (h : MapP w M L) {F : Nat → Prop} (hc : Chg F w w') (hF : ¬ F M) : MapP w' M L := by
  obtain ⟨D, ⟨es, clock, hb, r⟩, h2⟩ := h
  exact ⟨D, ⟨es, clock, (hc.block M (Array.getElem?_eq_some_iff.1 hb).1 hF).trans hb, r⟩, h2⟩
theorem MapP.block {w : World} {M : Nat} {L : List Pr} (h : MapP w M L) : ∃ es clock, w.heap[M]? = some (.map es clock) := by
  obtain ⟨D, ⟨es, clock, hb, r⟩, h2⟩ := h
  exact ⟨es, clock, hb⟩
theorem MapP.lt {w : World} {M : Nat} {L : List Pr} (h : MapP w M L) : M < w.heap.size := by
  obtain ⟨es, clock, hb⟩ := h.block
  exact (Array.getElem?_eq_some_iff.1 hb).1
theorem MapP_made (w : World) : MapP (w.alloc (.map #[] 0)) w.heap.size [] :=
  ⟨.map [], World.ownsMap_made w _ _ _, rfl, fun _ => rfl, fun _ _ h => by simp [getB] at h⟩
theorem results_pair {P : Program} {fn : Func} {p u : Tmp} {ty : TypeId} (h : fn.results = #[.cell p ty, .tmp u]) (tmps : Array Value) (w : World) (g : Nat) (v : Pr) (b : Bool) (T : TypeId) (d : TypeDesc) (hp : tmps.getD p undef = .pointer (some ⟨g, 0, none⟩)) (hb : tmps.getD u undef = .bool b) (hB : Blk w g T (PC v))
    (hu : P.underlying ty = some d) (hd : d.isRow = true) (hi : (P.info? ty).map (·.size) = some 3) : (results fn tmps).run P w = .ok (.tuple #[.agg (PC v).toArray, .bool b]) w := by
  rw [results_cell_tmp h, hp, hb]
  have := run_loadVar_mid (P := P) w g 0 ty (PC v) d hB.range0 hu hd hi
  simp [asAddr, this]
/-- A new variable of a pair. -/
theorem room_pair {w w0 : World} {N : Nat} (HN : Hid (w.heap.size = N)) (hw : w0 = w.alloc (.cells #[.string ⟨#[]⟩, .string ⟨#[]⟩, .bool false] 41 (0, 0))) :
    Blk w0 N 41 (PC zp) ∧ Below w.heap.size w w0 := by
  subst hw
  refine ⟨?_, (Below.refl _ _).alloc (Nat.le_refl _) _⟩
  rw [← HN.out]
  exact Blk.new w 41 (PC zp)
theorem Blk.key {w : World} {b : Nat} {T : TypeId} {p : Pr} (h : Blk w b T (PC p)) : w.cell? ⟨b, 0, none⟩ = some (.string p.1) := h.cell (j := 0) rfl
theorem Blk.val {w : World} {b : Nat} {T : TypeId} {p : Pr} (h : Blk w b T (PC p)) : w.cell? ⟨b, 1, none⟩ = some (.string p.2.1) := h.cell (j := 1) rfl
theorem Blk.dead {w : World} {b : Nat} {T : TypeId} {p : Pr} (h : Blk w b T (PC p)) : w.cell? ⟨b, 2, none⟩ = some (.bool p.2.2) := h.cell (j := 2) rfl
abbrev PT (b : Nat) : Value := .pointer (some ⟨b, 0, none⟩)
end Go.Proofs.Ytmicmbjbclkbjaa
