/-
  A session's transaction, plain and in memory.
-/
import Derived.Test.YtcicekggeampcaaSeA
namespace Go.Proofs.Ytcicekggeampcaa
open Go.RowKit
/-- A read, plain: whether a range, its key, its end, its pairs. -/
abbrev Rp : Type := Bool × ByteArray × ByteArray × List Pr
/-- Is there a read of that key? -/
def seenK (R : List Rp) (k : ByteArray) : Bool := R.any fun x => !x.1 && (x.2.1.toList == k.toList)
theorem seenK_snoc (R : List Rp) (x : Rp) (k : ByteArray) : seenK (R ++ [x]) k = (seenK R k || (!x.1 && (x.2.1.toList == k.toList))) := by
  simp [seenK]
/-- A transaction. -/
structure Tx where
  snap : Int
  st : Bool
  R : List Rp
  W : List Pr
  ops : Nat
/-- Block M is the set of the keys that were read. -/
def SetS (w : World) (M : Nat) (R : List Rp) : Prop :=
  ∃ (D : DataW Unit) (n : Nat), w.ownsMap Try.prog 9 unitElem M n D ∧ n ≤ R.length ∧ ∀ k : ByteArray, Maps.has D (kS k) = seenK R k
theorem SetS.made (w : World) : SetS (w.alloc (.map #[] 0)) w.heap.size [] := ⟨.map [], 0, World.ownsMap_made w _ _ _, Nat.le_refl _, fun _ => rfl⟩
theorem SetS.chg {w w' : World} {M : Nat} {R : List Rp} (h : SetS w M R) {F : Nat → Prop} (hc : Chg F w w') (hF : ¬ F M) : SetS w' M R := by
  obtain ⟨D, n, ⟨es, clock, hb, r⟩, h2⟩ := h
  exact ⟨D, n, ⟨es, clock, (hc.block M (Array.getElem?_eq_some_iff.1 hb).1 hF).trans hb, r⟩, h2⟩
theorem SetS.block {w : World} {M : Nat} {R : List Rp} (h : SetS w M R) : ∃ es clock, w.heap[M]? = some (.map es clock) := by
  obtain ⟨D, n, ⟨es, clock, hb, r⟩, h2⟩ := h
  exact ⟨es, clock, hb⟩
theorem SetS.lt {w : World} {M : Nat} {R : List Rp} (h : SetS w M R) : M < w.heap.size := by
  obtain ⟨es, clock, hb⟩ := h.block
  exact (Array.getElem?_eq_some_iff.1 hb).1
theorem zeroU (W : World) : (zeroValue 85).run Try.prog W = .ok (.agg #[]) W := by kernel_rfl
theorem SetS.look {w : World} {M : Nat} {R : List Rp} (h : SetS w M R) (k : ByteArray) (hk : k.size ≤ maxLen) :
    (Instr.lookup 82 (.map (some M)) (.string k) true).run Try.prog w = .ok (.tuple #[.agg #[], .bool (seenK R k)]) w := by
  obtain ⟨D, n, h1, h2, h3⟩ := h
  obtain ⟨v, ps, hrun, hv⟩ := h1.look_ok (t := 82) (e := 85) keyed9 Try.underlying82 (zeroU w) unitElem_mk (key := .string k) (kl := kS k) (Go.WideMaps.keyOf_string_mk Try.underlying9 hk)
  obtain ⟨rfl, _⟩ := unitElem_inv hv
  rw [hrun, h3 k]
theorem SetS.put {w : World} {M : Nat} {R : List Rp} (h : SetS w M R) (hN : R.length ≤ 1000000) (k : ByteArray) (hk : k.size ≤ maxLen) (ps : List Pr) :
    ∃ w', (Instr.mapUpdate 82 (.map (some M)) (.string k) (.agg #[])).run Try.prog w = .ok () w' ∧ SetS w' M (R ++ [(false, k, em, ps)]) ∧ w.mapTurned w' M := by
  obtain ⟨D, n, h1, h2, h3⟩ := h
  obtain ⟨w', hrun, ho, ht⟩ := h1.store (t := 82) (e := 85) keyed9 Try.underlying82 (by unfold maxLen; omega) (key := .string k) (kl := kS k) (Go.WideMaps.keyOf_string_mk Try.underlying9 hk) unitElem_mk
  have htd := h1.tidy keyed9
  refine ⟨w', hrun, ⟨D.put (kS k) (.agg []), n + 1, ho, by rw [List.length_append, List.length_singleton]; omega, fun j => ?_⟩, ht⟩
  rw [seenK_snoc]
  by_cases e : k = j
  · subst e
    rw [Maps.has_put_same htd.isMap (kS_key _)]
    simp
  · rw [Maps.has_put_other (kS_ne (fun h => e h.symm)), h3 j]
    have : (k.toList == j.toList) = false := by
      rw [Bool.eq_false_iff]
      intro h9
      rw [beq_iff_eq] at h9
      exact e (ba_inj.1 h9)
    simp [this]
theorem SetS.scan {w : World} {M : Nat} {R : List Rp} (h : SetS w M R) (a b : ByteArray) (ps : List Pr) : SetS w M (R ++ [(true, a, b, ps)]) := by
  obtain ⟨D, n, h1, h2, h3⟩ := h
  exact ⟨D, n, h1, by rw [List.length_append]; omega, fun k => by rw [h3 k, seenK_snoc]; simp⟩
/-- Where a transaction lies: its block, the set of its keys, its buffer and that one's map, the row of its reads. -/
structure Tb where
  T : Nat
  S : Nat
  D : Nat
  M : Nat
  a : Option Addr
  c : Nat
  Q : List Rz
abbrev Tb.v (b : Tb) : Value := .slice b.a b.Q.length b.c
/-- The cells of a transaction. -/
def TC (b : Tb) (t : Tx) : List Value := [.int .i64 t.snap, .bool t.st, b.v, .map (some b.S), PT b.D, .int .i64 t.ops]
/-- A transaction in memory; its blocks are B or behind. -/
structure TxAt (w : World) (B : Nat) (b : Tb) (t : Tx) : Prop where
  d : Blk w b.T 91 (TC b t)
  row : OwnG XE w B 64 b.v b.Q
  ps : ∀ y ∈ b.Q, OwnG PE w B 48 (xv y) y.ps
  pl : b.Q.map plR = t.R
  set : SetS w b.S t.R
  buf : BAt w b.D b.M t.W
  ne : b.S ≠ b.M
  lo : B ≤ b.T ∧ B ≤ b.S ∧ B ≤ b.M
  ops : t.ops ≤ 64
  len : t.R.length ≤ t.ops
/-- The blocks that a transaction's acts may change. -/
def Tb.G (b : Tb) (k : Nat) : Prop := k = b.T ∨ k = b.S ∨ k = b.M ∨ b.v.ownBlock = some k
/-- The blocks that must stay for the transaction to stay. -/
structure Apart (w : World) (b : Tb) (F : Nat → Prop) : Prop where
  T : ¬ F b.T
  S : ¬ F b.S
  D : ¬ F b.D
  M : ¬ F b.M
  v : ∀ k, b.v.ownBlock = some k → ¬ F k
  p : ∀ y ∈ b.Q, ∀ k, (xv y).ownBlock = some k → ¬ F k
theorem TxAt.chg {w w' : World} {B : Nat} {b : Tb} {t : Tx} (h : TxAt w B b t) {F : Nat → Prop} (hc : Chg F w w') (hF : Apart w b F) : TxAt w' B b t :=
  ⟨h.d.chg hc hF.T, h.row.chg hc hF.v, fun y hy => (h.ps y hy).chg hc (hF.p y hy), h.pl, h.set.chg hc hF.S, h.buf.chg hc hF.D hF.M, h.ne, h.lo, h.ops, h.len⟩
theorem Apart.none (w : World) (b : Tb) : Apart w b (fun _ => False) := ⟨id, id, id, id, fun _ _ => id, fun _ _ _ _ => id⟩
theorem TxAt.kept {w w' : World} {B : Nat} {b : Tb} {t : Tx} (h : TxAt w B b t) (hb : Below w.heap.size w w') : TxAt w' B b t := h.chg (F := fun _ => False) (Chg.of_below hb) (Apart.none w b)
theorem TxAt.lt {w : World} {B : Nat} {b : Tb} {t : Tx} (h : TxAt w B b t) {k : Nat} (hk : b.G k) : k < w.heap.size := by
  rcases hk with rfl | rfl | rfl | hk
  · exact h.d.lt
  · exact h.set.lt
  · exact h.buf.mp.lt
  · exact (h.row.block hk).2.1
theorem TxAt.ge {w : World} {B : Nat} {b : Tb} {t : Tx} (h : TxAt w B b t) {k : Nat} (hk : b.G k) : B ≤ k := by
  rcases hk with rfl | rfl | rfl | hk
  · exact h.lo.1
  · exact h.lo.2.1
  · exact h.lo.2.2
  · exact (h.row.block hk).1
/-- A block of cells and a map are apart; so are blocks of different types. -/
theorem cells_map {w : World} {k j : Nat} {cs : Array Value} {T : TypeId} {p : Nat × Nat} (h : w.heap[k]? = some (.cells cs T p)) (hj : ∃ es c, w.heap[j]? = some (.map es c)) : k ≠ j := fun e => by
  obtain ⟨es, c, h'⟩ := hj
  rw [e, h'] at h
  cases h
theorem cells_ne {w : World} {k j : Nat} {cs cs' : Array Value} {T T' : TypeId} {p p' : Nat × Nat} (h : w.heap[k]? = some (.cells cs T p)) (h' : w.heap[j]? = some (.cells cs' T' p')) (hT : T ≠ T') : k ≠ j := fun e => by
  rw [e, h'] at h
  cases h
  exact hT rfl
/-- What is apart in a transaction's memory. -/
structure TxNe (b : Tb) : Prop where
  TS : b.T ≠ b.S
  TM : b.T ≠ b.M
  TD : b.T ≠ b.D
  DS : b.D ≠ b.S
  DM : b.D ≠ b.M
  SM : b.S ≠ b.M
  v : ∀ k, b.v.ownBlock = some k → k ≠ b.T ∧ k ≠ b.S ∧ k ≠ b.M ∧ k ≠ b.D
  p : ∀ y ∈ b.Q, ∀ k, (xv y).ownBlock = some k → k ≠ b.T ∧ k ≠ b.S ∧ k ≠ b.M ∧ k ≠ b.D ∧ ¬ b.v.ownBlock = some k
theorem TxAt.apart {w : World} {B : Nat} {b : Tb} {t : Tx} (h : TxAt w B b t) : TxNe b where
  TS := cells_map h.d h.set.block
  TM := cells_map h.d h.buf.mp.block
  TD := cells_ne h.d h.buf.d (by decide)
  DS := cells_map h.buf.d h.set.block
  DM := h.buf.ne
  SM := h.ne
  v := fun k hk => by
    obtain ⟨_, _, cur, hc⟩ := h.row.block hk
    exact ⟨cells_ne hc h.d (by decide), cells_map hc h.set.block, cells_map hc h.buf.mp.block, cells_ne hc h.buf.d (by decide)⟩
  p := fun y hy k hk => by
    obtain ⟨_, _, cur, hc⟩ := (h.ps y hy).block hk
    refine ⟨cells_ne hc h.d (by decide), cells_map hc h.set.block, cells_map hc h.buf.mp.block, cells_ne hc h.buf.d (by decide), fun e => ?_⟩
    obtain ⟨_, _, cur', hc'⟩ := h.row.block e
    exact cells_ne hc hc' (by decide) rfl
/-- Where the block alone changes, and the reads and writes stay. -/
theorem TxAt.setT {w w' : World} {B : Nat} {b : Tb} {t t' : Tx} (h : TxAt w B b t) (hc : Chg (fun k => k = b.T) w w') (hd : Blk w' b.T 91 (TC b t')) (hR : t'.R = t.R) (hW : t'.W = t.W) (ho : t'.ops ≤ 64) (hl : t.ops ≤ t'.ops) : TxAt w' B b t' := by
  have n := h.apart
  have hlen := h.len
  refine ⟨hd, h.row.chg hc (fun k hk => (n.v k hk).1), fun y hy => (h.ps y hy).chg hc (fun k hk => (n.p y hy k hk).1), by rw [h.pl, hR], ?_, ?_, h.ne, h.lo, ho, by rw [hR]; omega⟩
  · rw [hR]; exact h.set.chg hc n.TS.symm
  · rw [hW]; exact h.buf.chg hc n.TD.symm n.TM.symm
/-- Where the buffer's map alone changes. -/
theorem TxAt.setM {w w' : World} {B : Nat} {b : Tb} {t : Tx} {W : List Pr} (h : TxAt w B b t) (hc : Chg (fun k => k = b.M) w w') (hb : BAt w' b.D b.M W) : TxAt w' B b { t with W := W } := by
  have n := h.apart
  exact ⟨h.d.chg hc n.TM, h.row.chg hc (fun k hk => (n.v k hk).2.2.1), fun y hy => (h.ps y hy).chg hc (fun k hk => (n.p y hy k hk).2.2.1), h.pl, h.set.chg hc n.SM, hb, h.ne, h.lo, h.ops, h.len⟩
end Go.Proofs.Ytcicekggeampcaa
