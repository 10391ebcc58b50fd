/-
  Texts that ride together: SeA SeM SeC SeB SeG SeD.
-/
import Derived.Test.YtcicekggeampcaaGreatGX
import Derived.Test.YtcicekggeampcaaGreatGSd
import Derived.Test.YtcicekggeampcaaGreatGBd
import Derived.Laws.LoneSync
/-
  Rows that literals make; slices.Clone over pairs.
-/
namespace Go.Proofs.YtcicekggeampcaaGreat
open Go.RowKit
theorem own_empty {α : Type} {E : Enc α} (w : World) (B : Nat) (T : TypeId) (hB : B ≤ w.heap.size) : OwnG E (w.alloc (.cells #[] T (0, 0))) B T (.slice (some ⟨w.heap.size, 0, none⟩) 0 0) [] :=
  OwnG.of_blk (L := []) (cap := 0) (cur := []) (Blk.new w T []) hB (by simp [Enc.cs]) (by simp) (by simp) (by simp [maxLen])
set_option maxHeartbeats 1000000 in
set_option maxRecDepth 100000 in
theorem cloneP_any {w : World} {v : Value} {l : List Pr} (h : RdG PE w v l) (hl : l.length ≤ 1000000) :
    Calls Tryz.prog 68 #[v] w fun e w' => ∃ v', e = .returned v' ∧ OwnG PE w' w.heap.size 51 v' l ∧ Below w.heap.size w w' := by
  have HR := hide h
  obtain ⟨a, cap, rfl, h1, h2, h3, h4⟩ := h
  clear h4
  have hq := fun W => Lib.run_eql_slice_nil (P := Tryz.prog) W 35 51 a l.length cap 0 0 Tryz.underlying35
  obtain ⟨n, HN⟩ : ∃ n, Hid (l.length = n) := ⟨_, rfl⟩
  rw [HN.out] at HR h1 hl hq ⊢
  go_enter Tryz.func68, Tryz.ntmps68
  cases a with
  | none =>
    have hc0 := h3 rfl
    have hl0 : l = [] := List.eq_nil_of_length_eq_zero (by rw [HN.out]; omega)
    obtain rfl : n = 0 := by omega
    subst hl0 hc0
    simp only [Option.isNone_none] at hq ⊢
    go_wp2
    go_ret
    exact ⟨_, rfl, ownG_nil _ _ _, Below.refl _ _⟩
  | some x =>
    simp only [Option.isNone_some] at hq
    have A1 : Hid (Below w.heap.size w (w.alloc (.cells #[] 51 (0, 0)))) := (Below.refl _ _).alloc (Nat.le_refl _) _
    have O1 : Hid (OwnG PE (w.alloc (.cells #[] 51 (0, 0))) w.heap.size 51 (.slice (some ⟨w.heap.size, 0, none⟩) 0 0) []) := own_empty w w.heap.size 51 (Nat.le_refl _)
    have R1 := hide (HR.out.kept A1.out)
    have hb1 : Hid (([] : List Pr).length + l.length ≤ 10000000) := (show 0 + l.length ≤ 10000000 by rw [HN.out]; omega)
    go_wp2_with (first
      | (refine wpList_append_E (E := PE) Tryz.underlying35 infoP9 (by decide) rfl (.tmp 5) (.tmp 6) rfl w.heap.size (.slice (some ⟨w.heap.size, 0, none⟩) 0 0) [] rfl O1.out _ l rfl R1.out hb1.out A1.out.size ?_; intro v9 w9 o9 g9 q9; have O9 := hide o9; have G9 := hide g9; clear o9 g9 q9; obtain ⟨p9, c9, hv9⟩ := O9.out.form; obtain ⟨n2, hn2⟩ : ∃ k, ([] ++ l : List Pr).length = k := ⟨_, rfl⟩; rw [hn2] at hv9; subst hv9)
      | fail)
    go_ret
    refine ⟨_, rfl, O9.out, A1.out.trans ((Chg.of_grown (F := fun k => k = w.heap.size) G9.out (fun k e _ => by simpa [Value.ownBlock] using e.symm)).below A1.out.size (fun k hk e => by omega))⟩
/-- What Own keeps: its own row, each read's pairs in rows of its own. -/
structure OwnR9 (w : World) (B : Nat) (v : Value) (Q : List Rz) : Prop where
  row : OwnG XE w B 58 v Q
  ps : ∀ y ∈ Q, OwnG PE w B 51 (xv y) y.ps
theorem OwnR9.kept {w w' : World} {B : Nat} {v : Value} {Q : List Rz} (h : OwnR9 w B v Q) (hb : Below w.heap.size w w') : OwnR9 w' B v Q := ⟨h.row.kept hb, fun y hy => (h.ps y hy).kept hb⟩
theorem OwnR9.rd {w : World} {B : Nat} {v : Value} {Q : List Rz} (h : OwnR9 w B v Q) : RdX w v Q := ⟨h.row.rd, fun y hy => (h.ps y hy).rd⟩
/-- A slice into a cell. -/
theorem wpList_store_sl {P : Program} {ops : Array Oper} {rest : List Oper} {o : Oper} {a : Act} {w : World} {Q : Exit → Act → World → Prop} (hgd : o.guard = none) (ty : TypeId) (hso : ∀ W, (sizeOf ty).run P W = .ok 1 W) (x y : Operand) (ho : o.op = .store ty x y) (b j : Nat) (T : TypeId) (cs : List Value) (p : Option Addr) (n c : Nat)
    (hx : a.eval x = .pointer (some ⟨b, j, none⟩)) (hy : a.eval y = .slice p n c) (hB : Blk w b T cs) (hj : j < cs.length) (h : ∀ w', Blk w' b T (cs.set j (.slice p n c)) → But b w w' → wpList P ops Q rest (a.put o.dst undef) w') : wpList P ops Q (o :: rest) a w := by
  have hc := hB.cell (j := j) (v := cs[j]) (List.getElem?_eq_getElem hj)
  have hf := hB.frozen j
  have hrun : (execOp a.eval o).run P w = .ok .skip (w.setCell ⟨b, j, none⟩ (.slice p n c)) := by
    simp only [execOp, ho, hx, hy]
    go_simp
  refine wpList_plain hgd fun K hK => ?_
  unfold Oper.wp
  rw [hrun]
  exact hK _ _ (h _ (hB.set j (.slice p n c)) (But.setCell b w j _))
theorem build_read1 (x : Rz) (w : World) : (Instr.buildSlice 39 1 #[(0, .agg (XC x).toArray)]).run Tryz.prog w = .ok (.slice (some ⟨w.heap.size, 0, none⟩) 1 1) (w.alloc (.cells (XC x).toArray 58 (0, 0))) := by kernel_rfl
theorem ownE_one {α : Type} {E : Enc α} (w : World) (B : Nat) (T : TypeId) (x : α) (hB : B ≤ w.heap.size) : OwnG E (w.alloc (.cells (E.c x).toArray T (0, 0))) B T (.slice (some ⟨w.heap.size, 0, none⟩) 1 1) [x] := by
  refine OwnG.of_blk (L := [x]) (cap := 1) (Blk.new w T (E.c x)) hB ?_ ?_ (by simp) (by simp [maxLen])
  · rw [List.length_singleton, Nat.one_mul, List.take_of_length_le (by rw [E.len]; exact Nat.le_refl _), Enc.cs_one1]
  · rw [E.len, Nat.one_mul]
theorem wpList_build1E {α : Type} {E : Enc α} {ty T : TypeId} (hb : ∀ (x : α) (w : World), (Instr.buildSlice ty 1 #[(0, .agg (E.c x).toArray)]).run Tryz.prog w = .ok (.slice (some ⟨w.heap.size, 0, none⟩) 1 1) (w.alloc (.cells (E.c x).toArray T (0, 0))))
    {ops : Array Oper} {rest : List Oper} {o : Oper} {a : Act} {w : World} {Q : Exit → Act → World → Prop} (hgd : o.guard = none) (x : Operand) (ho : o.op = .buildSlice ty 1 #[(0, x)]) (p : α) (hx : a.eval x = .agg (E.c p).toArray)
    (h : wpList Tryz.prog ops Q rest (a.put o.dst (.slice (some ⟨w.heap.size, 0, none⟩) 1 1)) (w.alloc (.cells (E.c p).toArray T (0, 0)))) : wpList Tryz.prog ops Q (o :: rest) a w := by
  refine wpList_run hgd _ ?_ h
  simp only [execOp, ho, hx, List.map_toArray, List.map_cons, List.map_nil, Sem.run_bind, Sem.run_pure]
  exact congrArg (fun r => Result.andThen r _) (hb p w)
end Go.Proofs.YtcicekggeampcaaGreat

/-
  A session's transaction, plain and in memory.
-/
namespace Go.Proofs.YtcicekggeampcaaGreat
open Go.RowKit
/-- A read, plain: whether a range, its key, its end, its pairs. -/
abbrev Rp : Type := Bool × ByteArray × ByteArray × List Pr
/-- Is there a read of that key? -/
def seenK (R : List Rp) (k : ByteArray) : Bool := R.any fun x => !x.1 && (x.2.1.toList == k.toList)
theorem seenK_snoc (R : List Rp) (x : Rp) (k : ByteArray) : seenK (R ++ [x]) k = (seenK R k || (!x.1 && (x.2.1.toList == k.toList))) := by
  simp [seenK]
/-- A transaction. -/
structure Tx where
  snap : Int
  st : Bool
  R : List Rp
  W : List Pr
  ops : Nat
/-- Block M is the set of the keys that were read. -/
def SetS (w : World) (M : Nat) (R : List Rp) : Prop :=
  ∃ (D : DataW Unit) (n : Nat), w.ownsMap Tryz.prog 9 unitElem M n D ∧ n ≤ R.length ∧ ∀ k : ByteArray, Maps.has D (kS k) = seenK R k
theorem SetS.made (w : World) : SetS (w.alloc (.map #[] 0)) w.heap.size [] := ⟨.map [], 0, World.ownsMap_made w _ _ _, Nat.le_refl _, fun _ => rfl⟩
theorem SetS.chg {w w' : World} {M : Nat} {R : List Rp} (h : SetS w M R) {F : Nat → Prop} (hc : Chg F w w') (hF : ¬ F M) : SetS w' M R := by
  obtain ⟨D, n, ⟨es, clock, hb, r⟩, h2⟩ := h
  exact ⟨D, n, ⟨es, clock, (hc.block M (Array.getElem?_eq_some_iff.1 hb).1 hF).trans hb, r⟩, h2⟩
theorem SetS.block {w : World} {M : Nat} {R : List Rp} (h : SetS w M R) : ∃ es clock, w.heap[M]? = some (.map es clock) := by
  obtain ⟨D, n, ⟨es, clock, hb, r⟩, h2⟩ := h
  exact ⟨es, clock, hb⟩
theorem SetS.lt {w : World} {M : Nat} {R : List Rp} (h : SetS w M R) : M < w.heap.size := by
  obtain ⟨es, clock, hb⟩ := h.block
  exact (Array.getElem?_eq_some_iff.1 hb).1
theorem zeroU (W : World) : (zeroValue 83).run Tryz.prog W = .ok (.agg #[]) W := by kernel_rfl
theorem SetS.look {w : World} {M : Nat} {R : List Rp} (h : SetS w M R) (k : ByteArray) (hk : k.size ≤ maxLen) :
    (Instr.lookup 81 (.map (some M)) (.string k) true).run Tryz.prog w = .ok (.tuple #[.agg #[], .bool (seenK R k)]) w := by
  obtain ⟨D, n, h1, h2, h3⟩ := h
  obtain ⟨v, ps, hrun, hv⟩ := h1.look_ok (t := 81) (e := 83) keyed9 Tryz.underlying81 (zeroU w) unitElem_mk (key := .string k) (kl := kS k) (Go.WideMaps.keyOf_string_mk Tryz.underlying9 hk)
  obtain ⟨rfl, _⟩ := unitElem_inv hv
  rw [hrun, h3 k]
theorem SetS.put {w : World} {M : Nat} {R : List Rp} (h : SetS w M R) (hN : R.length ≤ 1000000) (k : ByteArray) (hk : k.size ≤ maxLen) (ps : List Pr) :
    ∃ w', (Instr.mapUpdate 81 (.map (some M)) (.string k) (.agg #[])).run Tryz.prog w = .ok () w' ∧ SetS w' M (R ++ [(false, k, em, ps)]) ∧ w.mapTurned w' M := by
  obtain ⟨D, n, h1, h2, h3⟩ := h
  obtain ⟨w', hrun, ho, ht⟩ := h1.store (t := 81) (e := 83) keyed9 Tryz.underlying81 (by unfold maxLen; omega) (key := .string k) (kl := kS k) (Go.WideMaps.keyOf_string_mk Tryz.underlying9 hk) unitElem_mk
  have htd := h1.tidy keyed9
  refine ⟨w', hrun, ⟨D.put (kS k) (.agg []), n + 1, ho, by rw [List.length_append, List.length_singleton]; omega, fun j => ?_⟩, ht⟩
  rw [seenK_snoc]
  by_cases e : k = j
  · subst e
    rw [Maps.has_put_same htd.isMap (kS_key _)]
    simp
  · rw [Maps.has_put_other (kS_ne (fun h => e h.symm)), h3 j]
    have : (k.toList == j.toList) = false := by
      rw [Bool.eq_false_iff]
      intro h9
      rw [beq_iff_eq] at h9
      exact e (ba_inj.1 h9)
    simp [this]
theorem SetS.scan {w : World} {M : Nat} {R : List Rp} (h : SetS w M R) (a b : ByteArray) (ps : List Pr) : SetS w M (R ++ [(true, a, b, ps)]) := by
  obtain ⟨D, n, h1, h2, h3⟩ := h
  exact ⟨D, n, h1, by rw [List.length_append]; omega, fun k => by rw [h3 k, seenK_snoc]; simp⟩
/-- Where a transaction lies: its block, the set of its keys, its buffer and that one's map, the row of its reads. -/
structure Tb where
  T : Nat
  S : Nat
  D : Nat
  M : Nat
  a : Option Addr
  c : Nat
  Q : List Rz
abbrev Tb.v (b : Tb) : Value := .slice b.a b.Q.length b.c
/-- The cells of a transaction. -/
def TC (b : Tb) (t : Tx) : List Value := [.int .i64 t.snap, .bool t.st, b.v, .map (some b.S), PT b.D, .int .i64 t.ops]
/-- A transaction in memory; its blocks are B or behind. -/
structure TxAt (w : World) (B : Nat) (b : Tb) (t : Tx) : Prop where
  d : Blk w b.T 89 (TC b t)
  row : OwnG XE w B 58 b.v b.Q
  ps : ∀ y ∈ b.Q, OwnG PE w B 51 (xv y) y.ps
  pl : b.Q.map plR = t.R
  set : SetS w b.S t.R
  buf : BAt w b.D b.M t.W
  ne : b.S ≠ b.M
  lo : B ≤ b.T ∧ B ≤ b.S ∧ B ≤ b.M
  ops : t.ops ≤ 64
  len : t.R.length ≤ t.ops
/-- The blocks that a transaction's acts may change. -/
def Tb.G (b : Tb) (k : Nat) : Prop := k = b.T ∨ k = b.S ∨ k = b.M ∨ b.v.ownBlock = some k
/-- The blocks that must stay for the transaction to stay. -/
structure Apart (w : World) (b : Tb) (F : Nat → Prop) : Prop where
  T : ¬ F b.T
  S : ¬ F b.S
  D : ¬ F b.D
  M : ¬ F b.M
  v : ∀ k, b.v.ownBlock = some k → ¬ F k
  p : ∀ y ∈ b.Q, ∀ k, (xv y).ownBlock = some k → ¬ F k
theorem TxAt.chg {w w' : World} {B : Nat} {b : Tb} {t : Tx} (h : TxAt w B b t) {F : Nat → Prop} (hc : Chg F w w') (hF : Apart w b F) : TxAt w' B b t :=
  ⟨h.d.chg hc hF.T, h.row.chg hc hF.v, fun y hy => (h.ps y hy).chg hc (hF.p y hy), h.pl, h.set.chg hc hF.S, h.buf.chg hc hF.D hF.M, h.ne, h.lo, h.ops, h.len⟩
theorem Apart.none (w : World) (b : Tb) : Apart w b (fun _ => False) := ⟨id, id, id, id, fun _ _ => id, fun _ _ _ _ => id⟩
theorem TxAt.kept {w w' : World} {B : Nat} {b : Tb} {t : Tx} (h : TxAt w B b t) (hb : Below w.heap.size w w') : TxAt w' B b t := h.chg (F := fun _ => False) (Chg.of_below hb) (Apart.none w b)
theorem TxAt.lt {w : World} {B : Nat} {b : Tb} {t : Tx} (h : TxAt w B b t) {k : Nat} (hk : b.G k) : k < w.heap.size := by
  rcases hk with rfl | rfl | rfl | hk
  · exact h.d.lt
  · exact h.set.lt
  · exact h.buf.mp.lt
  · exact (h.row.block hk).2.1
theorem TxAt.ge {w : World} {B : Nat} {b : Tb} {t : Tx} (h : TxAt w B b t) {k : Nat} (hk : b.G k) : B ≤ k := by
  rcases hk with rfl | rfl | rfl | hk
  · exact h.lo.1
  · exact h.lo.2.1
  · exact h.lo.2.2
  · exact (h.row.block hk).1
/-- A block of cells and a map are apart; so are blocks of different types. -/
theorem cells_map {w : World} {k j : Nat} {cs : Array Value} {T : TypeId} {p : Nat × Nat} (h : w.heap[k]? = some (.cells cs T p)) (hj : ∃ es c, w.heap[j]? = some (.map es c)) : k ≠ j := fun e => by
  obtain ⟨es, c, h'⟩ := hj
  rw [e, h'] at h
  cases h
theorem cells_ne {w : World} {k j : Nat} {cs cs' : Array Value} {T T' : TypeId} {p p' : Nat × Nat} (h : w.heap[k]? = some (.cells cs T p)) (h' : w.heap[j]? = some (.cells cs' T' p')) (hT : T ≠ T') : k ≠ j := fun e => by
  rw [e, h'] at h
  cases h
  exact hT rfl
/-- What is apart in a transaction's memory. -/
structure TxNe (b : Tb) : Prop where
  TS : b.T ≠ b.S
  TM : b.T ≠ b.M
  TD : b.T ≠ b.D
  DS : b.D ≠ b.S
  DM : b.D ≠ b.M
  SM : b.S ≠ b.M
  v : ∀ k, b.v.ownBlock = some k → k ≠ b.T ∧ k ≠ b.S ∧ k ≠ b.M ∧ k ≠ b.D
  p : ∀ y ∈ b.Q, ∀ k, (xv y).ownBlock = some k → k ≠ b.T ∧ k ≠ b.S ∧ k ≠ b.M ∧ k ≠ b.D ∧ ¬ b.v.ownBlock = some k
theorem TxAt.apart {w : World} {B : Nat} {b : Tb} {t : Tx} (h : TxAt w B b t) : TxNe b where
  TS := cells_map h.d h.set.block
  TM := cells_map h.d h.buf.mp.block
  TD := cells_ne h.d h.buf.d (by decide)
  DS := cells_map h.buf.d h.set.block
  DM := h.buf.ne
  SM := h.ne
  v := fun k hk => by
    obtain ⟨_, _, cur, hc⟩ := h.row.block hk
    exact ⟨cells_ne hc h.d (by decide), cells_map hc h.set.block, cells_map hc h.buf.mp.block, cells_ne hc h.buf.d (by decide)⟩
  p := fun y hy k hk => by
    obtain ⟨_, _, cur, hc⟩ := (h.ps y hy).block hk
    refine ⟨cells_ne hc h.d (by decide), cells_map hc h.set.block, cells_map hc h.buf.mp.block, cells_ne hc h.buf.d (by decide), fun e => ?_⟩
    obtain ⟨_, _, cur', hc'⟩ := h.row.block e
    exact cells_ne hc hc' (by decide) rfl
/-- Where the block alone changes, and the reads and writes stay. -/
theorem TxAt.setT {w w' : World} {B : Nat} {b : Tb} {t t' : Tx} (h : TxAt w B b t) (hc : Chg (fun k => k = b.T) w w') (hd : Blk w' b.T 89 (TC b t')) (hR : t'.R = t.R) (hW : t'.W = t.W) (ho : t'.ops ≤ 64) (hl : t.ops ≤ t'.ops) : TxAt w' B b t' := by
  have n := h.apart
  have hlen := h.len
  refine ⟨hd, h.row.chg hc (fun k hk => (n.v k hk).1), fun y hy => (h.ps y hy).chg hc (fun k hk => (n.p y hy k hk).1), by rw [h.pl, hR], ?_, ?_, h.ne, h.lo, ho, by rw [hR]; omega⟩
  · rw [hR]; exact h.set.chg hc n.TS.symm
  · rw [hW]; exact h.buf.chg hc n.TD.symm n.TM.symm
/-- Where the buffer's map alone changes. -/
theorem TxAt.setM {w w' : World} {B : Nat} {b : Tb} {t : Tx} {W : List Pr} (h : TxAt w B b t) (hc : Chg (fun k => k = b.M) w w') (hb : BAt w' b.D b.M W) : TxAt w' B b { t with W := W } := by
  have n := h.apart
  exact ⟨h.d.chg hc n.TM, h.row.chg hc (fun k hk => (n.v k hk).2.2.1), fun y hy => (h.ps y hy).chg hc (fun k hk => (n.p y hy k hk).2.2.1), h.pl, h.set.chg hc n.SM, hb, h.ne, h.lo, h.ops, h.len⟩
end Go.Proofs.YtcicekggeampcaaGreat

/-
  package session: New, isMade, Open, Snap, Ops, act: what the calls do.
-/
namespace Go.Proofs.YtcicekggeampcaaGreat
open Go.RowKit
/-- Where a session's pointer leads. -/
def SPt : Option (Tb × Tx) → Value
  | none => .pointer none
  | some (b, _) => PT b.T
/-- The session at block X in memory. -/
structure SesAt (w : World) (B X : Nat) (id : Int) (o : Option (Tb × Tx)) : Prop where
  x : Blk w X 61 [.int .i64 id, SPt o]
  lo : B ≤ X
  id : 1 ≤ id ∧ id ≤ 8
  tx : ∀ b t, o = some (b, t) → TxAt w B b t
/-- The blocks that a session's acts may change. -/
def SG (X : Nat) : Option (Tb × Tx) → Nat → Prop
  | none, k => k = X
  | some (b, _), k => k = X ∨ b.G k
theorem SesAt.kept {w w' : World} {B X : Nat} {id : Int} {o : Option (Tb × Tx)} (h : SesAt w B X id o) (hb : Below w.heap.size w w') : SesAt w' B X id o := ⟨h.x.kept hb, h.lo, h.id, fun b t e => (h.tx b t e).kept hb⟩
theorem SesAt.chg {w w' : World} {B X : Nat} {id : Int} {o : Option (Tb × Tx)} (h : SesAt w B X id o) {F : Nat → Prop} (hc : Chg F w w') (hX : ¬ F X) (hF : ∀ b t, o = some (b, t) → Apart w b F) : SesAt w' B X id o := ⟨h.x.chg hc hX, h.lo, h.id, fun b t e => (h.tx b t e).chg hc (hF b t e)⟩
theorem SesAt.ge {w : World} {B X : Nat} {id : Int} {o : Option (Tb × Tx)} (h : SesAt w B X id o) {k : Nat} (hk : SG X o k) : B ≤ k := by
  cases o with
  | none => cases hk; exact h.lo
  | some z =>
    obtain ⟨b, t⟩ := z
    rcases hk with rfl | hk
    · exact h.lo
    · exact (h.tx b t rfl).ge hk
/-- A session that no call made. -/
def UnS (w : World) (v : Value) : Prop := v = .pointer none ∨ ∃ X, v = PT X ∧ Blk w X 61 [.int .i64 0, .pointer none]
set_option maxRecDepth 100000 in
theorem zNew_any (w : World) (id : Int) (h1 : 1 ≤ id) (h8 : id ≤ 8) : Calls Tryz.prog 6 #[.int .i64 id] w fun e w' => ∃ X, e = .returned (PT X) ∧ w.heap.size = X ∧ SesAt w' w.heap.size X id none ∧ Below w.heap.size w w' := by
  have q1 : ¬ id < 1 := by omega
  have q2 : ¬ 8 < id := by omega
  go_enter Tryz.func6, Tryz.ntmps6
  go_wp2
  go_ret
  exact ⟨_, rfl, rfl, ⟨Blk.new w 61 [.int .i64 id, .pointer none], Nat.le_refl _, ⟨h1, h8⟩, fun _ _ e => by cases e⟩, (Below.refl _ _).alloc (Nat.le_refl _) _⟩
set_option maxRecDepth 100000 in
theorem zNew_no (w : World) (id : Int) (h : id < 1 ∨ 8 < id) : Calls Tryz.prog 6 #[.int .i64 id] w fun e w' => e = .returned (.pointer none) ∧ w' = w := by
  by_cases q1 : id < 1
  · go_enter Tryz.func6, Tryz.ntmps6
    go_wp2
    go_ret
    exact ⟨rfl, rfl⟩
  · have q2 : 8 < id := by omega
    go_enter Tryz.func6, Tryz.ntmps6
    go_wp2
    go_ret
    exact ⟨rfl, rfl⟩
set_option maxRecDepth 100000 in
theorem zMade_any {w : World} {X : Nat} {id : Int} {p : Value} (hB : Blk w X 61 [.int .i64 id, p]) (h1 : 1 ≤ id) : Calls Tryz.prog 40 #[PT X] w fun e w' => e = .returned (.bool true) ∧ w' = w := by
  have c0 := hB.cell (j := 0) rfl
  clear hB
  have q1 : 0 < id := by omega
  go_enter Tryz.func40, Tryz.ntmps40
  go_wp2
  go_ret
  exact ⟨rfl, rfl⟩
set_option maxRecDepth 100000 in
theorem zOpen_some {w : World} {X T : Nat} {id : Int} (hB : Blk w X 61 [.int .i64 id, PT T]) : Calls Tryz.prog 13 #[PT X] w fun e w' => e = .returned (.bool true) ∧ w' = w := by
  have c1 := hB.cell (j := 1) rfl
  clear hB
  go_enter Tryz.func13, Tryz.ntmps13
  go_wp2
  go_ret
  exact ⟨rfl, rfl⟩
set_option maxRecDepth 100000 in
theorem zOpen_none {w : World} {X : Nat} {id : Int} (hB : Blk w X 61 [.int .i64 id, .pointer none]) : Calls Tryz.prog 13 #[PT X] w fun e w' => e = .returned (.bool false) ∧ w' = w := by
  have c1 := hB.cell (j := 1) rfl
  clear hB
  go_enter Tryz.func13, Tryz.ntmps13
  go_wp2
  go_ret
  exact ⟨rfl, rfl⟩
set_option maxRecDepth 100000 in
theorem load64_any (a : Addr) (w : World) (n : Int) (hc : w.cell? a = some (.int .i64 n)) : Calls Tryz.prog 39 #[.pointer (some a)] w fun e w' => e = .returned (.int .i64 n) ∧ w' = w := by
  have hl := run_call_load (P := Tryz.prog) Tryz.func74 (by kernel_rfl) (by kernel_rfl) (by kernel_rfl) .i64 (by kernel_rfl) (w := w) (a := a) (x := n) hc
  go_enter Tryz.func39, Tryz.ntmps39
  go_wp2
  go_ret
  exact ⟨rfl, rfl⟩
set_option maxRecDepth 100000 in
theorem add64_any (a : Addr) (w : World) (n : Int) (hn : 0 ≤ n ∧ n ≤ 1000) (hc : w.cell? a = some (.int .i64 n)) (hz : w.frozen? a = false) : Calls Tryz.prog 75 #[.pointer (some a), .int .i64 1] w fun e w' => e = .returned (.int .i64 (n + 1)) ∧ w' = w.setCell a (.int .i64 (n + 1)) := by
  have hadd := run_call_add (P := Tryz.prog) Tryz.func102 (by kernel_rfl) (by kernel_rfl) (by kernel_rfl) .i64 (by kernel_rfl) (y := 1) (s := n + 1) hc hz (by
    have := wr64 (x := n + 1) (by omega) (by omega)
    simp [go_sem]
    omega)
  go_enter Tryz.func75, Tryz.ntmps75
  go_wp2
  go_ret
  exact ⟨rfl, rfl⟩
/-- Snap, Ops, of a session. -/
def snapP : Option (Tb × Tx) → Int
  | none => 0
  | some (_, t) => t.snap
def opsP : Option (Tb × Tx) → Nat
  | none => 0
  | some (_, t) => t.ops
set_option maxRecDepth 100000 in
theorem zOpen_any {w : World} {B X : Nat} {id : Int} {o : Option (Tb × Tx)} (h : SesAt w B X id o) : Calls Tryz.prog 13 #[PT X] w fun e w' => e = .returned (.bool o.isSome) ∧ w' = w := by
  cases o with
  | none => exact zOpen_none h.x
  | some z => exact zOpen_some h.x
set_option maxRecDepth 100000 in
theorem zSnap_any {w : World} {B X : Nat} {id : Int} {o : Option (Tb × Tx)} (h : SesAt w B X id o) : Calls Tryz.prog 14 #[PT X] w fun e w' => e = .returned (.int .i64 (snapP o)) ∧ w' = w := by
  have CO := hide (zOpen_any h)
  cases o with
  | none =>
    clear h
    go_enter Tryz.func14, Tryz.ntmps14
    go_wp2_with fail
    refine CO.out.mono ?_
    rintro e w_ ⟨rfl, hw⟩
    subst w_
    go_wp2_with fail
    go_ret
    exact ⟨rfl, rfl⟩
  | some z =>
    obtain ⟨b, t⟩ := z
    have c1 := h.x.cell (j := 1) rfl
    have d0 := (h.tx b t rfl).d.cell (j := 0) rfl
    simp only [SPt] at c1
    clear h
    go_enter Tryz.func14, Tryz.ntmps14
    go_wp2_with fail
    refine CO.out.mono ?_
    rintro e w_ ⟨rfl, hw⟩
    subst w_
    go_wp2_with fail
    go_ret
    exact ⟨rfl, rfl⟩
set_option maxRecDepth 100000 in
theorem zOps_any {w : World} {B X : Nat} {id : Int} {o : Option (Tb × Tx)} (h : SesAt w B X id o) : Calls Tryz.prog 15 #[PT X] w fun e w' => e = .returned (.int .i64 (opsP o)) ∧ w' = w := by
  have CO := hide (zOpen_any h)
  cases o with
  | none =>
    clear h
    go_enter Tryz.func15, Tryz.ntmps15
    go_wp2_with fail
    refine CO.out.mono ?_
    rintro e w_ ⟨rfl, hw⟩
    subst w_
    go_wp2_with fail
    go_ret
    exact ⟨rfl, rfl⟩
  | some z =>
    obtain ⟨b, t⟩ := z
    have c1 := h.x.cell (j := 1) rfl
    have d5 := (h.tx b t rfl).d.cell (j := 5) rfl
    have CL := hide (load64_any ⟨b.T, 5, none⟩ w t.ops d5)
    have ho := (h.tx b t rfl).ops
    simp only [SPt] at c1
    have hw : IntKind.i64.wrap (t.ops : Int) = t.ops := wr64 (by omega) (by omega)
    clear h
    go_enter Tryz.func15, Tryz.ntmps15
    go_wp2_with fail
    refine CO.out.mono ?_
    rintro e w_ ⟨rfl, hw⟩
    subst w_
    go_wp2_with fail
    refine CL.out.mono ?_
    rintro e w_ ⟨rfl, hw⟩
    subst w_
    go_wp2_with fail
    go_ret
    exact ⟨rfl, rfl⟩
set_option maxRecDepth 100000 in
theorem zClose_any {w : World} {B X : Nat} {id : Int} {o : Option (Tb × Tx)} (h : SesAt w B X id o) : Calls Tryz.prog 27 #[PT X] w fun e w' => e = .returned (.bool o.isSome) ∧ SesAt w' B X id none ∧ Chg (fun k => k = X) w w' := by
  have H := hide h
  have CO := hide (zOpen_any h)
  cases o with
  | none =>
    clear h
    go_enter Tryz.func27, Tryz.ntmps27
    go_wp2_with fail
    refine CO.out.mono ?_
    rintro e w_ ⟨rfl, hw⟩
    subst w_
    go_wp2_with fail
    go_ret
    exact ⟨rfl, H.out, Chg.refl _ _⟩
  | some z =>
    obtain ⟨b, t⟩ := z
    have c1 := h.x.cell (j := 1) rfl
    have z1 := h.x.frozen 1
    simp only [SPt] at c1
    clear h
    go_enter Tryz.func27, Tryz.ntmps27
    go_wp2_with fail
    refine CO.out.mono ?_
    rintro e w_ ⟨rfl, hw⟩
    subst w_
    go_wp2_with fail
    go_ret
    exact ⟨rfl, ⟨H.out.x.set 1 _, H.out.lo, H.out.id, fun _ _ e => by cases e⟩, Chg.setCell (F := fun k => k = X) w rfl 1 _⟩
/-- A transaction with one act more. -/
def Tx.more (t : Tx) : Tx := { t with ops := t.ops + 1 }
set_option maxHeartbeats 1000000 in
set_option maxRecDepth 100000 in
theorem zAct_any {w : World} {B X : Nat} {id : Int} {b : Tb} {t : Tx} (h : SesAt w B X id (some (b, t))) :
    Calls Tryz.prog 43 #[PT X] w fun e w' => (64 ≤ t.ops ∧ e = .returned (.int .i64 13) ∧ w' = w) ∨ (t.ops < 64 ∧ e = .returned (.int .i64 0) ∧ SesAt w' B X id (some (b, t.more)) ∧ Chg (fun k => k = b.T) w w') := by
  have H := hide h
  have CM := hide (zMade_any h.x h.id.1)
  have CO := hide (zOpen_any h)
  have CP := hide (zOps_any h)
  have c1 := h.x.cell (j := 1) rfl
  have d5 := (h.tx b t rfl).d.cell (j := 5) rfl
  have z5 := (h.tx b t rfl).d.frozen 5
  have ho := (h.tx b t rfl).ops
  have CA := hide (add64_any ⟨b.T, 5, none⟩ w t.ops ⟨by omega, by omega⟩ d5 z5)
  simp only [SPt] at c1
  simp only [opsP] at CP
  clear h d5 z5
  obtain ⟨n, HN⟩ : ∃ n, Hid (t.ops = n) := ⟨_, rfl⟩
  rw [HN.out] at CA CP ho ⊢
  go_enter Tryz.func43, Tryz.ntmps43
  go_wp2_with fail
  refine CM.out.mono ?_
  rintro e w_ ⟨rfl, hw⟩
  subst w_
  go_wp2_with fail
  refine CO.out.mono ?_
  rintro e w_ ⟨rfl, hw⟩
  subst w_
  go_wp2_with fail
  refine CP.out.mono ?_
  rintro e w_ ⟨rfl, hw⟩
  subst w_
  by_cases h1 : 64 ≤ n
  · have q1 : (64 : Int) ≤ (n : Int) := by omega
    go_wp2_with fail
    go_ret
    exact .inl ⟨h1, rfl, rfl⟩
  · have q1 : ¬ (64 : Int) ≤ (n : Int) := by omega
    go_wp2_with fail
    refine CA.out.mono ?_
    rintro e w_ ⟨rfl, hw⟩
    subst w_
    go_wp2_with fail
    go_ret
    have hc : Chg (fun k => k = b.T) w (w.setCell ⟨b.T, 5, none⟩ (.int .i64 ((n : Int) + 1))) := Chg.setCell (F := fun k => k = b.T) w rfl 5 _
    have hx := H.out.tx b t rfl
    refine .inr ⟨by omega, rfl, ⟨H.out.x.chg hc ?_, H.out.lo, H.out.id, ?_⟩, hc⟩
    · exact cells_ne H.out.x hx.d (by decide)
    · rintro b' t' e
      cases e
      refine hx.setT hc ?_ rfl rfl (by show t.ops + 1 ≤ 64; rw [HN.out]; omega) (by show t.ops ≤ t.ops + 1; omega)
      have h5 := hx.d.set 5 (.int .i64 ((n : Int) + 1))
      have e : (TC b t).set 5 (.int .i64 ((n : Int) + 1)) = TC b t.more := by
        rw [← HN.out]
        unfold TC Tx.more
        simp
      rw [e] at h5
      exact h5
end Go.Proofs.YtcicekggeampcaaGreat

/-
  package session: isStore, Begin: what the calls do.
-/
namespace Go.Proofs.YtcicekggeampcaaGreat
open Go.RowKit
theorem getS_last {s : SP} (h : s.floor ≤ s.last) (k : ByteArray) : (getS s k s.last).2 = 0 ∨ (getS s k s.last).2 = 8 := by
  unfold getS
  rw [may0 h (Int.le_refl _)]
  simp only [if_true]
  split
  · exact .inl rfl
  · exact .inr rfl
set_option maxRecDepth 100000 in
theorem zIsStore_any {w0 w : World} {D i : Nat} {s : SP} {O : Nat → Prop} (hl : LS w0 w D i s O) (hi : i ≤ 1000) : Calls Tryz.prog 41 #[PT D] w fun e w' => e = .returned (.bool true) ∧ Below w.heap.size w w' := by
  have CL := hide hl.last
  have hb := hl.bnd
  have CG := hide (hl.get hi em (Nat.zero_le _) s.last)
  have h8 := getS_last (by omega : s.floor ≤ s.last) em
  obtain ⟨n, HN⟩ : ∃ n, Hid (s.last = n) := ⟨_, rfl⟩
  rw [HN.out] at CL CG h8
  obtain ⟨e0, HE⟩ : ∃ e0, Hid ((getS s em n).2 = e0) := ⟨_, rfl⟩
  rw [HE.out] at CG h8
  have q1 : (e0 != 1) = true := by simp; omega
  clear hb h8
  go_enter Tryz.func41, Tryz.ntmps41
  go_wp2_with fail
  refine CL.out.mono ?_
  rintro e w_ ⟨rfl, hw⟩
  subst w_
  go_wp2_with fail
  refine CG.out.mono ?_
  rintro e w1 ⟨rfl, hb⟩
  have L1 := hide hb
  clear hb
  go_wp2_with fail
  go_ret
  exact ⟨rfl, L1.out⟩
set_option maxRecDepth 100000 in
theorem zBegin_some {w : World} {B X : Nat} {id : Int} {b : Tb} {t : Tx} (h : SesAt w B X id (some (b, t))) (v : Value) (st : Bool) : Calls Tryz.prog 16 #[PT X, v, .bool st] w fun e w' => e = .returned (.int .i64 9) ∧ w' = w := by
  have CM := hide (zMade_any h.x h.id.1)
  have CO := hide (zOpen_any h)
  clear h
  go_enter Tryz.func16, Tryz.ntmps16
  go_wp2_with fail
  refine CM.out.mono ?_
  rintro e w_ ⟨rfl, hw⟩
  subst w_
  go_wp2_with fail
  refine CO.out.mono ?_
  rintro e w_ ⟨rfl, hw⟩
  subst w_
  go_wp2_with fail
  go_ret
  exact ⟨rfl, rfl⟩
/-- A pointer into a cell. -/
theorem wpList_store_pt {P : Program} {ops : Array Oper} {rest : List Oper} {o : Oper} {a : Act} {w : World} {Q : Exit → Act → World → Prop} (hgd : o.guard = none) (ty : TypeId) (hso : ∀ W, (sizeOf ty).run P W = .ok 1 W) (x y : Operand) (ho : o.op = .store ty x y) (b j : Nat) (T : TypeId) (cs : List Value) (p : Option Addr)
    (hx : a.eval x = .pointer (some ⟨b, j, none⟩)) (hy : a.eval y = .pointer p) (hB : Blk w b T cs) (hj : j < cs.length) (h : ∀ w', Blk w' b T (cs.set j (.pointer p)) → But b w w' → wpList P ops Q rest (a.put o.dst undef) w') : wpList P ops Q (o :: rest) a w := by
  have hc := hB.cell (j := j) (v := cs[j]) (List.getElem?_eq_getElem hj)
  have hf := hB.frozen j
  have hrun : (execOp a.eval o).run P w = .ok .skip (w.setCell ⟨b, j, none⟩ (.pointer p)) := by
    simp only [execOp, ho, hx, hy]
    go_simp
  refine wpList_plain hgd fun K hK => ?_
  unfold Oper.wp
  rw [hrun]
  exact hK _ _ (h _ (hB.set j (.pointer p)) (But.setCell b w j _))
theorem szp : ∀ W : World, (sizeOf 59).run Tryz.prog W = .ok 1 W := fun W => by kernel_rfl
theorem build_tx (n : Int) (st : Bool) (S D : Nat) : ∀ W : World, (Instr.build 89 #[(0, .int .i64 n), (1, .bool st), (3, .map (some S)), (4, PT D)]).run Tryz.prog W = .ok (.agg (TC ⟨0, S, D, 0, none, 0, []⟩ ⟨n, st, [], [], 0⟩).toArray) W := fun W => by kernel_rfl
set_option maxHeartbeats 2000000 in
set_option maxRecDepth 100000 in
theorem zBegin_any {w0 w : World} {D i : Nat} {s : SP} {O : Nat → Prop} (hl : LS w0 w D i s O) (hi : i ≤ 1000) {B X : Nat} {id : Int} (h : SesAt w B X id none) (st : Bool) :
    Calls Tryz.prog 16 #[PT X, PT D, .bool st] w fun e w' => e = .returned (.int .i64 0) ∧ ∃ b, SesAt w' B X id (some (b, ⟨s.last, st, [], [], 0⟩)) ∧ Chg (fun k => k = X) w w' ∧ ∀ k, b.G k → w.heap.size ≤ k := by
  have H := hide h
  have HL := hide hl
  have CM := hide (zMade_any h.x h.id.1)
  have CO := hide (zOpen_any h)
  have CS := hide (zIsStore_any hl hi)
  have hmm := @run_makeMap Tryz.prog
  have hbt := build_tx
  have hBX : Hid (B ≤ X ∧ X < w.heap.size) := (show _ ∧ _ from ⟨h.lo, h.x.lt⟩)
  clear h hl
  go_enter Tryz.func16, Tryz.ntmps16
  go_wp2_with fail
  refine CM.out.mono ?_
  rintro e w_ ⟨rfl, hw⟩
  subst w_
  go_wp2_with fail
  refine CO.out.mono ?_
  rintro e w_ ⟨rfl, hw⟩
  subst w_
  go_wp2_with fail
  refine CS.out.mono ?_
  rintro e w1 ⟨rfl, hb⟩
  have L1 := hide hb
  have CL := hide (HL.out.kept hb).last
  clear hb
  go_wp2_with fail
  refine CL.out.mono ?_
  rintro e w_ ⟨rfl, hw⟩
  subst w_
  obtain ⟨S, HS⟩ : ∃ S, Hid (w1.heap.size = S) := ⟨_, rfl⟩
  obtain ⟨w2, hw2⟩ : ∃ y, y = w1.alloc (.map #[] 0) := ⟨_, rfl⟩
  have SS : Hid (SetS w2 S []) := (show SetS _ _ _ by rw [hw2, ← HS.out]; exact SetS.made w1)
  have b12 : Below w1.heap.size w1 w2 := by rw [hw2]; exact (Below.refl _ _).alloc (Nat.le_refl _) _
  have L2 : Hid (Below w.heap.size w w2) := (show Below _ _ _ from L1.out.trans (b12.mono L1.out.size))
  have HW := hide hw2
  have CB := hide (bNew_any w2)
  clear hw2 b12
  go_wp2_with fail
  rw [HS.out]
  change Calls _ _ _ (w1.alloc (.map #[] 0)) _
  rw [← HW.out]
  refine CB.out.mono ?_
  rintro e w3 ⟨Db, M, rfl, hB, hD, hM, hb3⟩
  have HB := hide hB
  have HDM : Hid (w2.heap.size ≤ Db ∧ w2.heap.size ≤ M) := (show _ ∧ _ from ⟨hD, hM⟩)
  have L3 : Hid (Below w.heap.size w w3) := (show Below _ _ _ from L2.out.trans (hb3.mono L2.out.size))
  have L23 := hide hb3
  obtain ⟨T, HT⟩ : ∃ T, Hid (w3.heap.size = T) := ⟨_, rfl⟩
  obtain ⟨n, HN⟩ : ∃ n, Hid (s.last = n) := ⟨_, rfl⟩
  obtain ⟨w4, hw4⟩ : ∃ y, y = w3.alloc (.cells (TC ⟨0, S, Db, 0, none, 0, []⟩ ⟨n, st, [], [], 0⟩).toArray 89 (0, 0)) := ⟨_, rfl⟩
  obtain ⟨B4, L34⟩ := newB HT hw4
  have L4 : Hid (Below w.heap.size w w4) := (show Below _ _ _ from L3.out.trans (L34.out.mono L3.out.size))
  have X4 := hide (H.out.x.kept L4.out)
  have HW4 := hide hw4
  clear hB hD hM hb3 hw4
  rw [HN.out]
  go_wp2_with (first
    | (change wpList _ _ _ (_ :: []) _ (w3.alloc (.cells (TC ⟨0, S, Db, 0, none, 0, []⟩ ⟨n, st, [], [], 0⟩).toArray 89 (0, 0))); rw [← HW4.out, HT.out]; refine wpList_store_pt rfl 59 szp _ _ rfl X 1 61 _ _ rfl rfl X4.out (by simp) ?_; intro w5 hb5 hu5)
    | fail)
  go_ret
  have h2 := L2.out.size
  have h1 := L1.out.size
  have hdm := HDM.out
  have hb5' := hBX.out
  have hs2 : S < w2.heap.size := SS.out.lt
  have hS1 : w1.heap.size ≤ S := Nat.le_of_eq HS.out
  have hT3 : w3.heap.size ≤ T := Nat.le_of_eq HT.out
  have h3 := L23.out.size
  have C45 : Chg (fun k => k = X) w4 w5 := Chg.of_but hu5 rfl
  have S4 : SetS w4 S [] := (SS.out.chg (F := fun _ => False) (Chg.of_below L23.out) (fun h => h)).chg (F := fun _ => False) (Chg.of_below L34.out) (fun h => h)
  have B4' : BAt w4 Db M [] := HB.out.kept L34.out
  have hTX : T ≠ X := by omega
  have hSX : S ≠ X := by omega
  have hDX : Db ≠ X := by omega
  have hMX : M ≠ X := by omega
  have hSM : S ≠ M := by omega
  have hlo : B ≤ T ∧ B ≤ S ∧ B ≤ M := by omega
  have hge : w.heap.size ≤ T ∧ w.heap.size ≤ S ∧ w.heap.size ≤ M := by omega
  have D5 : Blk w5 T 89 (TC ⟨T, S, Db, M, none, 0, []⟩ ⟨s.last, st, [], [], 0⟩) := by
    rw [HN.out]
    exact B4.out.chg C45 hTX
  have HT5 : TxAt w5 B ⟨T, S, Db, M, none, 0, []⟩ ⟨s.last, st, [], [], 0⟩ := ⟨D5, ownG_nil _ _ _, (fun y hy => by cases hy), rfl, S4.chg C45 hSX, B4'.chg C45 hDX hMX, hSM, hlo, by simp, by simp⟩
  refine ⟨rfl, ⟨T, S, Db, M, none, 0, []⟩, ⟨hb5, hBX.out.1, H.out.id, fun b t e => ?_⟩, (Chg.of_below L4.out).trans C45, ?_⟩
  · cases e
    exact HT5
  · intro k hk
    rcases hk with hk | hk | hk | hk
    · rw [hk]; exact hge.1
    · rw [hk]; exact hge.2.1
    · rw [hk]; exact hge.2.2
    · cases hk
end Go.Proofs.YtcicekggeampcaaGreat

/-
  package session: sawKey, had: what the calls do.
-/
namespace Go.Proofs.YtcicekggeampcaaGreat
open Go.RowKit
/-- The reads with one of a key, if it was not read. -/
def sawP (R : List Rp) (k : ByteArray) (ps : List Pr) : List Rp := if seenK R k = true then R else R ++ [(false, k, em, ps)]
theorem build_read (k : ByteArray) (a : Option Addr) (n c : Nat) : ∀ W : World, (Instr.build 58 #[(1, .string k), (3, .slice a n c)]).run Tryz.prog W = .ok (.agg #[.bool false, .string k, .string ⟨#[]⟩, .slice a n c]) W := fun W => by kernel_rfl
theorem build_unit : ∀ W : World, (Instr.build 83 #[]).run Tryz.prog W = .ok (.agg #[]) W := fun W => by kernel_rfl
theorem szr : ∀ W : World, (sizeOf 39).run Tryz.prog W = .ok 1 W := fun W => by kernel_rfl
/-- Where one read more is kept: from its row in memory to the transaction. -/
theorem TxAt.addR {w1 w2 w3 w4 w5 : World} {B : Nat} {b : Tb} {t : Tx} {x : Rz} {p9 : Option Addr} {c9 : Nat} (h : TxAt w1 B b t) (s2 : SetS w2 b.S (t.R ++ [plR x])) (c12 : Chg (fun k => k = b.S) w1 w2) (l23 : Below w2.heap.size w2 w3)
    (o4 : OwnG XE w4 B 58 (.slice p9 (b.Q.length + 1) c9) (b.Q ++ [x])) (c34 : Chg (fun k => b.v.ownBlock = some k) w3 w4) (hv : ∀ k, (Value.slice p9 (b.Q.length + 1) c9).ownBlock = some k → b.v.ownBlock = some k ∨ w3.heap.size ≤ k) (d5 : Blk w5 b.T 89 ((TC b t).set 2 (.slice p9 (b.Q.length + 1) c9))) (c45 : Chg (fun k => k = b.T) w4 w5)
    (hx : OwnG PE w1 B 51 (xv x) x.ps) (hlen : t.R.length < t.ops) : TxAt w5 B { b with a := p9, c := c9, Q := b.Q ++ [x] } { t with R := t.R ++ [plR x] } := by
  have n := h.apart
  have hb13 : ∀ {k : Nat}, k < w1.heap.size → k < w3.heap.size := fun hk => Nat.lt_of_lt_of_le hk (Nat.le_trans c12.size l23.size)
  have c13 : Chg (fun k => k = b.S) w1 w3 := c12.trans (Chg.of_below l23)
  have hpk : ∀ y, y ∈ b.Q ∨ y = x → OwnG PE w1 B 51 (xv y) y.ps → OwnG PE w5 B 51 (xv y) y.ps := by
    intro y _ hy
    have hne : ∀ k, (xv y).ownBlock = some k → k ≠ b.T ∧ k ≠ b.S ∧ ¬ b.v.ownBlock = some k := fun k hk => by
      obtain ⟨_, _, cur, hc⟩ := hy.block hk
      refine ⟨cells_ne hc h.d (by decide), cells_map hc h.set.block, fun e => ?_⟩
      obtain ⟨_, _, cur', hc'⟩ := h.row.block e
      exact cells_ne hc hc' (by decide) rfl
    exact ((hy.chg c13 (fun k hk => (hne k hk).2.1)).chg c34 (fun k hk => (hne k hk).2.2)).chg c45 (fun k hk => (hne k hk).1)
  have hv5 : ∀ k, (Value.slice p9 (b.Q.length + 1) c9).ownBlock = some k → ¬ k = b.T := fun k hk e => by
    rcases hv k hk with h1 | h1
    · exact (n.v k h1).1 e
    · have := hb13 h.d.lt
      omega
  refine ⟨?_, ?_, fun y hy => ?_, ?_, ?_, ?_, h.ne, h.lo, h.ops, ?_⟩
  · have e : (TC b t).set 2 (.slice p9 (b.Q.length + 1) c9) = TC { b with a := p9, c := c9, Q := b.Q ++ [x] } { t with R := t.R ++ [plR x] } := by
      unfold TC
      simp [Tb.v]
    rw [← e]
    exact d5
  · have := o4.chg c45 hv5
    show OwnG XE w5 B 58 (.slice p9 (b.Q ++ [x]).length c9) (b.Q ++ [x])
    rw [List.length_append, List.length_singleton]
    exact this
  · rcases List.mem_append.1 hy with hy | hy
    · exact hpk y (.inl hy) (h.ps y hy)
    · rw [List.mem_singleton] at hy
      subst hy
      exact hpk y (.inr rfl) hx
  · show (b.Q ++ [x]).map plR = _
    rw [List.map_append, h.pl]
    rfl
  · exact ((s2.chg (F := fun _ => False) (Chg.of_below l23) (fun h => h)).chg c34 (fun e => (n.v _ e).2.1 rfl)).chg c45 n.TS.symm
  · exact ((h.buf.chg c13 n.DS n.SM.symm).chg c34 (fun e => (n.v _ e).2.2.2 rfl) (fun e => (n.v _ e).2.2.1 rfl)).chg c45 n.TD.symm n.TM.symm
  · show (t.R ++ [plR x]).length ≤ t.ops
    rw [List.length_append, List.length_singleton]
    omega
set_option maxHeartbeats 1000000 in
set_option maxRecDepth 100000 in
theorem zSaw_any {w : World} {B : Nat} {b : Tb} {t : Tx} (h : TxAt w B b t) (k : ByteArray) (hk : k.size ≤ maxLen) {la : Option Addr} {lc : Nat} {ps : List Pr} (hl : OwnG PE w B 51 (.slice la ps.length lc) ps) (hlen : t.R.length < t.ops) :
    Calls Tryz.prog 48 #[PT b.T, .string k, .slice la ps.length lc] w fun e w' => e = .returned (.tuple #[]) ∧ ∃ b', TxAt w' B b' { t with R := sawP t.R k ps } ∧ Chg b.G w w' ∧ b'.T = b.T ∧ (∀ j, b'.G j → b.G j ∨ w.heap.size ≤ j) := by
  have H := hide h
  have HLL := hide hl
  have HLN := hide hlen
  have c3 := h.d.cell (j := 3) rfl
  obtain ⟨q, HQ⟩ : ∃ q, Hid (seenK t.R k = q) := ⟨_, rfl⟩
  have hlk := h.set.look k hk
  rw [HQ.out] at hlk
  have HS : Hid (sawP t.R k ps = if q = true then t.R else t.R ++ [(false, k, em, ps)]) := (show _ = _ by unfold sawP; rw [HQ.out])
  have hzu := zeroU
  have hbu := build_unit
  obtain ⟨E1, HE1⟩ : ∃ E, Hid (w.heap.size = E) := ⟨_, rfl⟩
  obtain ⟨w1, hw1⟩ : ∃ y, y = w.alloc (.cells ([] : List Value).toArray 83 (0, 0)) := ⟨_, rfl⟩
  obtain ⟨b1, l1⟩ := newB HE1 hw1
  have HW1 := hide hw1
  have H1 := hide (h.kept l1.out)
  clear h hl hlen hw1
  obtain ⟨m, HM⟩ : ∃ m, Hid (ps.length = m) := ⟨_, rfl⟩
  rw [HM.out] at HLL ⊢
  go_enter Tryz.func48, Tryz.ntmps48
  go_upto_region 1 with (first
    | (refine wpList_store_new rfl 83 _ _ rfl w _ #[] _ rfl rfl rfl (by kernel_rfl) rfl rfl ?_)
    | fail)
  change Code.wp _ _ _ _ (w.alloc (.cells ([] : List Value).toArray 83 (0, 0)))
  rw [← HW1.out, HE1.out]
  cases q with
  | true =>
    rw [if_pos rfl] at HS
    go_wp2_with fail
    first | go_end0 | (simp only [Exit.inBlock, Exit.then]; refine bodyPost_ret (results_none rfl _ _ _) rfl ?_) | refine bodyPost_ret (results_none rfl _ _ _) rfl ?_
    refine ⟨rfl, b, ?_, Chg.of_below l1.out, rfl, fun j hj => .inl hj⟩
    rw [HS.out]
    exact H1.out
  | false =>
    rw [if_neg (by decide)] at HS
    obtain ⟨w2, hup, s2, ht2⟩ := H1.out.set.put (by have := H1.out.len; have := H1.out.ops; omega) k hk ps
    have C12 : Hid (Chg (fun j => j = b.S) w1 w2) := (show Chg _ _ _ from Chg.turned ht2 rfl)
    have S2 := hide s2
    clear ht2 hlk s2
    have n := hide H1.out.apart
    have T2 : Hid (Blk w2 b.T 89 (TC b t)) := (show Blk _ _ _ _ from H1.out.d.chg C12.out n.out.TS)
    have d3 := (H1.out.d).cell (j := 3) rfl
    have d2 := T2.out.cell (j := 2) rfl
    have hbr := build_read k la m lc
    obtain ⟨x, hx⟩ : ∃ x : Rz, x = ⟨false, k, em, ps, la, lc⟩ := ⟨_, rfl⟩
    have HXC : Hid (XC x = [.bool false, .string k, .string ⟨#[]⟩, .slice la m lc]) := (show _ = _ by rw [hx, ← HM.out]; rfl)
    have HXP : Hid (plR x = (false, k, em, ps)) := (show _ = _ by rw [hx]; rfl)
    have HXO : Hid (OwnG PE w1 B 51 (xv x) x.ps) := (show OwnG _ _ _ _ _ _ by
      rw [hx]
      show OwnG PE w1 B 51 (.slice la ps.length lc) ps
      rw [HM.out]
      exact HLL.out.kept l1.out)
    obtain ⟨E2, HE2⟩ : ∃ E, Hid (w2.heap.size = E) := ⟨_, rfl⟩
    obtain ⟨w3, hw3⟩ : ∃ y, y = w2.alloc (.cells (XC x).toArray 58 (0, 0)) := ⟨_, rfl⟩
    obtain ⟨b3, l3⟩ := newB HE2 hw3
    have HW3 := hide hw3
    have R3 : Hid (RdG XE w3 (.slice (some ⟨E2, 0, none⟩) 1 1) [x]) := (show RdG _ _ _ _ by rw [hw3, ← HE2.out]; exact rdG_one w2 58 x)
    have hv2 : Hid (∀ j, b.v.ownBlock = some j → ¬ j = b.S) := (show _ from fun j hj => (n.out.v j hj).2.1)
    have O3 : Hid (OwnG XE w3 B 58 b.v b.Q) := (show OwnG _ _ _ _ _ _ from (H1.out.row.chg C12.out hv2.out).kept l3.out)
    have hB3 : Hid (B ≤ w3.heap.size) := (show B ≤ w3.heap.size by have h1 := H1.out.lo.1; have h2 := H1.out.d.lt; have h3 := C12.out.size; have h4 := l3.out.size; omega)
    have hq9 : Hid (b.Q.length + [x].length ≤ 10000000) := (show b.Q.length + 1 ≤ 10000000 by
      have h1 := congrArg List.length H1.out.pl
      rw [List.length_map] at h1
      have := H1.out.len
      have := H1.out.ops
      omega)
    have T3 : Hid (Blk w3 b.T 89 (TC b t)) := (show Blk _ _ _ _ from T2.out.kept l3.out)
    clear hw3 hx
    obtain ⟨bT, HbT⟩ : ∃ z, Hid (b.T = z) := ⟨_, rfl⟩
    rw [HbT.out] at d3 d2 c3 ⊢
    have HB4 : Hid (∀ w4 : World, Chg (fun j => b.v.ownBlock = some j) w3 w4 → Blk w4 bT 89 (TC b t)) := (show _ from fun w4 c => by rw [← HbT.out]; exact T3.out.chg c (fun e => (n.out.v _ e).1 rfl))
    go_upto_region 3 with fail
    go_wp2_with (first
      | (refine wpList_build1E (E := XE) (fun x W => build_read1 x W) rfl _ rfl x (by show _ = Value.agg (XC x).toArray; rw [HXC.out]; rfl) ?_; change wpList _ _ _ _ _ (w2.alloc (.cells (XC x).toArray 58 (0, 0))); rw [← HW3.out, HE2.out])
      | (refine wpList_append_E (E := XE) Tryz.underlying39 infoX (by decide) rfl (.tmp 28) (.tmp 32) rfl B b.v b.Q rfl O3.out _ [x] rfl R3.out hq9.out hB3.out ?_; intro v4 w4 o4 g4 q4; have O4 := hide o4; have G4 := hide g4; have Q4 := hide q4; clear o4 g4 q4; obtain ⟨p9, c9, hv9⟩ := O4.out.form; obtain ⟨n2, hn2⟩ : ∃ k, (b.Q ++ [x] : List Rz).length = k := ⟨_, rfl⟩; rw [hn2] at hv9; subst hv9; have C4 : Hid (Chg (fun j => b.v.ownBlock = some j) w3 w4) := (show Chg _ _ _ from Chg.of_grown G4.out (fun j e _ => e)); have T4 := hide (HB4.out w4 C4.out))
      | (refine wpList_store_sl rfl 39 szr _ _ rfl bT 2 89 (TC b t) _ _ _ rfl rfl T4.out (by simp [TC]) ?_; intro w5 hb5 hu5)
      | fail)
    go_end0
    obtain rfl : n2 = b.Q.length + 1 := by rw [← hn2]; simp
    have C5 : Chg (fun j => j = bT) w4 w5 := Chg.of_but hu5 rfl
    rw [← HbT.out] at C5 hb5
    have hv : ∀ j, (Value.slice p9 (b.Q.length + 1) c9).ownBlock = some j → b.v.ownBlock = some j ∨ w3.heap.size ≤ j := fun j hj => (Q4.out j hj).imp (fun h => h) (fun h => Nat.le_of_eq h.symm)
    have s2 : SetS w2 b.S (t.R ++ [plR x]) := by rw [HXP.out]; exact S2.out
    have R5 := H1.out.addR s2 C12.out l3.out O4.out C4.out hv hb5 C5 HXO.out HLN.out
    rw [HS.out, HXP.out] at *
    refine ⟨rfl, _, R5, ?_, rfl, fun j hj => ?_⟩
    · have c1 : Chg b.G w w1 := Chg.of_below l1.out
      have c2 : Chg b.G w1 w2 := C12.out.mono (fun j _ e => .inr (.inl e))
      have c3 : Chg b.G w2 w3 := Chg.of_below l3.out
      have c4 : Chg b.G w3 w4 := C4.out.mono (fun j _ e => .inr (.inr (.inr e)))
      have c5 : Chg b.G w4 w5 := C5.mono (fun j _ e => .inl e)
      exact (((c1.trans c2).trans c3).trans c4).trans c5
    · rcases hj with hj | hj | hj | hj
      · exact .inl (.inl hj)
      · exact .inl (.inr (.inl hj))
      · exact .inl (.inr (.inr (.inl hj)))
      · have h3 := l3.out.size
        have h2 := C12.out.size
        have h1 := l1.out.size
        have hj' : (Value.slice p9 (b.Q ++ [x]).length c9).ownBlock = some j := hj
        rw [List.length_append, List.length_singleton] at hj'
        rcases hv j hj' with h | h
        · exact .inl (.inr (.inr (.inr h)))
        · exact .inr (by omega)
end Go.Proofs.YtcicekggeampcaaGreat

/-
  A store and a session beside each other.
-/
namespace Go.Proofs.YtcicekggeampcaaGreat
open Go.RowKit
/-- What changes blocks that are none of the store's leaves the store. -/
theorem LS.chg {w wr wr' : World} {D i : Nat} {s : SP} {O F : Nat → Prop} (h : LS w wr D i s O) (hc : Chg F wr wr') (hF : ∀ b, F b → O b ∧ w.heap.size ≤ b) (hn : NoCh wr F) : LS w wr' D i s O := by
  obtain ⟨M, vk, ks, h1, h2, h3, h4⟩ := h
  exact ⟨M, vk, ks, ⟨h1.st.chg hc (fun b hb hf => (h4 b (hF b hf).1).2 hb) hn, h1.hD, h1.hM, h1.hk, h1.lo.trans (hc.below h1.lo.size (fun k hk hf => by have := (hF k hf).2; omega))⟩, h2, h3, fun b hb => ⟨Nat.lt_of_lt_of_le (h4 b hb).1 hc.size, (h4 b hb).2⟩⟩
/-- Blocks that are new are none of the store's. -/
theorem LS.more {w wr wr' : World} {D i : Nat} {s : SP} {O O' : Nat → Prop} (h : LS w wr D i s O) (hb : Below wr.heap.size wr wr') (hO : ∀ b, O' b → O b ∨ (wr.heap.size ≤ b ∧ b < wr'.heap.size)) : LS w wr' D i s O' := by
  obtain ⟨M, vk, ks, h1, h2, h3, h4⟩ := h
  refine ⟨M, vk, ks, h1.kept hb, h2, h3, fun b hb' => ?_⟩
  rcases hO b hb' with h | h
  · exact ⟨Nat.lt_of_lt_of_le (h4 b h).1 hb.size, (h4 b h).2⟩
  · exact ⟨h.2, fun hm => by have := h1.st.lt hm; omega⟩
/-- What changes blocks that are none of the store's leaves the store; and new blocks are none of its. -/
theorem LS.step {w wr wr' : World} {D i : Nat} {s : SP} {O O' F : Nat → Prop} (h : LS w wr D i s O) (hc : Chg F wr wr') (hF : ∀ b, F b → O b ∧ w.heap.size ≤ b) (hn : NoCh wr F) (hO : ∀ b, O' b → (O b ∨ wr.heap.size ≤ b) ∧ b < wr'.heap.size) : LS w wr' D i s O' := by
  obtain ⟨M, vk, ks, h1, h2, h3, h4⟩ := h
  refine ⟨M, vk, ks, ⟨h1.st.chg hc (fun b hb hf => (h4 b (hF b hf).1).2 hb) hn, h1.hD, h1.hM, h1.hk, h1.lo.trans (hc.below h1.lo.size (fun k hk hf => by have := (hF k hf).2; omega))⟩, h2, h3, fun b hb => ⟨(hO b hb).2, fun hm => ?_⟩⟩
  rcases (hO b hb).1 with h5 | h5
  · exact (h4 b h5).2 hm
  · have := h1.st.lt hm
    omega
theorem SesAt.lt {w : World} {B X : Nat} {id : Int} {o : Option (Tb × Tx)} (h : SesAt w B X id o) {k : Nat} (hk : SG X o k) : k < w.heap.size := by
  cases o with
  | none => cases hk; exact h.x.lt
  | some z =>
    obtain ⟨b, t⟩ := z
    rcases hk with rfl | hk
    · exact h.x.lt
    · exact (h.tx b t rfl).lt hk
theorem SesAt.noch {w : World} {B X : Nat} {id : Int} {o : Option (Tb × Tx)} (h : SesAt w B X id o) : NoCh w (SG X o) := by
  intro k cur hb hk
  have hX : k ≠ X := fun e => by rw [e] at hb; exact cells_ne hb h.x (by decide) rfl
  cases o with
  | none => exact hX hk
  | some z =>
    obtain ⟨b, t⟩ := z
    have ht := h.tx b t rfl
    rcases hk with hk | hk | hk | hk | hk
    · exact hX hk
    · rw [hk] at hb; exact cells_ne hb ht.d (by decide) rfl
    · rw [hk] at hb; exact cells_map hb ht.set.block rfl
    · rw [hk] at hb; exact cells_map hb ht.buf.mp.block rfl
    · obtain ⟨_, _, cur', hc⟩ := ht.row.block hk
      exact cells_ne hb hc (by decide) rfl
/-- A store and a session that the law made at w0. -/
structure Duo (w0 w : World) (D i : Nat) (s : SP) (X : Nat) (id : Int) (o : Option (Tb × Tx)) : Prop where
  ls : LS w0 w D i s (SG X o)
  ss : SesAt w w0.heap.size X id o
theorem Duo.kept {w0 w w' : World} {D i : Nat} {s : SP} {X : Nat} {id : Int} {o : Option (Tb × Tx)} (h : Duo w0 w D i s X id o) (hb : Below w.heap.size w w') : Duo w0 w' D i s X id o := ⟨h.ls.kept hb, h.ss.kept hb⟩
/-- What the session does leaves the store. -/
theorem Duo.step {w0 w w' : World} {D i : Nat} {s : SP} {X : Nat} {id : Int} {o o' : Option (Tb × Tx)} (h : Duo w0 w D i s X id o) (hs : SesAt w' w0.heap.size X id o') {F : Nat → Prop} (hc : Chg F w w') (hF : ∀ k, F k → SG X o k) (hG : ∀ k, SG X o' k → SG X o k ∨ w.heap.size ≤ k) : Duo w0 w' D i s X id o' :=
  ⟨h.ls.step (hc.mono (fun k _ hk => hF k hk)) (fun _ hb => ⟨hb, h.ss.ge hb⟩) h.ss.noch (fun k hb => ⟨hG k hb, hs.lt hb⟩), hs⟩
end Go.Proofs.YtcicekggeampcaaGreat
