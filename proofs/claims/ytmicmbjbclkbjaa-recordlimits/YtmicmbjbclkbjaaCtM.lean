/-
  Spans, reads, records in cells and in rows.
-/
import Derived.Test.YtmicmbjbclkbjaaBfM
import Derived.Test.YtmicmbjbclkbjaaCtP
namespace Go.Proofs.Ytmicmbjbclkbjaa
open Go.RowKit
/-- The cells of a span. -/
def SC (s : Sp) : List Value := [.string s.1, .string s.2]
theorem SC_one (s : Sp) : ∀ u ∈ SC s, u.oneCell' = true := by
  intro u hu
  simp only [SC, List.mem_cons, List.not_mem_nil, or_false] at hu
  rcases hu with rfl | rfl <;> rfl
def SE : Enc Sp := ⟨SC, 2, fun _ => rfl, SC_one⟩
def zs : Sp := (em, em)
/-- The cells of a read. -/
def XC (x : Rz) : List Value := [.bool x.sc, .string x.k, .string x.t, .slice x.ha x.ps.length x.hc]
theorem XC_one (x : Rz) : ∀ u ∈ XC x, u.oneCell' = true := by
  intro u hu
  simp only [XC, List.mem_cons, List.not_mem_nil, or_false] at hu
  rcases hu with rfl | rfl | rfl | rfl <;> rfl
def XE : Enc Rz := ⟨XC, 4, fun _ => rfl, XC_one⟩
def zx : Rz := ⟨false, em, em, [], none, 0⟩
/-- The cells of a record. -/
def RC (r : Rc) : List Value := [.int .i64 r.ses, .int .i64 r.snap, .bool r.st, .slice r.ra r.rs.length r.rc, .slice r.wa r.ws.length r.wc]
theorem RC_one (r : Rc) : ∀ u ∈ RC r, u.oneCell' = true := by
  intro u hu
  simp only [RC, List.mem_cons, List.not_mem_nil, or_false] at hu
  rcases hu with rfl | rfl | rfl | rfl | rfl <;> rfl
def RE : Enc Rc := ⟨RC, 5, fun _ => rfl, RC_one⟩
def zr : Rc := ⟨0, 0, false, [], [], none, 0, none, 0⟩
theorem Try.size39 : (Try.prog.info? 39).map (·.size) = some 4 := by kernel_rfl
theorem Try.size27 : (Try.prog.info? 27).map (·.size) = some 5 := by kernel_rfl
theorem zeroX (W : World) : (zeroValue 39).run Try.prog W = .ok (.agg (XC zx).toArray) W := by kernel_rfl
theorem zeroR (W : World) : (zeroValue 27).run Try.prog W = .ok (.agg (RC zr).toArray) W := by kernel_rfl
theorem infoX : ∃ i z, Try.prog.info? 39 = some i ∧ i.zero = some z ∧ i.size = XE.n ∧ i.bytes = 64 ∧ z.cells.size = XE.n := by
  obtain ⟨i, h1, h2, h3, h4⟩ := info_parts (show (Try.prog.info? 39).map (fun i => (i.zero, i.size, i.bytes)) = some (some (.agg (XC zx).toArray), 4, 64) by kernel_rfl)
  exact ⟨i, _, h1, h2, h3, h4, rfl⟩
theorem infoR : ∃ i z, Try.prog.info? 27 = some i ∧ i.zero = some z ∧ i.size = RE.n ∧ i.bytes = 72 ∧ z.cells.size = RE.n := by
  obtain ⟨i, h1, h2, h3, h4⟩ := info_parts (show (Try.prog.info? 27).map (fun i => (i.zero, i.size, i.bytes)) = some (some (.agg (RC zr).toArray), 5, 72) by kernel_rfl)
  exact ⟨i, _, h1, h2, h3, h4, rfl⟩
/-- Where a read's pairs lie; a record's reads, its writes. -/
abbrev xv (x : Rz) : Value := .slice x.ha x.ps.length x.hc
abbrev rv (r : Rc) : Value := .slice r.ra r.rs.length r.rc
abbrev wv (r : Rc) : Value := .slice r.wa r.ws.length r.wc
/-- A read's pairs lie there. -/
def XOk (w : World) (x : Rz) : Prop := RdG PE w (xv x) x.ps
/-- A slice reads as reads, with their pairs. -/
structure RdX (w : World) (v : Value) (L : List Rz) : Prop where
  rd : RdG XE w v L
  ps : ∀ x ∈ L, XOk w x
/-- A record's reads and writes lie there. -/
structure ROk (w : World) (r : Rc) : Prop where
  rs : RdX w (rv r) r.rs
  ws : RdG PE w (wv r) r.ws
/-- A slice reads as records. -/
structure RdR9 (w : World) (v : Value) (L : List Rc) : Prop where
  rd : RdG RE w v L
  rs : ∀ r ∈ L, ROk w r
theorem XOk.kept {w w' : World} {x : Rz} (h : XOk w x) (hb : Below w.heap.size w w') : XOk w' x := RdG.kept h hb
theorem RdX.kept {w w' : World} {v : Value} {L : List Rz} (h : RdX w v L) (hb : Below w.heap.size w w') : RdX w' v L := ⟨h.rd.kept hb, fun x hx => (h.ps x hx).kept hb⟩
theorem ROk.kept {w w' : World} {r : Rc} (h : ROk w r) (hb : Below w.heap.size w w') : ROk w' r := ⟨h.rs.kept hb, h.ws.kept hb⟩
theorem RdR9.kept {w w' : World} {v : Value} {L : List Rc} (h : RdR9 w v L) (hb : Below w.heap.size w w') : RdR9 w' v L := ⟨h.rd.kept hb, fun r hr => (h.rs r hr).kept hb⟩
theorem RdX.nil (w : World) : RdX w (.slice none 0 0) [] := ⟨RdG_nil w, fun x hx => by cases hx⟩
theorem RdR9.nil (w : World) : RdR9 w (.slice none 0 0) [] := ⟨RdG_nil w, fun x hx => by cases hx⟩
/-- What lies in a block's cells. -/
theorem Blk.sfrom {w : World} {b : Nat} {T : TypeId} {s : Sp} (h : Blk w b T (SC s)) : w.cell? ⟨b, 0, none⟩ = some (.string s.1) := h.cell (j := 0) rfl
theorem Blk.xsc {w : World} {b : Nat} {T : TypeId} {x : Rz} (h : Blk w b T (XC x)) : w.cell? ⟨b, 0, none⟩ = some (.bool x.sc) := h.cell (j := 0) rfl
theorem Blk.xk {w : World} {b : Nat} {T : TypeId} {x : Rz} (h : Blk w b T (XC x)) : w.cell? ⟨b, 1, none⟩ = some (.string x.k) := h.cell (j := 1) rfl
theorem Blk.xt {w : World} {b : Nat} {T : TypeId} {x : Rz} (h : Blk w b T (XC x)) : w.cell? ⟨b, 2, none⟩ = some (.string x.t) := h.cell (j := 2) rfl
theorem Blk.xp {w : World} {b : Nat} {T : TypeId} {x : Rz} (h : Blk w b T (XC x)) : w.cell? ⟨b, 3, none⟩ = some (xv x) := h.cell (j := 3) rfl
theorem Blk.rst {w : World} {b : Nat} {T : TypeId} {r : Rc} (h : Blk w b T (RC r)) : w.cell? ⟨b, 2, none⟩ = some (.bool r.st) := h.cell (j := 2) rfl
theorem Blk.rrs {w : World} {b : Nat} {T : TypeId} {r : Rc} (h : Blk w b T (RC r)) : w.cell? ⟨b, 3, none⟩ = some (rv r) := h.cell (j := 3) rfl
theorem Blk.rws {w : World} {b : Nat} {T : TypeId} {r : Rc} (h : Blk w b T (RC r)) : w.cell? ⟨b, 4, none⟩ = some (wv r) := h.cell (j := 4) rfl
/-- A new block: what lies there, what stays. -/
theorem newB {w w1 : World} {N : Nat} (HN : Hid (w.heap.size = N)) {A : List Value} {T : TypeId} (hw : w1 = w.alloc (.cells A.toArray T (0, 0))) : Hid (Blk w1 N T A) ∧ Hid (Below w.heap.size w w1) := by
  subst hw
  refine ⟨?_, (Below.refl _ _).alloc (Nat.le_refl _) _⟩
  have := Blk.new w T A
  rw [HN.out] at this
  exact this
/-- Two new blocks. -/
theorem newB2 {w w1 : World} {N : Nat} (HN : Hid (w.heap.size = N)) {A B : List Value} {T U : TypeId} (hw : w1 = (w.alloc (.cells A.toArray T (0, 0))).alloc (.cells B.toArray U (0, 0))) : Hid (Blk w1 N T A) ∧ Hid (Blk w1 (N + 1) U B) ∧ Hid (Below w.heap.size w w1) := by
  subst hw
  have e1 := Blk.new w T A
  have e2 := Blk.new (w.alloc (.cells A.toArray T (0, 0))) U B
  rw [World.size_alloc] at e2
  rw [HN.out] at e1 e2
  exact ⟨e1.alloc _, e2, ((Below.refl _ _).alloc (Nat.le_refl _) _).alloc (by simp) _⟩
theorem mk_fn : ∀ (fn : Fn) (first cap : Array Value) (w : World), (Instr.makeFunc fn first cap).run Try.prog w = .ok (.func fn first cap) w := fun _ _ _ _ => rfl
theorem nul_run (k : ByteArray) (h : k.size < 9223372036854775807) : ∀ W, (binOp .add 9 (.string k) (.string ⟨#[0]⟩)).run Try.prog W = .ok (.string (nul k)) W := fun W => by
  have e : nul k = k ++ ⟨#[0]⟩ := rfl
  rw [e]
  simp [binOp, go_sem]
  omega
end Go.Proofs.Ytmicmbjbclkbjaa
