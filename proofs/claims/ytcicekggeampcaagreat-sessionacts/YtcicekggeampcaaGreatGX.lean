/-
  Texts that ride together: CtP CtM CtF.
-/
import Derived.Test.YtcicekggeampcaaGreatGG
/-
  What may stand behind others, plain: records, reads, spans, what touches what.
-/
namespace Go.Proofs.YtcicekggeampcaaGreat
open Go.RowKit
/-- What was read: whether a range, its begin, its end, what was there; and where that lies. -/
structure Rz where
  sc : Bool
  k : ByteArray
  t : ByteArray
  ps : List Pr
  ha : Option Addr
  hc : Nat
/-- A record: its session, its snapshot, whether it is strict, what it read, what it wrote; and where these lie. -/
structure Rc where
  ses : Int
  snap : Int
  st : Bool
  rs : List Rz
  ws : List Pr
  ra : Option Addr
  rc : Nat
  wa : Option Addr
  wc : Nat
/-- A read without where it lies. -/
def plR (x : Rz) : Bool × ByteArray × ByteArray × List Pr := (x.sc, x.k, x.t, x.ps)
/-- The keys from one on, below another. -/
abbrev Sp : Type := ByteArray × ByteArray
def inS (s : Sp) (k : ByteArray) : Bool := !lt k s.1 && lt k s.2
/-- A key with a nought behind it. -/
def nul (k : ByteArray) : ByteArray := k.append ⟨#[0]⟩
def aloneP (k : ByteArray) : Sp := (k, nul k)
def reachP (x : Rz) : Sp := if x.sc = true then (x.k, x.t) else aloneP x.k
/-- Whether a record wrote a key. -/
def wroteP (r : Rc) (k : ByteArray) : Bool := r.ws.any fun p => p.1.toList == k.toList
/-- Whether a read asked for a key. -/
def askP (x : Rz) (k : ByteArray) : Bool := (!x.sc && k.toList == x.k.toList) || (x.sc && (!lt k x.k && lt k x.t))
def touchP (r : Rc) (x : Rz) : Bool := r.ws.any fun p => askP x p.1
/-- Whether a record wrote a key of any span. -/
def hitP (l : List Sp) (r : Rc) : Bool := r.ws.any fun p => l.any fun s => inS s p.1
def spW (r : Rc) : List Sp := r.ws.map fun p => aloneP p.1
def spR (r : Rc) : List Sp := r.rs.map reachP
/-- The first that is so; -1: none is. -/
def fstI {α : Type} (f : α → Bool) : List α → Nat → Int
  | [], _ => -1
  | x :: l, i => if f x = true then (i : Int) else fstI f l (i + 1)
def clashP (r : Rc) (l : List Rc) : Int := fstI (hitP (spW r)) l 0
def staleP (r : Rc) (l : List Rc) : Int := fstI (hitP (spR r)) l 0
def mayP (r : Rc) (l : List Rc) : Bool := decide (0 ≤ clashP r l) || (r.st && decide (0 ≤ staleP r l))
/-- The greater of two. -/
def mxB (a b : ByteArray) : ByteArray := if lt a b = true then b else a
/-- The greatest end of the first ones. -/
def topE : List Sp → Nat → ByteArray
  | L, 0 => (L.getD 0 (em, em)).2
  | L, i + 1 => mxB (L.getD (i + 1) (em, em)).2 (topE L i)
/-- The first i spans have the greatest end of all up to them. -/
def Upp (S : List Sp) (i : Nat) (M : List Sp) : Prop := M.length = S.length ∧ ∀ j (h : j < M.length), M[j] = (if j < i then ((S.getD j (em, em)).1, topE S j) else S.getD j (em, em))
/-- Spans in order, as they are looked at. -/
def Ord (l M : List Sp) : Prop := ∃ S : List Sp, S.Perm l ∧ S.Pairwise (fun a b => lt b.1 a.1 = false) ∧ Upp S S.length M
/-- How many of the first ones begin no later than a key. -/
def beg (k : ByteArray) (M : List Sp) : Nat := (M.takeWhile fun s => !lt k s.1).length
def haveP (M : List Sp) (k : ByteArray) : Bool := decide (0 < beg k M) && lt k (M.getD (beg k M - 1) (em, em)).2
/-- Whether a key was read ahead. -/
def again (acc : List Rz) (x : Rz) : Bool := acc.any fun y => !x.sc && !y.sc && x.k.toList == y.k.toList
/-- What was read, of each key by its first read alone, and every range. -/
def ownA (acc : List Rz) : List Rz → List Rz
  | [] => acc
  | x :: l => if again acc x = true then ownA acc l else ownA (acc ++ [x]) l
def ownP (l : List Rz) : List Rz := ownA [] l
/-- Whether a read that begins so was seen. -/
def seenP (pre : List Rz) (x : Rz) : Bool := pre.any fun y => (y.sc == x.sc) && (y.k.toList == x.k.toList)
/-- What is kept of the first ones. -/
def keptP (acc pre : List Rz) : Prop := ∀ k : ByteArray, (acc.any fun y => !y.sc && k.toList == y.k.toList) = (pre.any fun y => !y.sc && k.toList == y.k.toList)
end Go.Proofs.YtcicekggeampcaaGreat

/-
  Spans, reads, records in cells and in rows.
-/
namespace Go.Proofs.YtcicekggeampcaaGreat
open Go.RowKit
/-- The cells of a span. -/
def SC (s : Sp) : List Value := [.string s.1, .string s.2]
theorem SC_one (s : Sp) : ∀ u ∈ SC s, u.oneCell' = true := by
  intro u hu
  simp only [SC, List.mem_cons, List.not_mem_nil, or_false] at hu
  rcases hu with rfl | rfl <;> rfl
def SE : Enc Sp := ⟨SC, 2, fun _ => rfl, SC_one⟩
def zs : Sp := (em, em)
/-- The cells of a read. -/
def XC (x : Rz) : List Value := [.bool x.sc, .string x.k, .string x.t, .slice x.ha x.ps.length x.hc]
theorem XC_one (x : Rz) : ∀ u ∈ XC x, u.oneCell' = true := by
  intro u hu
  simp only [XC, List.mem_cons, List.not_mem_nil, or_false] at hu
  rcases hu with rfl | rfl | rfl | rfl <;> rfl
def XE : Enc Rz := ⟨XC, 4, fun _ => rfl, XC_one⟩
def zx : Rz := ⟨false, em, em, [], none, 0⟩
/-- The cells of a record. -/
def RC (r : Rc) : List Value := [.int .i64 r.ses, .int .i64 r.snap, .bool r.st, .slice r.ra r.rs.length r.rc, .slice r.wa r.ws.length r.wc]
theorem RC_one (r : Rc) : ∀ u ∈ RC r, u.oneCell' = true := by
  intro u hu
  simp only [RC, List.mem_cons, List.not_mem_nil, or_false] at hu
  rcases hu with rfl | rfl | rfl | rfl | rfl <;> rfl
def RE : Enc Rc := ⟨RC, 5, fun _ => rfl, RC_one⟩
def zr : Rc := ⟨0, 0, false, [], [], none, 0, none, 0⟩
theorem Tryz.size58 : (Tryz.prog.info? 58).map (·.size) = some 4 := by kernel_rfl
theorem Tryz.size41 : (Tryz.prog.info? 41).map (·.size) = some 5 := by kernel_rfl
theorem zeroX (W : World) : (zeroValue 58).run Tryz.prog W = .ok (.agg (XC zx).toArray) W := by kernel_rfl
theorem zeroR (W : World) : (zeroValue 41).run Tryz.prog W = .ok (.agg (RC zr).toArray) W := by kernel_rfl
theorem infoX : ∃ i z, Tryz.prog.info? 58 = some i ∧ i.zero = some z ∧ i.size = XE.n ∧ i.bytes = 64 ∧ z.cells.size = XE.n := by
  obtain ⟨i, h1, h2, h3, h4⟩ := info_parts (show (Tryz.prog.info? 58).map (fun i => (i.zero, i.size, i.bytes)) = some (some (.agg (XC zx).toArray), 4, 64) by kernel_rfl)
  exact ⟨i, _, h1, h2, h3, h4, rfl⟩
/-- Where a read's pairs lie; a record's reads, its writes. -/
abbrev xv (x : Rz) : Value := .slice x.ha x.ps.length x.hc
abbrev rv (r : Rc) : Value := .slice r.ra r.rs.length r.rc
abbrev wv (r : Rc) : Value := .slice r.wa r.ws.length r.wc
/-- A read's pairs lie there. -/
def XOk (w : World) (x : Rz) : Prop := RdG PE w (xv x) x.ps
/-- A slice reads as reads, with their pairs. -/
structure RdX (w : World) (v : Value) (L : List Rz) : Prop where
  rd : RdG XE w v L
  ps : ∀ x ∈ L, XOk w x
/-- A record's reads and writes lie there. -/
structure ROk (w : World) (r : Rc) : Prop where
  rs : RdX w (rv r) r.rs
  ws : RdG PE w (wv r) r.ws
/-- A slice reads as records. -/
structure RdR9 (w : World) (v : Value) (L : List Rc) : Prop where
  rd : RdG RE w v L
  rs : ∀ r ∈ L, ROk w r
theorem XOk.kept {w w' : World} {x : Rz} (h : XOk w x) (hb : Below w.heap.size w w') : XOk w' x := RdG.kept h hb
theorem RdX.kept {w w' : World} {v : Value} {L : List Rz} (h : RdX w v L) (hb : Below w.heap.size w w') : RdX w' v L := ⟨h.rd.kept hb, fun x hx => (h.ps x hx).kept hb⟩
theorem ROk.kept {w w' : World} {r : Rc} (h : ROk w r) (hb : Below w.heap.size w w') : ROk w' r := ⟨h.rs.kept hb, h.ws.kept hb⟩
theorem RdX.nil (w : World) : RdX w (.slice none 0 0) [] := ⟨RdG_nil w, fun x hx => by cases hx⟩
theorem Blk.xsc {w : World} {b : Nat} {T : TypeId} {x : Rz} (h : Blk w b T (XC x)) : w.cell? ⟨b, 0, none⟩ = some (.bool x.sc) := h.cell (j := 0) rfl
theorem Blk.xk {w : World} {b : Nat} {T : TypeId} {x : Rz} (h : Blk w b T (XC x)) : w.cell? ⟨b, 1, none⟩ = some (.string x.k) := h.cell (j := 1) rfl
theorem Blk.rrs {w : World} {b : Nat} {T : TypeId} {r : Rc} (h : Blk w b T (RC r)) : w.cell? ⟨b, 3, none⟩ = some (rv r) := h.cell (j := 3) rfl
theorem Blk.rws {w : World} {b : Nat} {T : TypeId} {r : Rc} (h : Blk w b T (RC r)) : w.cell? ⟨b, 4, none⟩ = some (wv r) := h.cell (j := 4) rfl
/-- A new block: what lies there, what stays. -/
theorem newB {w w1 : World} {N : Nat} (HN : Hid (w.heap.size = N)) {A : List Value} {T : TypeId} (hw : w1 = w.alloc (.cells A.toArray T (0, 0))) : Hid (Blk w1 N T A) ∧ Hid (Below w.heap.size w w1) := by
  subst hw
  refine ⟨?_, (Below.refl _ _).alloc (Nat.le_refl _) _⟩
  have := Blk.new w T A
  rw [HN.out] at this
  exact this
end Go.Proofs.YtcicekggeampcaaGreat

/-
  What follows of Own, plain: once more nothing goes; ranges all stay; what is stale is stale still.
-/
namespace Go.Proofs.YtcicekggeampcaaGreat
open Go.RowKit
theorem own_app : ∀ (l m acc : List Rz), ownA acc (l ++ m) = ownA (ownA acc l) m
  | [], m, acc => rfl
  | x :: l, m, acc => by
    show (if again acc x = true then ownA acc (l ++ m) else ownA (acc ++ [x]) (l ++ m)) = ownA (if again acc x = true then ownA acc l else ownA (acc ++ [x]) l) m
    split
    · exact own_app l m acc
    · exact own_app l m _
/-- How many ranges. -/
def nsc (l : List Rz) : Nat := (l.filter fun x => x.sc).length
/-- A record with other reads. -/
def rdR (r : Rc) (Q : List Rz) (a : Option Addr) (c : Nat) : Rc := ⟨r.ses, r.snap, r.st, Q, r.ws, a, c, r.wa, r.wc⟩
/-- None is read again. -/
def Fr (acc : List Rz) : List Rz → Prop
  | [] => True
  | x :: l => again acc x = false ∧ Fr (acc ++ [x]) l
end Go.Proofs.YtcicekggeampcaaGreat
