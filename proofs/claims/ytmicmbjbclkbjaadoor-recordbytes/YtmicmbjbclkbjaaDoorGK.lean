/-
  Texts that ride together: Mixed Kit Base RowsB Region Vals Region2 Puts Args ArgsB.
-/
import Derived.Test.YtmicmbjbclkbjaaDoorChecked
import Derived.KernelRfl
import Derived.WalkKit
import Derived.ProofKit
import Derived.Deep.AppendSrc
import Derived.Laws.CopyOwn
import Derived.Laws.IdiomStrings
import Derived.Deep.Draws
import Derived.Deep.MidRow
import Derived.Deep.WholeRow
import Derived.Deep.Cut
import Derived.Deep.LoopGhost
import Derived.BigRegion
import Derived.BigQuiet
import Derived.Deep.QuietTactic
import Derived.StillTailTactics
import Derived.OwnWalk
import Derived.Lib.QuietBelow
import Derived.Stop.BytesEq
import Derived.Great.BuildSlice
import Derived.Lib.SlBytesConst
import Derived.Orders
import Derived.Deep.DrawnRows
import Derived.OpenShut
import Derived.ShutString
import Derived.ChangeOld
import Derived.SizedLaws
/-
  The program draws orders.
-/
namespace Go.Proofs.YtmicmbjbclkbjaaDoor
theorem Tryd.mixed : Tryd.prog.follows .mixedOrders = true := by kernel_rfl
end Go.Proofs.YtmicmbjbclkbjaaDoor

/-
  Laws that speak of no program of their own: what a byte slice reads as, what it owns, append from whatever source, make and copy of bytes, a conversion to a string.
-/
namespace Go.Proofs.YtmicmbjbclkbjaaDoor
open Go.RowKit

/-- Bytes as cells. -/
def By (l : List UInt8) : List Value := l.map fun b => Value.int .u8 (b.toNat : Int)
theorem By_length (l : List UInt8) : (By l).length = l.length := by simp [By]
theorem By_append (l m : List UInt8) : By (l ++ m) = By l ++ By m := by simp [By]
theorem By_one (l : List UInt8) : ∀ u ∈ By l, u.oneCell' = true := by
  intro u hu
  obtain ⟨_, _, rfl⟩ := List.mem_map.1 hu
  rfl
theorem By_get {l : List UInt8} {j : Nat} (h : j < l.length) : (By l)[j]? = some (.int .u8 (l[j].toNat : Int)) := by
  simp [By, h]

/-- The slice value v reads as the bytes l. -/
def Rd (w : World) (v : Value) (l : List UInt8) : Prop :=
  ∃ a cap, v = .slice a l.length cap ∧ l.length ≤ cap ∧ cap ≤ maxLen ∧ (a = none → cap = 0) ∧
    (0 < l.length → ∃ b off, a = some ⟨b, off, none⟩ ∧ b < w.heap.size ∧ ∀ j u, (By l)[j]? = some u → w.cell? ⟨b, off + j, none⟩ = some u)

theorem Rd_nil (w : World) : Rd w (.slice none 0 0) [] := ⟨none, 0, rfl, by simp, by simp, fun _ => rfl, fun h => by simp at h⟩

/-- The slice value v, of a row from block B on, is the call's own and holds the bytes l. -/
def Own (w : World) (B : Nat) (v : Value) (l : List UInt8) : Prop := w.ownsRow B 5 1 v l.length (By l)

theorem Own.rd {w : World} {B : Nat} {v : Value} {l : List UInt8} (h : Own w B v l) : Rd w v l := by
  have hc := h
  obtain ⟨h1, h2⟩ := h
  rcases h2 with ⟨rfl, hn⟩ | ⟨g, cap, cur, rfl, hg, hh, hnc, hcm, hcs, htk⟩
  · have : l = [] := List.eq_nil_of_length_eq_zero hn
    subst this
    exact Rd_nil w
  · refine ⟨some ⟨g, 0, none⟩, cap, rfl, hnc, hcm, fun h => by simp at h, fun _ => ⟨g, 0, rfl, ?_, fun j u hj => ?_⟩⟩
    · exact (Array.getElem?_eq_some_iff.1 hh).1
    · have := World.ownsRow.cells hc (g := g) rfl j u hj
      simpa [Addr.add_lit] using this

theorem Rd.kept {w w' : World} {v : Value} {l : List UInt8} (h : Rd w v l) (hb : Below w.heap.size w w') : Rd w' v l := by
  obtain ⟨a, cap, rfl, h1, h2, h3, h4⟩ := h
  refine ⟨a, cap, rfl, h1, h2, h3, fun hl => ?_⟩
  obtain ⟨b, off, rfl, hlt, hc⟩ := h4 hl
  exact ⟨b, off, rfl, Nat.lt_of_lt_of_le hlt hb.size, fun j u hj => (hb.cell (p := ⟨b, off + j, none⟩) hlt).trans (hc j u hj)⟩

theorem Own.kept {w w' : World} {B : Nat} {v : Value} {l : List UInt8} (h : Own w B v l) (hb : Below w.heap.size w w') : Own w' B v l := by
  obtain ⟨h1, h2⟩ := h
  refine ⟨h1, ?_⟩
  rcases h2 with h2 | ⟨g, cap, cur, hv, hg, hh, r⟩
  · exact Or.inl h2
  · have hlt : g < w.heap.size := (Array.getElem?_eq_some_iff.1 hh).1
    exact Or.inr ⟨g, cap, cur, hv, hg, by rw [hb.block g hlt]; exact hh, r⟩

theorem below_drewN (w : World) (B n : Nat) : Below B w (w.drewN n) := ⟨rfl, rfl, rfl, Nat.le_refl _, fun _ _ => rfl⟩

/-- The first m bytes of a slice. -/
theorem Rd.take {w : World} {a : Option Addr} {n cap : Nat} {l : List UInt8} (h : Rd w (.slice a n cap) l) (m : Nat) (hm : m ≤ n) : Rd w (.slice a m cap) (l.take m) := by
  obtain ⟨a', cap', e, h1, h2, h3, h4⟩ := h
  simp only [Value.slice.injEq] at e
  obtain ⟨rfl, rfl, rfl⟩ := e
  have hl : (l.take m).length = m := by simp; omega
  refine ⟨a, cap, by rw [hl], by omega, h2, h3, fun hp => ?_⟩
  obtain ⟨b, off, rfl, hlt, hc⟩ := h4 (by omega)
  refine ⟨b, off, rfl, hlt, fun j u hj => hc j u ?_⟩
  have hjm : j < m := by
    have := (List.getElem?_eq_some_iff.1 hj).1
    rw [By_length] at this
    omega
  rw [← hj]
  simp only [By, List.map_take]
  rw [List.getElem?_take_of_lt hjm]

/-- What stands behind the first m bytes of a slice, at a known place. -/
theorem Rd.drop {w : World} {b off n cap : Nat} {l : List UInt8} (h : Rd w (.slice (some ⟨b, off, none⟩) n cap) l) (m : Nat) (hm : m ≤ n) (off' : Nat) (ho : off' = off + m ∨ m = n) : Rd w (.slice (some ⟨b, off', none⟩) (n - m) (cap - m)) (l.drop m) := by
  obtain ⟨a', cap', e, h1, h2, h3, h4⟩ := h
  simp only [Value.slice.injEq] at e
  obtain ⟨rfl, rfl, rfl⟩ := e
  have hl : (l.drop m).length = l.length - m := by simp
  refine ⟨some ⟨b, off', none⟩, cap - m, by rw [hl], by omega, by omega, fun h => by simp at h, fun hp => ?_⟩
  rw [hl] at hp
  obtain ⟨b', off2, e, hlt, hc⟩ := h4 (by omega)
  simp only [Option.some.injEq, Addr.mk.injEq, and_true] at e
  obtain ⟨rfl, rfl⟩ := e
  have ho' : off' = off + m := by rcases ho with ho | ho <;> omega
  subst ho'
  refine ⟨b, off + m, rfl, hlt, fun j u hj => ?_⟩
  rw [show off + m + j = off + (m + j) from by omega]
  refine hc (m + j) u ?_
  rw [← hj]
  simp [By, List.map_drop]

theorem Own.mono {w : World} {B B' : Nat} {v : Value} {l : List UInt8} (h : Own w B v l) (hB : B' ≤ B) : Own w B' v l := by
  obtain ⟨h1, h2⟩ := h
  refine ⟨h1, ?_⟩
  rcases h2 with h2 | ⟨g, cap, cur, hv, hg, r⟩
  · exact Or.inl h2
  · exact Or.inr ⟨g, cap, cur, hv, Nat.le_trans hB hg, r⟩

theorem Rd.src {P : Program} {w : World} {v : Value} {l : List UInt8} (h : Rd w v l) (t : TypeId) (hk : P.underlying t = some (.slice 5)) : Src P 1 t v l.length (By l) w := by
  obtain ⟨a, cap, rfl, h1, h2, h3, h4⟩ := h
  cases a with
  | none =>
    have := h3 rfl
    have hl : l = [] := List.eq_nil_of_length_eq_zero (by omega)
    subst hl
    exact Src.ofNil w hk cap
  | some x =>
    refine Src.ofSlice w hk x l.length cap (By l) (by simp [By_length]) (fun j u hj => ?_) (By_one l)
    have hjl : j < l.length := by
      have := (List.getElem?_eq_some_iff.1 hj).1
      simpa [By_length] using this
    obtain ⟨b, off, e, _, hc⟩ := h4 (by omega)
    simp only [Option.some.injEq] at e
    subst e
    rw [Addr.add_lit]
    exact hc j u hj

theorem run_loadCells_none {P : Program} (w : World) (x : Addr) : (loadCells x 0).run P w = .ok #[] w := by
  simp [loadCells, loadCellsFrom]

/-- string(b). -/
theorem Rd.conv {P : Program} {w : World} {v : Value} {l : List UInt8} (h : Rd w v l) (src dst : TypeId) (hs : P.underlying src = some (.slice 5)) (he : P.underlying 5 = some (.int .u8)) (hd : P.underlying dst = some .string) :
    (convert src dst v).run P w = .ok (.string ⟨l.toArray⟩) w := by
  obtain ⟨a, cap, rfl, h1, h2, h3, h4⟩ := h
  cases a with
  | none =>
    have := h3 rfl
    have hl : l = [] := List.eq_nil_of_length_eq_zero (by omega)
    subst hl
    rw [run_convert_bytes_string w src dst 5 none _ _ hs he hd]
    simp [Conv.bytesToString]
    rfl
  | some x =>
    refine run_convert_bytes_back w src dst 5 x cap l hs he hd (fun j hj => ?_)
    obtain ⟨b, off, e, _, hc⟩ := h4 (by omega)
    simp only [Option.some.injEq] at e
    subst e
    rw [Addr.add_lit]
    exact hc j _ (By_get hj)

section
variable {P : Program} (w : World)

/-- append onto a row of the call's own, out of whatever source. -/
theorem run_append_mine (base : Nat) (t tx ty e : TypeId) (i : TypeInfo) (z : Value) (size bytes : Nat) (ht : P.underlying t = some (.slice e)) (hi : P.info? e = some i) (hz : i.zero = some z)
    (hsize : i.size = size) (hby : i.bytes = bytes) (hzs : z.cells.size = size)
    (v : Value) (n : Nat) (xs : List Value) (hown : w.ownsRow base e size v n xs)
    (x : Value) (m : Nat) (news : List Value) (hs : Src P size tx x m news w)
    (h63 : n + m ≤ maxLen) (hbytes : (n + m) * bytes ≤ 140737488355328) (hbase : base ≤ w.heap.size) :
    ∃ v' w', (Builtin.append_ #[t, tx] ty #[v, x]).run P w = .ok v' w' ∧ w'.ownsRow base e size v' (n + m) (xs ++ news) ∧ w.grownBy w' v.ownBlock := by
  subst hsize
  subst hby
  have hl := hs.newsLen
  have hsmall : n + m ≤ 9223372036854775807 := by simp only [maxLen] at h63; omega
  have hlen : (xs ++ news).length = (n + m) * i.size := by rw [List.length_append, hown.1, hl, Nat.add_mul]
  have grown : ∀ (old : Nat), old < n + m → ∀ (row : Option Nat),
      (w.drew.alloc (.cells ((xs ++ news).toArray ++ Builtin.zeroCells z.cells (grownCap w (n + m) old e - (n + m))) e)).ownsRow base e i.size
        (.slice (some ⟨w.heap.size, 0, none⟩) (n + m) (grownCap w (n + m) old e)) (n + m) (xs ++ news) ∧
      w.grownBy (w.drew.alloc (.cells ((xs ++ news).toArray ++ Builtin.zeroCells z.cells (grownCap w (n + m) old e - (n + m))) e)) row := by
    intro old ho row
    have hge := grownCap_ge w (n + m) old e
    have hcm : grownCap w (n + m) old e ≤ maxLen := grownCap_le_maxLen w (n + m) old e h63
    refine ⟨⟨hlen, .inr ⟨w.heap.size, _, _, rfl, hbase, heap_alloc_new w.drew _, hge, hcm, ?_, ?_⟩⟩, ⟨rfl, rfl, rfl, by simp, fun k hk _ => Below.heap_alloc w.drew _ k hk⟩⟩
    · simp only [Array.size_append, List.size_toArray, size_zeroCells, hzs, hlen, ← Nat.add_mul]
      congr 1
      omega
    · simp only [Array.toList_append]
      rw [← hlen]
      exact List.take_left
  rcases hown.2 with ⟨rfl, rfl⟩ | ⟨g, cap, cur, rfl, hbg, hg, hnc, hcm, hcs, htake⟩
  · have hx : xs = [] := List.eq_nil_of_length_eq_zero (by simpa using hown.1)
    subst hx
    by_cases hm : m = 0
    · subst hm
      have hn : news = [] := List.eq_nil_of_length_eq_zero (by simpa using hl)
      subst hn
      refine ⟨.slice none 0 0, w, ?_, World.ownsRow_nil w base e i.size, ⟨rfl, rfl, rfl, Nat.le_refl _, fun _ _ _ => rfl⟩⟩
      rcases hs.kind with ⟨e', hk⟩ | hk <;> simp [Builtin.append_, run_underlying ht, run_underlying hk, sizeOf, typeInfo, hi, hs.len, hs.cells]
    · have hr := run_append_grow_src (P := P) w t tx ty e i z ht hi hz none 0 0 [] (run_firstCells_none w.drew i.size 0 0 0) x m news hs (by omega) (by omega) (growslice_fits (by omega) hbytes)
      have hgr := grown 0 (by omega) (Value.ownBlock (.slice none 0 0))
      exact ⟨_, _, hr, hgr.1, hgr.2⟩
  · by_cases hroom : n + m ≤ cap
    · have hfit : n * i.size + news.length ≤ cur.size := by rw [hl, hcs, ← Nat.add_mul]; exact Nat.mul_le_mul_right _ hroom
      have hst := run_storeCells_at P g (n * i.size) e news 0 cur w hg (by simpa using hfit) hs.one
      simp only [Nat.add_zero] at hst
      have hr : (Builtin.append_ #[t, tx] ty #[.slice (some ⟨g, 0, none⟩) n cap, x]).run P w =
          .ok (.slice (some ⟨g, 0, none⟩) (n + m) cap) (w.setRow g (cur.toList.take (n * i.size) ++ news ++ cur.toList.drop (n * i.size + news.length)).toArray) := by
        rcases hs.kind with ⟨e', hk⟩ | hk <;> simp [Builtin.append_, run_underlying ht, run_underlying hk, sizeOf, typeInfo, hi, hs.len, hroom, hs.cells, Addr.add_lit, hst]
      refine ⟨_, _, hr, ⟨hlen, .inr ⟨g, cap, _, rfl, hbg, setRow_heap w g cur _ e _ hg, hroom, hcm, ?_, ?_⟩⟩, ⟨rfl, rfl, rfl, by simp, fun k _ hk => setRow_other w g k _ (fun e => hk (by simp [Value.ownBlock, e]))⟩⟩
      · simp only [List.size_toArray, List.length_append, List.length_take, List.length_drop, Array.length_toList]
        omega
      · rw [htake, ← hlen]
        exact List.take_left
    · have holds : ∀ j u, xs[j]? = some u → w.drew.cell? ((⟨g, 0, none⟩ : Addr).add j) = some u := fun j u hj => by simpa using hown.cells (g := g) rfl j u hj
      have hr := run_append_grow_src (P := P) w t tx ty e i z ht hi hz (some ⟨g, 0, none⟩) n cap xs (run_firstCells_some w.drew i.size n ⟨g, 0, none⟩ n cap xs hown.1 holds) x m news hs (by omega) (by omega) (growslice_fits (by omega) hbytes)
      have hgr := grown cap (by omega) (Value.ownBlock (.slice (some ⟨g, 0, none⟩) n cap))
      exact ⟨_, _, hr, hgr.1, hgr.2⟩

theorem wpList_append_mine {ops : Array Oper} {rest : List Oper} {o : Oper} {a : Act} {Q : Exit → Act → World → Prop} (hgd : o.guard = none) (s x : Operand) (t tx : TypeId)
    (ho : o.op = .call { callee := .builtin .append, args := #[s, x], argTypes := #[t, tx] })
    (base : Nat) (e : TypeId) (i : TypeInfo) (z : Value) (size bytes : Nat) (ht : P.underlying t = some (.slice e)) (hi : P.info? e = some i) (hz : i.zero = some z)
    (hsize : i.size = size) (hby : i.bytes = bytes) (hzs : z.cells.size = size)
    (v : Value) (n : Nat) (xs : List Value) (hv : a.eval s = v) (hown : w.ownsRow base e size v n xs)
    (xv : Value) (m : Nat) (news : List Value) (hx : a.eval x = xv) (hs : Src P size tx xv m news w)
    (h63 : n + m ≤ maxLen) (hbytes : (n + m) * bytes ≤ 140737488355328) (hbase : base ≤ w.heap.size)
    (h : ∀ v' w', w'.ownsRow base e size v' (n + m) (xs ++ news) → w.grownBy w' v.ownBlock → wpList P ops Q rest (a.put o.dst v') w') : wpList P ops Q (o :: rest) a w := by
  refine wpList_plain hgd fun K hK => ?_
  obtain ⟨v', w', hr, h2, h3⟩ := run_append_mine (P := P) w base t tx o.type e i z size bytes ht hi hz hsize hby hzs v n xs hown xv m news hs h63 hbytes hbase
  unfold Oper.wp execOp
  simp only [ho, resolve, invoke, builtin, Sem.run_bind, Sem.run_pure, Result.andThen_ok, List.map_toArray, List.map_cons, List.map_nil, hv, hx, hr]
  exact hK _ _ (h v' w' h2 h3)

/-- A row that the call owns stays the call's while its block is written by an append: below its base nothing turns. -/
theorem below_of_grown {B : Nat} {v : Value} {n : Nat} {xs : List Value} {e size : Nat} {w' : World} (hown : w.ownsRow B e size v n xs) (hg : w.grownBy w' v.ownBlock) (hB : B ≤ w.heap.size) : Below B w w' :=
  (Below.refl B w).grown hg hB (fun k hk => (hown.lt k hk).1)

/-- append of bytes. -/
theorem wpList_append_bytes_g {ops : Array Oper} {rest : List Oper} {o : Oper} {a : Act} {Q : Exit → Act → World → Prop} (hgd : o.guard = none) (s x : Operand) (t tx : TypeId)
    (ho : o.op = .call { callee := .builtin .append, args := #[s, x], argTypes := #[t, tx] })
    (base : Nat) (i : TypeInfo) (ht : P.underlying t = some (.slice 5)) (hi : P.info? 5 = some i) (hz : i.zero = some (.int .u8 0))
    (hsize : i.size = 1) (hby : i.bytes = 1)
    (v : Value) (l : List UInt8) (hv : a.eval s = v) (hown : Own w base v l)
    (xv : Value) (m : List UInt8) (hx : a.eval x = xv) (hs : Src P 1 tx xv m.length (By m) w)
    (hbytes : l.length + m.length ≤ 140737488355328) (hbase : base ≤ w.heap.size)
    (h : ∀ v' w', Own w' base v' (l ++ m) → Below base w w' → w.grownBy w' v.ownBlock → wpList P ops Q rest (a.put o.dst v') w') : wpList P ops Q (o :: rest) a w := by
  refine wpList_append_mine w hgd s x t tx ho base 5 i (.int .u8 0) 1 1 ht hi hz hsize hby rfl v l.length (By l) hv hown xv m.length (By m) hx hs (by simp only [maxLen]; omega) (by omega) hbase ?_
  intro v' w' h1 h2
  refine h v' w' ?_ (below_of_grown w hown h2 hbase) h2
  unfold Own
  rw [List.length_append, By_append]
  exact h1

/-- append of bytes. -/
theorem wpList_append_bytes {ops : Array Oper} {rest : List Oper} {o : Oper} {a : Act} {Q : Exit → Act → World → Prop} (hgd : o.guard = none) (s x : Operand) (t tx : TypeId)
    (ho : o.op = .call { callee := .builtin .append, args := #[s, x], argTypes := #[t, tx] })
    (base : Nat) (i : TypeInfo) (ht : P.underlying t = some (.slice 5)) (hi : P.info? 5 = some i) (hz : i.zero = some (.int .u8 0))
    (hsize : i.size = 1) (hby : i.bytes = 1)
    (v : Value) (l : List UInt8) (hv : a.eval s = v) (hown : Own w base v l)
    (xv : Value) (m : List UInt8) (hx : a.eval x = xv) (hs : Src P 1 tx xv m.length (By m) w)
    (hbytes : l.length + m.length ≤ 140737488355328) (hbase : base ≤ w.heap.size)
    (h : ∀ v' w', Own w' base v' (l ++ m) → Below base w w' → wpList P ops Q rest (a.put o.dst v') w') : wpList P ops Q (o :: rest) a w := by  exact wpList_append_bytes_g w hgd s x t tx ho base i ht hi hz hsize hby v l hv hown xv m hx hs hbytes hbase (fun v' w' h1 h2 _ => h v' w' h1 h2)

/-- What lies in another block than the one that is appended to stays. -/
theorem Own.apart {w w' : World} {B' : Nat} {v u : Value} {m : List UInt8} (hu : Own w B' u m) (hlt : ∀ k, v.ownBlock = some k → k < B') (hg : w.grownBy w' v.ownBlock) : Own w' B' u m := by
  refine World.ownsRow.kept hu hg ?_
  cases hk : u.ownBlock with
  | none => exact .inl rfl
  | some k =>
    refine .inr fun e => ?_
    have := hlt k e.symm
    have := (World.ownsRow.lt hu k hk).1
    omega
end

#print axioms wpList_append_bytes
#print axioms Rd.conv
end Go.Proofs.YtmicmbjbclkbjaaDoor

/-
  Laws of no package: blocks, parts of slices, what the call owns, rows of cells that are built, loaded and stored.
-/
namespace Go.Proofs.YtmicmbjbclkbjaaDoor
open Go.RowKit
def gB (b : List UInt8) (i : Nat) : UInt8 := b.getD i 0
/-- Block b of w is of type T and holds the cells cs. -/
def Blk (w : World) (b : Nat) (T : TypeId) (cs : List Value) : Prop := w.heap[b]? = some (.cells cs.toArray T (0, 0))
theorem Blk.lt {w : World} {b : Nat} {T : TypeId} {cs : List Value} (h : Blk w b T cs) : b < w.heap.size := (Array.getElem?_eq_some_iff.1 h).1
theorem Blk.cell {w : World} {b : Nat} {T : TypeId} {cs : List Value} (h : Blk w b T cs) {j : Nat} {v : Value} (hj : cs[j]? = some v) : w.cell? ⟨b, j, none⟩ = some v := by
  unfold Blk at h
  simp [World.cell?, h, hj]
theorem Blk.frozen {w : World} {b : Nat} {T : TypeId} {cs : List Value} (h : Blk w b T cs) (j : Nat) : w.frozen? ⟨b, j, none⟩ = false := by
  unfold Blk at h
  simp [World.frozen?, h]
theorem Blk.set {w : World} {b : Nat} {T : TypeId} {cs : List Value} (h : Blk w b T cs) (j : Nat) (v : Value) : Blk (w.setCell ⟨b, j, none⟩ v) b T (cs.set j v) := by
  unfold Blk at *
  simp [World.setCell, Array.getElem?_modify, h]
theorem Blk.set_other {w : World} {b : Nat} {T : TypeId} {cs : List Value} (h : Blk w b T cs) {c : Nat} (hc : b ≠ c) (j : Nat) (v : Value) : Blk (w.setCell ⟨c, j, none⟩ v) b T cs := by
  unfold Blk at *
  rw [Below.heap_setCell _ _ _ _ hc]; exact h
theorem Blk.new (w : World) (T : TypeId) (cs : List Value) : Blk (w.alloc (.cells cs.toArray T (0, 0))) w.heap.size T cs := by
  show (w.heap.push _)[w.heap.size]? = _
  simp
theorem Blk.range {w : World} {b : Nat} {T : TypeId} {cs : List Value} (h : Blk w b T cs) (o : Nat) (ds : List Value) (hd : ∀ j v, ds[j]? = some v → cs[o + j]? = some v) : w.rangeAt b o ds :=
  fun j v hj => h.cell (hd j v hj)
theorem Blk.range0 {w : World} {b : Nat} {T : TypeId} {cs : List Value} (h : Blk w b T cs) : w.rangeAt b 0 cs := h.range 0 cs (fun j v hj => by simpa using hj)
theorem Blk.there {w : World} {b : Nat} {T : TypeId} {cs : List Value} (h : Blk w b T cs) (o n : Nat) (hn : o + n ≤ cs.length) : w.there b o n := fun j hj =>
  ⟨by rw [h.cell (v := cs[o + j]'(by omega)) (by simp)]; rfl, h.frozen _⟩
/-- cs, from place o on written over by ds. -/
def over (cs : List Value) (o : Nat) (ds : List Value) : List Value := cs.take o ++ ds ++ cs.drop (o + ds.length)
theorem over_length {cs : List Value} {o : Nat} {ds : List Value} (h : o + ds.length ≤ cs.length) : (over cs o ds).length = cs.length := by simp [over]; omega
theorem over_cons (cs : List Value) (o : Nat) (d : Value) (ds : List Value) (h : o + (d :: ds).length ≤ cs.length) : over (cs.set o d) (o + 1) ds = over cs o (d :: ds) := by
  have h' : o < cs.length := by simp at h; omega
  unfold over
  have e1 : (cs.set o d).take (o + 1) = cs.take o ++ [d] := by
    rw [List.set_eq_take_append_cons_drop, if_pos h', List.take_append, List.take_of_length_le (by simp; omega)]
    have : o + 1 - (cs.take o).length = 1 := by simp; omega
    rw [this]
    rfl
  have e2 : (cs.set o d).drop (o + 1 + ds.length) = cs.drop (o + (d :: ds).length) := by
    rw [List.drop_set, if_pos (by omega)]
    congr 1
    simp; omega
  rw [e1, e2]
  simp
theorem Blk.over {b : Nat} {T : TypeId} : ∀ (ds : List Value) {w : World} {cs : List Value} (_ : Blk w b T cs) (o : Nat) (_ : o + ds.length ≤ cs.length), Blk (w.setCells b o ds) b T (over cs o ds)
  | [], w, cs, h, o, _ => by simpa [World.setCells, Go.Proofs.YtmicmbjbclkbjaaDoor.over] using h
  | d :: ds, w, cs, h, o, hl => by
    rw [World.setCells, ← over_cons cs o d ds hl]
    exact Blk.over ds (h.set o d) (o + 1) (by simp at hl ⊢; omega)
/-- As w but for block b; new blocks may be there. -/
structure But (b : Nat) (w w' : World) : Prop where
  os : w'.os = w.os
  tape : w'.tape = w.tape
  output : w'.output = w.output
  size : w.heap.size ≤ w'.heap.size
  block : ∀ k, k < w.heap.size → k ≠ b → w'.heap[k]? = w.heap[k]?
theorem But.refl (b : Nat) (w : World) : But b w w := ⟨rfl, rfl, rfl, Nat.le_refl _, fun _ _ _ => rfl⟩
theorem But.trans {b : Nat} {x y z : World} (h : But b x y) (k : But b y z) : But b x z :=
  ⟨k.os.trans h.os, k.tape.trans h.tape, k.output.trans h.output, Nat.le_trans h.size k.size, fun i hi hn => (k.block i (Nat.lt_of_lt_of_le hi h.size) hn).trans (h.block i hi hn)⟩
theorem But.of_below {b : Nat} {w w' : World} (h : Below w.heap.size w w') : But b w w' := ⟨h.os, h.tape, h.output, h.size, fun k hk _ => h.block k hk⟩
theorem But.below {b : Nat} {w w' : World} (h : But b w w') {B : Nat} (hB : B ≤ b) (hs : B ≤ w.heap.size) : Below B w w' :=
  ⟨h.os, h.tape, h.output, h.size, fun k hk => h.block k (by omega) (by omega)⟩
theorem But.drewN (b n : Nat) (w : World) : But b w (w.drewN n) := ⟨rfl, rfl, rfl, Nat.le_refl _, fun _ _ _ => rfl⟩
theorem But.drew (b : Nat) (w : World) : But b w w.drew := ⟨rfl, rfl, rfl, Nat.le_refl _, fun _ _ _ => rfl⟩
theorem But.setCell (b : Nat) (w : World) (j : Nat) (v : Value) : But b w (w.setCell ⟨b, j, none⟩ v) :=
  ⟨rfl, rfl, rfl, by simp [World.setCell], fun k _ hn => Below.heap_setCell _ _ _ _ hn⟩
theorem But.setCells (b : Nat) : ∀ (ds : List Value) (o : Nat) (w : World), But b w (w.setCells b o ds)
  | [], _, w => But.refl b w
  | d :: ds, o, w => by
    rw [World.setCells]
    exact (But.setCell b w o d).trans (But.setCells b ds (o + 1) _)
theorem But.alloc (b : Nat) (w : World) (o : Obj) : But b w (w.alloc o) :=
  ⟨rfl, rfl, rfl, by simp, fun k hk _ => Below.heap_alloc _ _ _ hk⟩
theorem Blk.but {w w' : World} {b : Nat} {T : TypeId} {cs : List Value} (h : Blk w b T cs) {c : Nat} (hb : But c w w') (hc : b ≠ c) : Blk w' b T cs := (hb.block b h.lt hc).trans h
theorem Blk.kept {w w' : World} {b : Nat} {T : TypeId} {cs : List Value} (h : Blk w b T cs) (hb : Below w.heap.size w w') : Blk w' b T cs := (hb.block b h.lt).trans h
theorem Blk.drewN {w : World} {b : Nat} {T : TypeId} {cs : List Value} (h : Blk w b T cs) (n : Nat) : Blk (w.drewN n) b T cs := h
theorem Blk.drew {w : World} {b : Nat} {T : TypeId} {cs : List Value} (h : Blk w b T cs) : Blk w.drew b T cs := h
theorem Blk.alloc {w : World} {b : Nat} {T : TypeId} {cs : List Value} (h : Blk w b T cs) (o : Obj) : Blk (w.alloc o) b T cs := h.but (c := w.heap.size) (But.alloc _ w o) (Nat.ne_of_lt h.lt)
/-- The slice v lies in no cell of block b. -/
def Off (b : Nat) (v : Value) : Prop := ∀ c off n cap, v = .slice (some ⟨c, off, none⟩) n cap → 0 < n → c ≠ b
theorem Rd.but {w w' : World} {v : Value} {l : List UInt8} {b : Nat} (h : Rd w v l) (hb : But b w w') (ho : Off b v) : Rd w' v l := by
  obtain ⟨a, cap, rfl, h1, h2, h3, h4⟩ := h
  refine ⟨a, cap, rfl, h1, h2, h3, fun hl => ?_⟩
  obtain ⟨c, off, rfl, hlt, hc⟩ := h4 hl
  have hn := ho c off _ _ rfl hl
  refine ⟨c, off, rfl, Nat.lt_of_lt_of_le hlt hb.size, fun j u hj => ?_⟩
  rw [← hc j u hj]
  simp only [World.cell?]
  rw [hb.block c hlt hn]
theorem over_all (cs ds : List Value) (h : cs.length = ds.length) : over cs 0 ds = ds := by
  simp [over, h]
/-- A whole array or struct into the block that was made last. -/
theorem wpList_store_new {P : Program} {ops : Array Oper} {rest : List Oper} {op : Oper} {a : Act} {Q : Exit → Act → World → Prop} (hgd : op.guard = none) (ty : TypeId) (x y : Operand) (ho : op.op = .store ty x y)
    (w0 : World) (c cs : Array Value) (g : Nat) (hx : a.eval x = .pointer (some ⟨g, 0, none⟩)) (hy : a.eval y = .agg cs) (hg : g = w0.heap.size)
    (hi : (P.info? ty).map (·.size) = some cs.size) (hc : c.size = cs.size) (h1 : cs.all (·.oneCell') = true)
    (h : wpList P ops Q rest (a.put op.dst undef) (w0.alloc (.cells cs ty))) : wpList P ops Q (op :: rest) a (w0.alloc (.cells c ty)) := by
  subst hg
  refine wpList_plain hgd fun K hK => ?_
  have hK' := hK _ _ h
  unfold Oper.wp execOp
  simp only [ho, hx, hy, Sem.run_bind, run_storeAt_new w0 ty c cs hi hc h1, Result.andThen_ok]
  exact hK'
theorem all_one {l : List Value} (h : ∀ v ∈ l, v.oneCell' = true) : l.toArray.all (·.oneCell') = true := all_oneCell_toArray h
theorem Tryd.size5 : (Tryd.prog.info? 5).map (·.size) = some 1 := by kernel_rfl
/-- copy, of bytes, into the middle of a block. -/
theorem wpList_copy_bytes {P : Program} {w : World} {ops : Array Oper} {rest : List Oper} {o : Oper} {a : Act} {Q : Exit → Act → World → Prop} (hgd : o.guard = none) (d s : Operand) (dT sT : TypeId)
    (ho : o.op = .call { callee := .builtin .copy, args := #[d, s], argTypes := #[dT, sT] }) (elem : TypeId) (hu : P.underlying dT = some (.slice elem)) (hsz : (P.info? elem).map (·.size) = some 1)
    (b off dLen dCap : Nat) (v : Value) (l : List UInt8) (hd : a.eval d = .slice (some ⟨b, off, none⟩) dLen dCap) (hs : a.eval s = v) (hr : Rd w v l) (X : List UInt8) (c : Nat) (hX : l.take dLen = X) (hXc : X.length = c)
    (T : TypeId) (cs : List Value) (hB : Blk w b T cs) (hfit : off + dLen ≤ cs.length)
    (h : wpList P ops Q rest (a.put o.dst (goInt c)) (w.setCells b off (By X))) : wpList P ops Q (o :: rest) a w := by
  subst hX hXc
  obtain ⟨ad, cap, rfl, h1, h2, h3, h4⟩ := hr
  by_cases h0 : Nat.min l.length dLen = 0
  · have e : l.take dLen = [] := List.eq_nil_of_length_eq_zero (by rw [List.length_take, Nat.min_comm]; exact h0)
    rw [e] at h
    exact wpList_copy_nothing hgd d s dT sT ho elem hu hsz _ _ _ _ _ _ hd hs h0 h
  · have hp : 0 < l.length := by
      rcases Nat.eq_zero_or_pos l.length with h | h
      · rw [h] at h0; exact absurd (Nat.zero_min _) h0
      · exact h
    obtain ⟨c, of, rfl, hlt, hc⟩ := h4 hp
    have hlen : (By (l.take dLen)).length = Nat.min l.length dLen := by rw [By_length, List.length_take, Nat.min_comm]
    have hmin : Nat.min l.length dLen ≤ dLen := Nat.min_le_right _ _
    refine wpList_plain hgd fun K hK => ?_
    have hrun := run_copy_cells (P := P) w dT sT o.type elem b off dLen dCap ⟨c, of, none⟩ l.length cap (By (l.take dLen)) hu hsz hlen
      (fun j v hj => by
        rw [Addr.add_mid]
        refine hc j v ?_
        have hj' : j < (l.take dLen).length := by have := (List.getElem?_eq_some_iff.1 hj).1; rwa [By_length] at this
        rw [← hj, By, By, List.map_take, List.getElem?_take_of_lt (by rw [List.length_take] at hj'; omega)])
      (fun j hj => by rw [hB.cell (v := cs[off + j]'(by omega)) (by simp)]; rfl) (fun j _ => hB.frozen _) (By_one _)
    unfold Oper.wp
    simp [execOp, ho, resolve, invoke, builtin, hd, hs, hrun, Result.andThen]
    have := hK _ _ h
    rw [By_length]
    exact this
/-- A slice from place c on. -/
theorem slice_from {P : Program} (hu : P.underlying 28 = some (.slice 5)) (hsz : (P.info? 5).map (·.size) = some 1) (a : Option Addr) (n cap c : Nat) (hc : c ≤ n) (hn : n ≤ cap) :
    ∃ a', (∀ W, (Instr.sliceAt 28 (.slice a n cap) (some (.int .i64 (c : Int))) none none).run P W = .ok (.slice a' (n - c) (cap - c)) W) ∧
      (∀ w l, Rd w (.slice a n cap) l → Rd w (.slice a' (n - c) (cap - c)) (l.drop c)) ∧ (∀ w l b, Rd w (.slice a n cap) l → Off b (.slice a n cap) → Off b (.slice a' (n - c) (cap - c))) := by
  have hcn : (c : Int) ≤ (n : Int) := by omega
  refine ⟨if cap = c then a else a.map (·.add c), fun W => ?_, fun w l hr => ?_, fun w l b hr ho => ?_⟩
  · cases hq : P.info? 5 with
    | none => simp [hq] at hsz
    | some i =>
      have hi : i.size = 1 := by simpa [hq] using hsz
      simp [Instr.sliceAt, Instr.slice, run_underlying hu, Instr.sliceBounds, run_sliceBound, hcn, sizeOf, typeInfo, hq, hi]
  · obtain ⟨a0, cap0, e, h1, h2, h3, h4⟩ := hr
    simp only [Value.slice.injEq] at e
    obtain ⟨rfl, rfl, rfl⟩ := e
    refine ⟨if cap = c then a else a.map (·.add c), cap - c, by simp, by simp; omega, by omega, fun h => ?_, fun hp => ?_⟩
    · by_cases hcc : cap = c
      · omega
      · rw [if_neg hcc] at h
        have := h3 (by simpa using h)
        omega
    · simp at hp
      obtain ⟨b, off, rfl, hlt, hcell⟩ := h4 (by omega)
      rw [if_neg (by omega)]
      refine ⟨b, off + c, by simp [Addr.add_mid], hlt, fun j u hj => ?_⟩
      rw [Nat.add_assoc]
      refine hcell (c + j) u ?_
      rw [← hj]
      simp [By, List.getElem?_drop]
  · intro b' off' n' cap' e hp
    simp only [Value.slice.injEq] at e
    obtain ⟨e1, rfl, rfl⟩ := e
    obtain ⟨a0, cap0, e, h1, h2, h3, h4⟩ := hr
    simp only [Value.slice.injEq] at e
    obtain ⟨rfl, rfl, rfl⟩ := e
    obtain ⟨d, off, rfl, hlt, hcell⟩ := h4 (by omega)
    rw [if_neg (by omega)] at e1
    simp [Addr.add_mid] at e1
    have := ho d off _ _ rfl (by omega)
    omega
theorem slice_to {P : Program} (hu : P.underlying 28 = some (.slice 5)) (hsz : (P.info? 5).map (·.size) = some 1) (a : Option Addr) (n cap c : Nat) (hc : c ≤ n) (hn : n ≤ cap) (h0 : 0 < c) (w : World) (l : List UInt8) (hr : Rd w (.slice a n cap) l) :
    (∀ W, (Instr.sliceAt 28 (.slice a n cap) none (some (.int .i64 (c : Int))) none).run P W = .ok (.slice a c cap) W) := fun W => by
  have hcn : (c : Int) ≤ (cap : Int) := by omega
  obtain ⟨a0, cap0, e, h1, h2, h3, h4⟩ := hr
  simp only [Value.slice.injEq] at e
  obtain ⟨rfl, rfl, rfl⟩ := e
  obtain ⟨d, off, rfl, hlt, hcell⟩ := h4 (by omega)
  cases hq : P.info? 5 with
  | none => simp [hq] at hsz
  | some _ =>
    simp [Instr.sliceAt, Instr.slice, run_underlying hu, Instr.sliceBounds, run_sliceBound, hcn, sizeOf, typeInfo, hq, Addr.add_mid]
theorem rd_len {w : World} {a : Option Addr} {n cap : Nat} {l : List UInt8} (h : Rd w (.slice a n cap) l) : l.length = n := by
  obtain ⟨a', cap', e, _⟩ := h
  simp only [Value.slice.injEq] at e
  exact e.2.1.symm
theorem rd_cap {w : World} {a : Option Addr} {n cap : Nat} {l : List UInt8} (h : Rd w (.slice a n cap) l) : n ≤ cap := by
  obtain ⟨a', cap', e, h1, _⟩ := h
  simp only [Value.slice.injEq] at e
  obtain ⟨_, rfl, rfl⟩ := e
  exact h1
theorem rd_max {w : World} {a : Option Addr} {n cap : Nat} {l : List UInt8} (h : Rd w (.slice a n cap) l) : cap ≤ maxLen := by
  obtain ⟨a', cap', e, h1, h2, _⟩ := h
  simp only [Value.slice.injEq] at e
  obtain ⟨_, rfl, rfl⟩ := e
  exact h2
theorem Off.len {b : Nat} {a : Option Addr} {n cap : Nat} (h : Off b (.slice a n cap)) (n' : Nat) (hn : 0 < n) (_ : 0 < n') : Off b (.slice a n' cap) := by
  intro c off m cap' e _
  simp only [Value.slice.injEq] at e
  obtain ⟨rfl, rfl, rfl⟩ := e
  exact h c off n cap rfl hn
theorem By_set (l : List UInt8) (j : Nat) (x : UInt8) : (By l).set j (.int .u8 (x.toNat : Int)) = By (l.set j x) := by simp [By, List.map_set]
theorem u8_of (n : Nat) : IntKind.u8.wrap (n : Int) = ((UInt8.ofNat n).toNat : Int) := by
  rw [IntKind.wrap_u8']
  simp
theorem u8_shr (c e : Nat) : (c : Int) / (2 : Int) ^ e % 256 = ((UInt8.ofNat (c / 2 ^ e)).toNat : Int) := by
  rw [UInt8.toNat_ofNat', show ((2 : Int) ^ e) = ((2 ^ e : Nat) : Int) from (Int.natCast_pow 2 e).symm, ← Int.natCast_ediv]
  exact (Int.natCast_emod _ _).symm
theorem rd_off {w : World} {v : Value} {l : List UInt8} (h : Rd w v l) {b : Nat} (hb : w.heap.size ≤ b) : Off b v := by
  obtain ⟨a, cap, rfl, h1, h2, h3, h4⟩ := h
  intro c off n cap' e hp
  simp only [Value.slice.injEq] at e
  obtain ⟨rfl, rfl, rfl⟩ := e
  obtain ⟨d, off', e, hlt, _⟩ := h4 hp
  cases e
  omega
/-- The first c of a slice. -/
theorem slice_upto {P : Program} (hu : P.underlying 28 = some (.slice 5)) (hsz : (P.info? 5).map (·.size) = some 1) (a : Option Addr) (n cap c : Nat) (hc : c ≤ n) (hn : n ≤ cap) :
    ∃ a', (∀ W, (Instr.sliceAt 28 (.slice a n cap) none (some (.int .i64 (c : Int))) none).run P W = .ok (.slice a' c cap) W) ∧
      (∀ w l, Rd w (.slice a n cap) l → Rd w (.slice a' c cap) (l.take c)) := by
  have hcn : (c : Int) ≤ (cap : Int) := by omega
  refine ⟨if cap = 0 then a else a.map (·.add 0), fun W => ?_, fun w l hr => ?_⟩
  · cases hq : P.info? 5 with
    | none => simp [hq] at hsz
    | some i => simp [Instr.sliceAt, Instr.slice, run_underlying hu, Instr.sliceBounds, run_sliceBound, hcn, sizeOf, typeInfo, hq]
  · have h0 := hr.take c (by exact hc)
    obtain ⟨a0, cap0, e, h1, h2, h3, h4⟩ := h0
    simp only [Value.slice.injEq] at e
    obtain ⟨rfl, hcl, rfl⟩ := e
    refine ⟨if cap = 0 then a else a.map (·.add 0), cap, by rw [← hcl], h1, h2, fun h => ?_, fun hp => ?_⟩
    · by_cases hcc : cap = 0
      · exact hcc
      · rw [if_neg hcc] at h
        exact h3 (by simpa using h)
    · obtain ⟨b, off, rfl, hlt, hcell⟩ := h4 hp
      rw [if_neg (by omega)]
      exact ⟨b, off, by simp [Addr.add_mid], hlt, hcell⟩
theorem size5w : ∀ w, (sizeOf 5).run Tryd.prog w = .ok 1 w := fun w => by
  cases hq : Tryd.prog.info? 5 with
  | none => have := Tryd.size5; simp [hq] at this
  | some i =>
    have : i.size = 1 := by have := Tryd.size5; simpa [hq] using this
    simp [sizeOf, typeInfo, hq, this]
theorem wpQuiet_load_mid {P : Program} {ops : Array Oper} {C : World → Prop} {Q : Act → Prop} {a : Act} {o : Oper} {rest : List Oper} (hw : Region.wanted o (yielded ops a.tmps) = true) (ty : TypeId) (x : Operand) (ho : o.op = .load ty x)
    (b off : Nat) (hx : a.eval x = .pointer (some ⟨b, off, none⟩)) (cs : List Value) (d : TypeDesc) (hS : ∀ w, C w → w.rangeAt b off cs)
    (hu : P.underlying ty = some d) (hd : d.isRow = true) (hi : (P.info? ty).map (·.size) = some cs.length)
    (h : wpQuiet P ops C Q rest (a.put o.dst (.agg cs.toArray))) : wpQuiet P ops C Q (o :: rest) a :=
  BigFrame.wpQuiet_want hw fun K hK => ⟨.agg cs.toArray, fun w hC => by
    unfold Oper.quietAt execOp
    simp only [ho, hx, Instr.loadAt, Instr.sureAddr, Sem.run_bind, Sem.run_pure, Result.andThen_ok, run_loadVar_mid w b off ty cs d (hS w hC) hu hd hi]
    exact ⟨rfl, rfl⟩, hK _ h⟩
theorem Blk.class {w : World} {b : Nat} {T : TypeId} {cs : List Value} (h : Blk w b T cs) : ∀ w', (∃ p : Regrown, w' = Go.Sort.grow (redrawn w p.d) p.os) → w'.rangeAt b 0 cs := by
  rintro w' ⟨p, rfl⟩
  exact (h.kept (below_regrown w p.d p.os)).range0
theorem Tryd.info5 : (Tryd.prog.info? 5).map (fun i => (i.zero, i.size, i.bytes)) = some (some (.int .u8 0), 1, 1) := by kernel_rfl
/-- A new slice of no bytes is the call's own. -/
theorem own_none (w : World) (B : Nat) (hB : B ≤ w.heap.size) : Own (w.alloc (.cells #[] 5 (0, 0))) B (.slice (some ⟨w.heap.size, 0, none⟩) 0 0) [] :=
  ⟨rfl, .inr ⟨w.heap.size, 0, #[], rfl, hB, heap_alloc_new w _, Nat.le_refl _, by simp [maxLen], rfl, rfl⟩⟩
theorem own_nil (w : World) (B : Nat) : Own w B (.slice none 0 0) [] := ⟨rfl, .inl ⟨rfl, rfl⟩⟩
theorem Own.form {w : World} {B : Nat} {v : Value} {l : List UInt8} (h : Own w B v l) : ∃ a cap, v = .slice a l.length cap := by
  obtain ⟨a, cap, rfl, -⟩ := h.rd
  exact ⟨a, cap, rfl⟩
/-- What the call owns lies in another block than b. -/
theorem Own.but {w w' : World} {B b : Nat} {v : Value} {l : List UInt8} (h : Own w B v l) (hb : But b w w') (hlt : b < B ∨ w.heap.size ≤ b) : Own w' B v l := by
  obtain ⟨h1, h2⟩ := h
  refine ⟨h1, ?_⟩
  rcases h2 with h2 | ⟨g, cap, cur, hv, hg, hh, r⟩
  · exact Or.inl h2
  · have hlt' : g < w.heap.size := (Array.getElem?_eq_some_iff.1 hh).1
    exact Or.inr ⟨g, cap, cur, hv, hg, by rw [hb.block g hlt' (by omega)]; exact hh, r⟩
theorem Own.but' {w w' : World} {B b : Nat} {v : Value} {l : List UInt8} (h : Own w B v l) (hb : But b w w') (hlt : ∀ k, v.ownBlock = some k → k < b) : Own w' B v l := by
  obtain ⟨h1, h2⟩ := h
  refine ⟨h1, ?_⟩
  rcases h2 with h2 | ⟨g, cap, cur, hv, hg, hh, r⟩
  · exact Or.inl h2
  · have hlt' : g < w.heap.size := (Array.getElem?_eq_some_iff.1 hh).1
    have := hlt g (by rw [hv]; rfl)
    exact Or.inr ⟨g, cap, cur, hv, hg, by rw [hb.block g hlt' (by omega)]; exact hh, r⟩
theorem flat_take (L : List (List UInt8)) (i : Nat) (h : i < L.length) : (L.take (i + 1)).flatten = (L.take i).flatten ++ L[i] := by
  rw [List.take_add_one, List.getElem?_eq_getElem h, Option.toList_some, List.flatten_append]
  simp only [List.flatten_cons, List.flatten_nil, List.append_nil]
theorem wpList_append_bytes_w {P : Program} (w : World) {ops : Array Oper} {rest : List Oper} {o : Oper} {a : Act} {Q : Exit → Act → World → Prop} (hw : Region.wanted o (yielded ops a.tmps) = true) (s x : Operand) (t tx : TypeId)
    (ho : o.op = .call { callee := .builtin .append, args := #[s, x], argTypes := #[t, tx] })
    (base : Nat) (i : TypeInfo) (ht : P.underlying t = some (.slice 5)) (hi : P.info? 5 = some i) (hz : i.zero = some (.int .u8 0))
    (hsize : i.size = 1) (hby : i.bytes = 1)
    (v : Value) (l : List UInt8) (hv : a.eval s = v) (hown : Own w base v l)
    (xv : Value) (m : List UInt8) (hx : a.eval x = xv) (hs : Src P 1 tx xv m.length (By m) w)
    (hbytes : l.length + m.length ≤ 140737488355328) (hbase : base ≤ w.heap.size)
    (h : ∀ v' w', Own w' base v' (l ++ m) → Below base w w' → wpList P ops Q rest (a.put o.dst v') w') : wpList P ops Q (o :: rest) a w := by
  refine wpList_step fun K hK => ?_
  rw [if_pos hw]
  obtain ⟨v', w', hr, h2, h3⟩ := run_append_mine (P := P) w base t tx o.type 5 i (.int .u8 0) 1 1 ht hi hz hsize hby rfl v l.length (By l) hown xv m.length (By m) hs (by simp only [maxLen]; omega) (by omega) hbase
  unfold Oper.wp execOp
  simp only [ho, resolve, invoke, builtin, Sem.run_bind, Sem.run_pure, Result.andThen_ok, List.map_toArray, List.map_cons, List.map_nil, hv, hx, hr]
  refine hK _ _ (h v' w' ?_ (below_of_grown w hown h3 hbase))
  unfold Own
  rw [List.length_append, By_append]
  exact h2
theorem wpList_build {P : Program} {ops : Array Oper} {rest : List Oper} {op : Oper} {a : Act} {w : World} {Q : Exit → Act → World → Prop} (hgd : op.guard = none) (t : TypeId) (ps : Array (Nat × Operand)) (_ : op.op = .build t ps) (v : Value)
    (hrun : (execOp a.eval op).run P w = .ok (.value v) w) (h : wpList P ops Q rest (a.put op.dst v) w) : wpList P ops Q (op :: rest) a w := by
  refine wpList_plain hgd fun K hK => ?_
  unfold Oper.wp
  rw [hrun]
  exact hK _ _ h
theorem own_one (w : World) (B : Nat) (hB : B ≤ w.heap.size) (x : UInt8) : Own (w.alloc (.cells #[.int .u8 (x.toNat : Int)] 5 (0, 0))) B (.slice (some ⟨w.heap.size, 0, none⟩) 1 1) [x] :=
  ⟨rfl, .inr ⟨w.heap.size, 1, _, rfl, hB, heap_alloc_new w _, Nat.le_refl _, by simp [maxLen], rfl, rfl⟩⟩
theorem own_one' (w : World) (B : Nat) (hB : B ≤ w.heap.size) (x : UInt8) (y : Int) (hy : Hid (y = (x.toNat : Int))) : Own (w.alloc (.cells #[.int .u8 y] 5 (0, 0))) B (.slice (some ⟨w.heap.size, 0, none⟩) 1 1) [x] := by
  rw [hy.out]; exact own_one w B hB x
theorem wpList_buildK {P : Program} {ops : Array Oper} {rest : List Oper} {op : Oper} {a : Act} {w : World} {Q : Exit → Act → World → Prop} (hgd : op.guard = none) (t : TypeId) (ps : Array (Nat × Operand)) (_ : op.op = .build t ps) (v : Value)
    (hrun : (execOp a.eval op).run P w = .ok (.value v) w) (h : wpList P ops Q rest (a.put op.dst v) w) : wpList P ops Q (op :: rest) a w := by
  refine wpList_plain hgd fun K hK => ?_
  unfold Oper.wp
  rw [hrun]
  exact hK _ _ h
theorem wpStill_load_mid {P : Program} {ops : Array Oper} {w : World} {Q : Act → Prop} {a : Act} {o : Oper} {rest : List Oper} (hw : Region.wanted o (yielded ops a.tmps) = true) (ty : TypeId) (x : Operand) (ho : o.op = .load ty x)
    (b off : Nat) (hx : a.eval x = .pointer (some ⟨b, off, none⟩)) (cs : List Value) (d : TypeDesc) (hc : w.rangeAt b off cs)
    (hu : P.underlying ty = some d) (hd : d.isRow = true) (hi : (P.info? ty).map (·.size) = some cs.length)
    (h : wpStill P ops w Q rest (a.put o.dst (.agg cs.toArray))) : wpStill P ops w Q (o :: rest) a := by
  refine wpStill_step fun K hK => ?_
  rw [if_pos hw]
  unfold Oper.still execOp
  simp only [ho, hx, Instr.loadAt, Instr.sureAddr, Sem.run_bind, Sem.run_pure, Result.andThen_ok, run_loadVar_mid w b off ty cs d hc hu hd hi]
  exact ⟨rfl, hK _ h⟩
theorem slice_mid (g n cap lo hi : Nat) (h1 : lo ≤ hi) (h2 : hi ≤ cap) (h4 : lo < cap) (W : World) :
    (Instr.sliceAt 28 (.slice (some ⟨g, 0, none⟩) n cap) (some (.int .i64 (lo : Int))) (some (.int .i64 (hi : Int))) none).run Tryd.prog W = .ok (.slice (some ⟨g, lo, none⟩) (hi - lo) (cap - lo)) W := by
  have e1 : (lo : Int) ≤ (hi : Int) := by omega
  have e2 : (hi : Int) ≤ (cap : Int) := by omega
  have hsz := Tryd.size5
  cases hq : Tryd.prog.info? 5 with
  | none => simp [hq] at hsz
  | some i =>
    have hi1 : i.size = 1 := by simpa [hq] using hsz
    simp [Instr.sliceAt, Instr.slice, run_underlying Tryd.underlying28, Instr.sliceBounds, run_sliceBound, e1, e2, sizeOf, typeInfo, hq, hi1, Addr.add_lit]
    omega
theorem Own.some {w : World} {B : Nat} {v : Value} {l : List UInt8} (h : Own w B v l) (hl : 0 < l.length) : ∃ g cap, v = .slice (some ⟨g, 0, none⟩) l.length cap ∧ l.length ≤ cap := by
  obtain ⟨h1, h2⟩ := h
  rcases h2 with ⟨rfl, hn⟩ | ⟨g, cap, cur, rfl, hg, hh, hnc, r⟩
  · omega
  · exact ⟨g, cap, rfl, hnc⟩
theorem wpList_make_bytes {P : Program} (w : World) {ops : Array Oper} {rest : List Oper} {o : Oper} {a : Act} {Q : Exit → Act → World → Prop}
    (hg : o.guard = none) (l c : Operand) (t : TypeId) (hop : o.op = Op.makeSlice t l c)
    (i : TypeInfo) (h1 : P.underlying t = some (.slice 5)) (h2 : P.info? 5 = some i) (h3 : i.zero = some (.int .u8 0)) (h4 : i.size = 1) (h5 : i.bytes = 1)
    (kl kc : IntKind) (L C : Int) (n m : Nat) (hl : a.eval l = .int kl L) (hc : a.eval c = .int kc C) (hL : L = (n : Int)) (hC : C = (m : Int)) (hnm : n ≤ m) (b2 : m ≤ 281474976710656)
    (hK : wpList P ops Q rest (a.put o.dst (.slice (some ⟨w.heap.size, 0, none⟩) n m)) (w.alloc (.cells (List.replicate m (Value.int .u8 0)).toArray 5))) :
    wpList P ops Q (o :: rest) a w := by
  refine wpList_plain hg fun K hK' => ?_
  subst hL
  subst hC
  have hrun := run_make (P := P) w t 5 i (.int .u8 0) h1 h2 h3 kl kc n m (by omega) (by omega) (by rw [h5]; omega) (by omega)
  have e : madeCells (Value.int .u8 0).cells ((m : Int).toNat * i.size) = (List.replicate m (Value.int .u8 0)).toArray := by
    apply Array.ext'
    rw [h4]
    show (madeCells #[Value.int .u8 0] _).toList = _
    rw [toList_madeCells_one]
    simp
  rw [e] at hrun
  simp only [Int.toNat_natCast] at hrun
  unfold Oper.wp
  simp only [execOp, hop, hl, hc, hrun, Result.andThen, Sem.run_bind, Sem.run_pure]
  exact hK' _ _ hK
/-- A block of noughts into whose first cell a byte was stored: the call's own. -/
theorem own_first (w : World) (B C : Nat) (hB : B ≤ w.heap.size) (hC : 1 ≤ C) (hm : C ≤ maxLen) (x : UInt8) :
    Own ((w.alloc (.cells (List.replicate C (Value.int .u8 0)).toArray 5 (0, 0))).setCell ⟨w.heap.size, 0, none⟩ (.int .u8 (x.toNat : Int))) B (.slice (some ⟨w.heap.size, 0, none⟩) 1 C) [x] := by
  have hb := (Blk.new w 5 (List.replicate C (Value.int .u8 0))).set 0 (.int .u8 (x.toNat : Int))
  refine ⟨rfl, .inr ⟨w.heap.size, C, _, rfl, hB, hb, hC, hm, by simp, ?_⟩⟩
  obtain ⟨D, rfl⟩ : ∃ D, C = D + 1 := ⟨C - 1, by omega⟩
  simp [List.replicate_succ, By]
theorem u8_of_int (bit : Int) : IntKind.u8.wrap bit = ((UInt8.ofNat (bit % 256).toNat).toNat : Int) := by
  show bit % 256 = _
  simp
  omega
theorem Rd.slice {w : World} {v : Value} {l : List UInt8} (h : Rd w v l) : ∃ a cap, v = .slice a l.length cap := by
  obtain ⟨a, cap, rfl, -⟩ := h
  exact ⟨a, cap, rfl⟩
theorem act_lit (a : Act) (n : Nat) (h : a.tmps.size = n) : a = { tmps := ((List.range n).map fun t => a.eval (.tmp t)).toArray, defers := a.defers } := by
  obtain ⟨tmps, defers⟩ := a
  congr 1
  apply Array.ext'
  apply List.ext_getElem?
  intro i
  simp only at h
  by_cases hi : i < n
  · have h1 : i < tmps.size := by omega
    simp [hi, h1, Act.eval]
  · have h1 : ¬ i < tmps.size := by omega
    simp [hi, h1]
theorem By_range {w : World} {b : Nat} {T : TypeId} {x y : List UInt8} (h : Blk w b T (By (x ++ y))) : w.rangeAt b 0 (By x) ∧ w.rangeAt b x.length (By y) := by
  rw [By_append] at h
  refine ⟨h.range 0 (By x) (fun j v hj => ?_), h.range x.length (By y) (fun j v hj => ?_)⟩
  · have := (List.getElem?_eq_some_iff.1 hj).1
    rw [Nat.zero_add, List.getElem?_append_left this, hj]
  · rw [List.getElem?_append_right (by rw [By_length]; omega), By_length, Nat.add_sub_cancel_left, hj]
theorem flat_le (L : List (List UInt8)) (i : Nat) : (L.take i).flatten.length ≤ L.flatten.length := by
  have := congrArg (fun l => l.flatten.length) (List.take_append_drop i L)
  simp only [List.flatten_append, List.length_append] at this
  omega
end Go.Proofs.YtmicmbjbclkbjaaDoor

/-
  Rows of bytes: what they read as, and a new list of them.
-/
namespace Go.Proofs.YtmicmbjbclkbjaaDoor
open Go.RowKit
/-- The slice value v reads as the rows L. -/
def RdR (w : World) (v : Value) (L : List (List UInt8)) : Prop :=
  ∃ a cap, v = .slice a L.length cap ∧
    (0 < L.length → ∃ b off, a = some ⟨b, off, none⟩ ∧ b < w.heap.size ∧ ∀ j (hj : j < L.length), ∃ u, w.cell? ⟨b, off + j, none⟩ = some u ∧ Rd w u L[j])
theorem RdR_nil (w : World) : RdR w (.slice none 0 0) [] := ⟨none, 0, rfl, fun h => by simp at h⟩
theorem RdR.kept {w w' : World} {v : Value} {L : List (List UInt8)} (h : RdR w v L) (hb : Below w.heap.size w w') : RdR w' v L := by
  obtain ⟨a, cap, rfl, h1⟩ := h
  refine ⟨a, cap, rfl, fun hl => ?_⟩
  obtain ⟨b, off, rfl, hlt, hc⟩ := h1 hl
  refine ⟨b, off, rfl, Nat.lt_of_lt_of_le hlt hb.size, fun j hj => ?_⟩
  obtain ⟨u, hu, hr⟩ := hc j hj
  exact ⟨u, (hb.cell (p := ⟨b, off + j, none⟩) hlt).trans hu, hr.kept hb⟩
/-- A new list of rows. -/
theorem rows_new (w : World) (vs : List Value) (Ls : List (List UInt8)) (h : vs.length = Ls.length) (hr : ∀ j (h1 : j < vs.length) (h2 : j < Ls.length), Rd w vs[j] Ls[j]) :
    RdR (w.alloc (.cells vs.toArray 28 (0, 0))) (.slice (some ⟨w.heap.size, 0, none⟩) Ls.length Ls.length) Ls := by
  refine ⟨_, _, rfl, fun hp => ⟨w.heap.size, 0, rfl, by simp, fun j hj => ?_⟩⟩
  have hj' : j < vs.length := by omega
  refine ⟨vs[j], ?_, (hr j hj' hj).kept ((Below.refl _ _).alloc (Nat.le_refl _) _)⟩
  rw [Nat.zero_add]
  exact (Blk.new w 28 vs).cell (List.getElem?_eq_getElem hj')
theorem rows_one (w : World) (v : Value) (l : List UInt8) (h : Rd w v l) : RdR (w.alloc (.cells #[v] 28 (0, 0))) (.slice (some ⟨w.heap.size, 0, none⟩) 1 1) [l] :=
  rows_new w [v] [l] rfl (fun j h1 h2 => by
    simp only [List.length_singleton] at h1
    obtain rfl : j = 0 := by omega
    exact h)
/-- Values that read as rows. -/
def Rds (w : World) : List Value → List (List UInt8) → Prop
  | [], [] => True
  | v :: vs, l :: ls => Rd w v l ∧ Rds w vs ls
  | _, _ => False
theorem Rds.length {w : World} : ∀ {vs : List Value} {ls : List (List UInt8)}, Rds w vs ls → vs.length = ls.length
  | [], [], _ => rfl
  | _ :: _, _ :: _, h => by simp [Rds.length h.2]
theorem Rds.get {w : World} : ∀ {vs : List Value} {ls : List (List UInt8)}, Rds w vs ls → ∀ j (h1 : j < vs.length) (h2 : j < ls.length), Rd w vs[j] ls[j]
  | _ :: _, _ :: _, h, 0, _, _ => h.1
  | _ :: _, _ :: _, h, j + 1, h1, h2 => Rds.get h.2 j (by simpa using h1) (by simpa using h2)
theorem rows_list (w : World) (vs : List Value) (ls : List (List UInt8)) (h : Rds w vs ls) : RdR (w.alloc (.cells vs.toArray 28 (0, 0))) (.slice (some ⟨w.heap.size, 0, none⟩) ls.length ls.length) ls :=
  rows_new w vs ls h.length h.get
end Go.Proofs.YtmicmbjbclkbjaaDoor

/-
  A region that draws its order and whose operations make new memory and turn nothing that was there: a fact of its own for each operation's value, shown once, serves every order.
-/
namespace Go.Proofs.YtmicmbjbclkbjaaDoor
open Go.RowKit

/-- New memory alone: what was there is as it was. -/
def Gr (w w' : World) : Prop := Below w.heap.size w w'
theorem Gr.refl (w : World) : Gr w w := Below.refl _ _
theorem Gr.trans {a b c : World} (h : Gr a b) (k : Gr b c) : Gr a c := Below.trans h (Below.mono k h.size)

/-- What the operations ahead of this one have yielded. -/
def Deps (ops : Array Oper) (S : Nat → World → Value → Prop) (a : Act) (w : World) : List Edge → Prop
  | [] => True
  | e :: r => (Region.binds .any e = true → ∀ o, ops[e.on]? = some o → ∀ d, o.dst = some d → S e.on w (a.eval (.tmp d))) ∧ Deps ops S a w r

theorem Deps.of {ops : Array Oper} {S : Nat → World → Value → Prop} {a : Act} {w : World} : ∀ {l : List Edge},
    (∀ e ∈ l, Region.binds .any e = true → ∀ o, ops[e.on]? = some o → ∀ d, o.dst = some d → S e.on w (a.eval (.tmp d))) → Deps ops S a w l
  | [], _ => trivial
  | e :: _, h => ⟨h e (by simp), Deps.of fun e' he' => h e' (by simp [he'])⟩

/-- One operation: what is owed. -/
def StepOk (P : Program) (ops : Array Oper) (S : Nat → World → Value → Prop) (i : Nat) (o : Oper) (a : Act) (w : World) : Prop :=
  match o.guard with
  | none => ∀ Q, o.wp P a w (fun a' w' => ∃ v, a' = a.put o.dst v ∧ S i w' v ∧ Gr w w') Q
  | some (g, b) => ∃ d c, ((ops[g]?).bind (·.dst)) = some d ∧ a.eval (.tmp d) = .bool c ∧
      (c = b → ∀ Q, o.wp P a w (fun a' w' => ∃ v, a' = a.put o.dst v ∧ S i w' v ∧ Gr w w') Q) ∧ (c ≠ b → S i w undef)

/-- Each operation of a list, from number k on. -/
def AllFrom (p : Nat → Oper → Prop) : Nat → List Oper → Prop
  | _, [] => True
  | k, o :: r => p k o ∧ AllFrom p (k + 1) r
theorem AllFrom.nil {p : Nat → Oper → Prop} {k : Nat} : AllFrom p k [] := trivial
theorem AllFrom.cons {p : Nat → Oper → Prop} {k : Nat} {o : Oper} {r : List Oper} (h : p k o) (t : AllFrom p (k + 1) r) : AllFrom p k (o :: r) := ⟨h, t⟩
theorem AllFrom.at {p : Nat → Oper → Prop} : ∀ {l : List Oper} {k i : Nat} {o : Oper}, AllFrom p k l → l[i]? = some o → p (k + i) o
  | [], _, _, _, _, h => by simp at h
  | _ :: _, k, 0, _, h, e => by simp at e; subst e; exact h.1
  | _ :: _, k, i + 1, _, h, e => by
    have := AllFrom.at (i := i) h.2 (by simpa using e)
    rwa [show k + 1 + i = k + (i + 1) from by omega] at this

/-- The region's form: each operation waits for earlier ones alone; no slot is written twice; the slots are there. -/
def formB (ops : Array Oper) (n : Nat) : Bool :=
  (List.range ops.size).all fun i => match ops[i]? with
    | some o => o.after.all (fun e => !Region.binds .any e || decide (e.on < i)) && (match o.dst with
        | some d => decide (d < n) && (List.range i).all (fun j => match ops[j]? with | some o' => o'.dst != some d | none => true)
        | none => true)
    | none => true

theorem formB_spec {ops : Array Oper} {n : Nat} (h : formB ops n = true) {i : Nat} {o : Oper} (ho : ops[i]? = some o) :
    (∀ e ∈ o.after, Region.binds .any e = true → e.on < i) ∧ (∀ d, o.dst = some d → d < n ∧ ∀ j o', j < i → ops[j]? = some o' → o'.dst ≠ some d) := by
  have hi : i < ops.size := (Array.getElem?_eq_some_iff.1 ho).1
  have := (List.all_eq_true.1 h) i (by simpa using hi)
  rw [ho] at this
  simp only [Bool.and_eq_true] at this
  refine ⟨fun e he hb => ?_, fun d hd => ?_⟩
  · have h1 := this.1
    rw [Array.all_eq_true_iff_forall_mem] at h1
    have h2 := h1 e he
    rw [hb] at h2
    simpa using h2
  · have h2 := this.2
    rw [hd] at h2
    simp only [Bool.and_eq_true, decide_eq_true_eq] at h2
    refine ⟨h2.1, fun j o' hj ho' => ?_⟩
    have h3 := (List.all_eq_true.1 h2.2) j (by simpa using hj)
    rw [ho'] at h3
    simpa using h3

theorem formB_ne {ops : Array Oper} {n : Nat} (h : formB ops n = true) {i j : Nat} {o o' : Oper} {d : Nat} (ho : ops[i]? = some o) (ho' : ops[j]? = some o') (hd : o.dst = some d) (hd' : o'.dst = some d) : i = j := by
  rcases Nat.lt_trichotomy i j with hl | hl | hl
  · exact absurd hd (((formB_spec h ho').2 d hd').2 i o hl ho)
  · exact hl
  · exact absurd hd' (((formB_spec h ho).2 d hd).2 j o' hl ho')

/-- What no operation of the region writes stands as it stood. -/
def Kept (ops : Array Oper) (a0 a : Act) : Prop := ∀ t : Nat, (∀ (i : Nat) (o : Oper), ops[i]? = some o → o.dst ≠ some t) → a.eval (.tmp t) = a0.eval (.tmp t)
/-- .. told by a run. -/
def freeB (ops : Array Oper) (t : Nat) : Bool := ops.all fun o => o.dst != some t
theorem Kept.at {ops : Array Oper} {a0 a : Act} (h : Kept ops a0 a) (t : Nat) (hb : freeB ops t = true) : a.eval (.tmp t) = a0.eval (.tmp t) :=
  h t fun i o ho => by
    have := (Array.all_eq_true_iff_forall_mem.1 hb) o (Array.mem_of_getElem? ho)
    simpa using this

structure RInv (ops : Array Oper) (S : Nat → World → Value → Prop) (a0 : Act) (w0 : World) (listed : Array Bool) (a : Act) (w : World) : Prop where
  size : listed.size = ops.size
  tmps : a.tmps.size = a0.tmps.size
  defers : a.defers = a0.defers
  old : Kept ops a0 a
  new : ∀ (i : Nat) (o : Oper) (d : Nat), ops[i]? = some o → listed[i]? = some true → o.dst = some d → S i w (a.eval (.tmp d))
  grown : Gr w0 w

theorem eval_put_same {a : Act} {d : Nat} {v : Value} (h : d < a.tmps.size) : (a.put (some d) v).eval (.tmp d) = v := by
  simp [Act.eval, Act.put, h]
theorem eval_put_other {a : Act} {x : Option Tmp} {t : Nat} {v : Value} (h : x ≠ some t) : (a.put x v).eval (.tmp t) = a.eval (.tmp t) :=
  Act.eval_put (fun d hd e => h (by rw [hd]; simp at e; rw [e]))
theorem put_size {a : Act} {x : Option Tmp} {v : Value} : (a.put x v).tmps.size = a.tmps.size := by cases x <;> simp [Act.put]
theorem put_defers' {a : Act} {x : Option Tmp} {v : Value} : (a.put x v).defers = a.defers := by cases x <;> simp [Act.put]

theorem RInv.step {ops : Array Oper} {S : Nat → World → Value → Prop} {a0 : Act} {w0 : World} {listed : Array Bool} {a : Act} {w w' : World} {i : Nat} {o : Oper} {v : Value}
    (hf : formB ops a0.tmps.size = true) (hmono : ∀ i w w' x, Gr w w' → S i w x → S i w' x) (h : RInv ops S a0 w0 listed a w) (ho : ops[i]? = some o) (hv : S i w' v) (hg : Gr w w') :
    RInv ops S a0 w0 (listed.setIfInBounds i true) (a.put o.dst v) w' := by
  refine ⟨by simpa using h.size, put_size.trans h.tmps, put_defers'.trans h.defers, fun t ht => ?_, fun j oj d hj hl hd => ?_, h.grown.trans hg⟩
  · rw [eval_put_other (ht i o ho)]
    exact h.old t ht
  · by_cases hij : i = j
    · subst hij
      rw [ho] at hj
      simp only [Option.some.injEq] at hj
      subst hj
      rw [hd, eval_put_same (by rw [h.tmps]; exact ((formB_spec hf ho).2 d hd).1)]
      exact hv
    · rw [eval_put_other (fun e => hij (formB_ne hf ho hj e hd))]
      refine hmono j w w' _ hg (h.new j oj d hj ?_ hd)
      rw [Array.getElem?_setIfInBounds_ne hij] at hl
      exact hl

theorem yielded_of {ops : Array Oper} {a : Act} {g d : Nat} {c : Bool} (hd : ((ops[g]?).bind (·.dst)) = some d) (he : a.eval (.tmp d) = .bool c) : yielded ops a.tmps g = some c := by
  unfold yielded
  rw [hd]
  simp only [Option.bind_some]
  have he' : a.tmps.getD d undef = .bool c := he
  by_cases hlt : d < a.tmps.size
  · simp [hlt] at he' ⊢
    rw [he']
  · simp [hlt, undef] at he'

theorem stepOk_wpOp {P : Program} {ops : Array Oper} {S : Nat → World → Value → Prop} {Q : Exit → Act → World → Prop} {i : Nat} {o : Oper} {a : Act} {w : World} {K : Act → World → Prop}
    (ho : ops[i]? = some o) (h : StepOk P ops S i o a w) (hK : ∀ v w', S i w' v → Gr w w' → K (a.put o.dst v) w') : wpOp P ops Q i K a w := by
  unfold wpOp
  simp only [ho]
  unfold StepOk at h
  cases hg : o.guard with
  | none =>
    rw [hg] at h
    have hw : Region.wanted o (yielded ops a.tmps) = true := by simp [Region.wanted, hg]
    rw [if_pos hw]
    refine .inl (Oper.wp_mono ?_ (h Q))
    rintro a' w' ⟨v, rfl, hv, hgr⟩
    exact hK v w' hv hgr
  | some gb =>
    obtain ⟨g, b⟩ := gb
    rw [hg] at h
    obtain ⟨d, c, hd, hc, h1, h2⟩ := h
    have hy := yielded_of hd hc
    by_cases hcb : c = b
    · have hw : Region.wanted o (yielded ops a.tmps) = true := by simp [Region.wanted, hg, hy, hcb]
      rw [if_pos hw]
      refine .inl (Oper.wp_mono ?_ (h1 hcb Q))
      rintro a' w' ⟨v, rfl, hv, hgr⟩
      exact hK v w' hv hgr
    · have hw : ¬ Region.wanted o (yielded ops a.tmps) = true := by simp [Region.wanted, hg, hy, hcb]
      rw [if_neg hw]
      exact hK undef w (h2 hcb) (Gr.refl w)

theorem wpAny_inv {P : Program} {ops : Array Oper} {S : Nat → World → Value → Prop} {a0 : Act} {w0 : World} {Q : Exit → Act → World → Prop}
    (hf : formB ops a0.tmps.size = true) (hmono : ∀ i w w' x, Gr w w' → S i w x → S i w' x)
    (hstep : AllFrom (fun i o => ∀ a w, Gr w0 w → Kept ops a0 a → Deps ops S a w o.after.toList → StepOk P ops S i o a w) 0 ops.toList)
    (hQ : ∀ a w, a.tmps.size = a0.tmps.size → a.defers = a0.defers → Kept ops a0 a →
      (∀ (i : Nat) (o : Oper) (d : Nat), ops[i]? = some o → o.dst = some d → S i w (a.eval (.tmp d))) → Gr w0 w → Q .normal a w) :
    ∀ (fuel : Nat) (listed : Array Bool) (a : Act) (w : World), listed.toList.countP (! ·) = fuel → RInv ops S a0 w0 listed a w → wpAny P .any ops Q fuel listed a w := by
  have hend : ∀ (listed : Array Bool) (a : Act) (w : World), (∀ (i : Nat) (o : Oper), ops[i]? = some o → listed[i]? = some true) → RInv ops S a0 w0 listed a w → Q .normal a w := fun listed a w hall hI =>
    hQ a w hI.tmps hI.defers hI.old (fun i o d ho hd => hI.new i o d ho (hall i o ho) hd) hI.grown
  have hready : ∀ (listed : Array Bool) (a : Act) (w : World), RInv ops S a0 w0 listed a w → Region.ready .any ops listed = [] → ∀ (i : Nat) (o : Oper), ops[i]? = some o → listed[i]? = some true := by
    intro listed a w hI hr i
    induction i using Nat.strongRecOn with
    | _ i ih =>
      intro o ho
      have hlt : i < ops.size := (Array.getElem?_eq_some_iff.1 ho).1
      cases hl : listed[i]? with
      | none => rw [Array.getElem?_eq_none_iff] at hl; have := hI.size; omega
      | some b =>
        cases b with
        | true => rfl
        | false =>
          exfalso
          have hm : i ∈ Region.ready .any ops listed := by
            rw [mem_ready]
            refine ⟨by simp [hl], o, ho, fun e he hbe => ?_⟩
            have hlt' := (formB_spec hf ho).1 e he hbe
            have hoe : ops[e.on]? = some ops[e.on] := Array.getElem?_eq_getElem (by omega)
            have := ih e.on hlt' _ hoe
            simp [this]
          rw [hr] at hm
          cases hm
  intro fuel
  induction fuel with
  | zero =>
    intro listed a w hc hI
    have hall : ∀ (i : Nat) (o : Oper), ops[i]? = some o → listed[i]? = some true := by
      intro i o ho
      have hlt : i < listed.size := by have := (Array.getElem?_eq_some_iff.1 ho).1; have := hI.size; omega
      rw [List.countP_eq_zero] at hc
      have := hc listed[i] (by simp)
      rw [Array.getElem?_eq_getElem hlt]
      simpa using this
    refine ⟨?_, hend listed a w hall hI⟩
    cases hr : Region.ready .any ops listed with
    | nil => rfl
    | cons i r =>
      have hm : i ∈ Region.ready .any ops listed := by rw [hr]; simp
      rw [mem_ready] at hm
      obtain ⟨h1, o, ho, _⟩ := hm
      have := hall i o ho
      simp [this] at h1
  | succ fuel ih =>
    intro listed a w hc hI
    refine ⟨fun hr => hend listed a w (hready listed a w hI hr) hI, fun i hi => ?_⟩
    have hm := hi
    rw [mem_ready] at hm
    obtain ⟨h1, o, ho, hall⟩ := hm
    have hlt : i < listed.size := by have := (Array.getElem?_eq_some_iff.1 ho).1; have := hI.size; omega
    have hfalse : listed[i] = false := by simpa [hlt] using h1
    have hdeps : Deps ops S a w o.after.toList := Deps.of fun e he hb oj hj d hd => by
      have := hall e (by simpa using he) hb
      refine hI.new e.on oj d hj ?_ hd
      have hlt' : e.on < listed.size := by have := (Array.getElem?_eq_some_iff.1 hj).1; have := hI.size; omega
      simpa [hlt'] using this
    have hs := AllFrom.at hstep (i := i) (o := o) (by simpa using ho) a w hI.grown hI.old hdeps
    rw [Nat.zero_add] at hs
    refine stepOk_wpOp ho hs fun v w' hv hg => ih _ _ _ ?_ (hI.step hf hmono ho hv hg)
    rw [Array.toList_setIfInBounds, List.countP_set (by simpa using hlt)]
    simp [hfalse, hc]

/-- **ONE STEP AN OPERATION SERVES EVERY ORDER.** -/
theorem wp_region_inv {P : Program} {id : Nat} {ops : Array Oper} {Q : Exit → Act → World → Prop} {a0 : Act} {w : World} (hm : P.follows .mixedOrders = true) (S : Nat → World → Value → Prop)
    (n : Nat) (hn : a0.tmps.size = n) (hf : formB ops n = true) (hmono : ∀ i w w' x, Gr w w' → S i w x → S i w' x)
    (hstep : AllFrom (fun i o => ∀ a w', Gr w w' → Kept ops a0 a → Deps ops S a w' o.after.toList → StepOk P ops S i o a w') 0 ops.toList)
    (hQ : ∀ a w', a.tmps.size = a0.tmps.size → a.defers = a0.defers → Kept ops a0 a →
      (∀ (i : Nat) (o : Oper) (d : Nat), ops[i]? = some o → o.dst = some d → S i w' (a.eval (.tmp d))) → Gr w w' → Q .normal a w') : (Code.region id ops true).wp P Q a0 w := by
  subst hn
  refine wp_region_any hm (wpAny_inv hf hmono hstep hQ ops.size _ a0 _ ?_ ⟨by simp, rfl, rfl, fun _ _ => rfl, fun i o d ho hl _ => ?_, ?_⟩)
  · simp [List.countP_replicate]
  · have hlt : i < ops.size := (Array.getElem?_eq_some_iff.1 ho).1
    simp [hlt] at hl
  · exact ⟨rfl, rfl, rfl, Nat.le_refl _, fun _ _ => rfl⟩
/-- What is known of a value: it stays so while new memory alone is made. -/
structure Kn where
  p : World → Value → Prop
  h : ∀ w w' x, Gr w w' → p w x → p w' x
/-- It is this one. -/
def Kn.val (v : Value) : Kn := ⟨fun _ x => x = v, fun _ _ _ _ h => h⟩
/-- It reads as these bytes. -/
def Kn.rd (l : List UInt8) : Kn := ⟨fun w x => Rd w x l, fun _ _ _ hg h => Rd.kept h hg⟩
/-- It reads as these rows of bytes. -/
def Kn.rows (L : List (List UInt8)) : Kn := ⟨fun w x => RdR w x L, fun _ _ _ hg h => RdR.kept h hg⟩
def Kn.of (p : World → Value → Prop) (h : ∀ w w' x, Gr w w' → p w x → p w' x) : Kn := ⟨p, h⟩
/-- Nothing. -/
def Kn.free : Kn := ⟨fun _ _ => True, fun _ _ _ _ _ => trivial⟩
def KS (F : Nat → Kn) : Nat → World → Value → Prop := fun i w x => (F i).p w x
theorem KS_mono (F : Nat → Kn) : ∀ i w w' x, Gr w w' → KS F i w x → KS F i w' x := fun i w w' x hg h => (F i).h w w' x hg h
theorem KS_val {F : Nat → Kn} {i : Nat} {w : World} {x v : Value} (h : KS F i w x) (hl : F i = .val v) : x = v := by
  unfold KS at h; rw [hl] at h; exact h
theorem KS_rd {F : Nat → Kn} {i : Nat} {w : World} {x : Value} {l : List UInt8} (h : KS F i w x) (hl : F i = .rd l) : Rd w x l := by
  unfold KS at h; rw [hl] at h; exact h
theorem KS_rows {F : Nat → Kn} {i : Nat} {w : World} {x : Value} {L : List (List UInt8)} (h : KS F i w x) (hl : F i = .rows L) : RdR w x L := by
  unfold KS at h; rw [hl] at h; exact h
theorem KS_of {F : Nat → Kn} {i : Nat} {w : World} {x : Value} {p : World → Value → Prop} {hp : ∀ w w' x, Gr w w' → p w x → p w' x} (h : KS F i w x) (hl : F i = .of p hp) : p w x := by
  unfold KS at h; rw [hl] at h; exact h
theorem KS_mkv {F : Nat → Kn} {i : Nat} {w : World} {x v : Value} (hl : F i = .val v) (h : x = v) : KS F i w x := by
  unfold KS; rw [hl]; exact h
theorem KS_mkr {F : Nat → Kn} {i : Nat} {w : World} {x : Value} {l : List UInt8} (hl : F i = .rd l) (h : Rd w x l) : KS F i w x := by
  unfold KS; rw [hl]; exact h
theorem KS_mkR {F : Nat → Kn} {i : Nat} {w : World} {x : Value} {L : List (List UInt8)} (hl : F i = .rows L) (h : RdR w x L) : KS F i w x := by
  unfold KS; rw [hl]; exact h
theorem KS_mko {F : Nat → Kn} {i : Nat} {w : World} {x : Value} {p : World → Value → Prop} {hp : ∀ w w' x, Gr w w' → p w x → p w' x} (hl : F i = .of p hp) (h : p w x) : KS F i w x := by
  unfold KS; rw [hl]; exact h
theorem KS_mkf {F : Nat → Kn} {i : Nat} {w : World} {x : Value} (hl : F i = .free) : KS F i w x := by
  unfold KS; rw [hl]; trivial
/-- The last operation waits for every other one. -/
def lastB (ops : Array Oper) (n : Nat) : Bool := match ops[n]? with
  | some o => o.guard.isNone && (ops.size == n + 1) && (List.range n).all fun j => o.after.any fun e => Region.binds .any e && e.on == j
  | none => false
theorem wpAny_done {P : Program} {ops : Array Oper} {Q : Exit → Act → World → Prop} {listed : Array Bool} {a : Act} {w : World} (hall : ∀ (i : Nat) (o : Oper), ops[i]? = some o → listed[i]? = some true) (hQ : Q .normal a w) :
    ∀ fuel, wpAny P .any ops Q fuel listed a w := by
  have hr : Region.ready .any ops listed = [] := by
    cases hr : Region.ready .any ops listed with
    | nil => rfl
    | cons i r =>
      have hm : i ∈ Region.ready .any ops listed := by rw [hr]; simp
      rw [mem_ready] at hm
      obtain ⟨h1, o, ho, _⟩ := hm
      have := hall i o ho
      simp [this] at h1
  intro fuel
  cases fuel with
  | zero => exact ⟨hr, hQ⟩
  | succ fuel => exact ⟨fun _ => hQ, fun i hi => by rw [hr] at hi; cases hi⟩
theorem wpAny_tail {P : Program} {ops : Array Oper} {S : Nat → World → Value → Prop} {a0 : Act} {w0 : World} {Q : Exit → Act → World → Prop} (last : Nat) (ol : Oper) (hol : ops[last]? = some ol) (hlb : lastB ops last = true)
    (hf : formB ops a0.tmps.size = true) (hmono : ∀ i w w' x, Gr w w' → S i w x → S i w' x)
    (hstep : AllFrom (fun i o => ∀ a w, Gr w0 w → Kept ops a0 a → Deps ops S a w o.after.toList → StepOk P ops S i o a w) 0 (ops.toList.take last))
    (hQ : ∀ a w, a.tmps.size = a0.tmps.size → a.defers = a0.defers → Kept ops a0 a →
      (∀ (i : Nat) (o : Oper) (d : Nat), i < last → ops[i]? = some o → o.dst = some d → S i w (a.eval (.tmp d))) → Gr w0 w → ol.wp P a w (fun a' w' => Q .normal a' w') Q) :
    ∀ (fuel : Nat) (listed : Array Bool) (a : Act) (w : World), listed.toList.countP (! ·) = fuel → listed[last]? = some false → RInv ops S a0 w0 listed a w → wpAny P .any ops Q fuel listed a w := by
  unfold lastB at hlb
  rw [hol] at hlb
  simp only [Bool.and_eq_true, beq_iff_eq, List.all_eq_true, List.mem_range, Array.any_eq_true'] at hlb
  obtain ⟨⟨hlg, hlsz⟩, hle⟩ := hlb
  intro fuel
  induction fuel with
  | zero =>
    intro listed a w hc hlast hI
    rw [List.countP_eq_zero] at hc
    have hlt : last < listed.size := (Array.getElem?_eq_some_iff.1 hlast).1
    have := hc listed[last] (by simp)
    rw [Array.getElem?_eq_getElem hlt] at hlast
    simp at hlast
    simp [hlast] at this
  | succ fuel ih =>
    intro listed a w hc hlast hI
    have hltl : last < listed.size := (Array.getElem?_eq_some_iff.1 hlast).1
    refine ⟨fun hr => ?_, fun i hi => ?_⟩
    · exfalso
      have hall : ∀ i, i ≤ last → listed[i]? = some true := by
        intro i
        induction i using Nat.strongRecOn with
        | _ i ih2 =>
          intro hil
          have hlt : i < ops.size := by omega
          have ho : ops[i]? = some ops[i] := Array.getElem?_eq_getElem hlt
          cases hl : listed[i]? with
          | none => rw [Array.getElem?_eq_none_iff] at hl; have := hI.size; omega
          | some b =>
            cases b with
            | true => rfl
            | false =>
              exfalso
              have hm : i ∈ Region.ready .any ops listed := by
                rw [mem_ready]
                refine ⟨by simp [hl], _, ho, fun e he hbe => ?_⟩
                have hlt' := (formB_spec hf ho).1 e he hbe
                have := ih2 e.on hlt' (by omega)
                simp [this]
              rw [hr] at hm
              cases hm
      rw [hall last (Nat.le_refl _)] at hlast
      cases hlast
    · have hm := hi
      rw [mem_ready] at hm
      obtain ⟨h1, o, ho, hall⟩ := hm
      have hlt : i < listed.size := by have := (Array.getElem?_eq_some_iff.1 ho).1; have := hI.size; omega
      have hfalse : listed[i] = false := by simpa [hlt] using h1
      by_cases hil : i = last
      · subst hil
        rw [hol] at ho
        simp only [Option.some.injEq] at ho
        subst ho
        have hdone : ∀ j, j < i → listed[j]? = some true := by
          intro j hj
          obtain ⟨e, he, hbe, hon⟩ := by simpa using hle j hj
          have := hall e (by simpa using he) hbe
          rw [hon] at this
          have hlt' : j < listed.size := by omega
          simpa [hlt'] using this
        unfold wpOp
        simp only [hol]
        have hgn : ol.guard = none := by simpa using hlg
        have hw : Region.wanted ol (yielded ops a.tmps) = true := by simp [Region.wanted, hgn]
        rw [if_pos hw]
        refine .inl (Oper.wp_mono ?_ (hQ a w hI.tmps hI.defers hI.old (fun j oj d hj hoj hd => hI.new j oj d hoj (hdone j hj) hd) hI.grown))
        intro a' w' hq
        refine wpAny_done (fun j oj hoj => ?_) hq fuel
        have hj : j < ops.size := (Array.getElem?_eq_some_iff.1 hoj).1
        by_cases hji : j = i
        · subst hji; simp [hlt]
        · rw [Array.getElem?_setIfInBounds_ne (fun e => hji e.symm)]
          exact hdone j (by omega)
      · have hilt : i < last := by have := (Array.getElem?_eq_some_iff.1 ho).1; omega
        have hdeps : Deps ops S a w o.after.toList := Deps.of fun e he hb oj hj d hd => by
          have := hall e (by simpa using he) hb
          refine hI.new e.on oj d hj ?_ hd
          have hlt' : e.on < listed.size := by have := (Array.getElem?_eq_some_iff.1 hj).1; have := hI.size; omega
          simpa [hlt'] using this
        have hs := AllFrom.at hstep (i := i) (o := o) (by rw [List.getElem?_take_of_lt hilt]; simpa using ho) a w hI.grown hI.old hdeps
        rw [Nat.zero_add] at hs
        refine stepOk_wpOp ho hs fun v w' hv hg => ih _ _ _ ?_ ?_ (hI.step hf hmono ho hv hg)
        · rw [Array.toList_setIfInBounds, List.countP_set (by simpa using hlt)]
          simp [hfalse, hc]
        · rw [Array.getElem?_setIfInBounds_ne hil]
          exact hlast
/-- The same, where the last operation waits for all others and may do what it likes. -/
theorem wp_region_tail {P : Program} {id : Nat} {ops : Array Oper} {Q : Exit → Act → World → Prop} {a0 : Act} {w : World} (hm : P.follows .mixedOrders = true) (S : Nat → World → Value → Prop)
    (n : Nat) (hn : a0.tmps.size = n) (hf : formB ops n = true) (last : Nat) (ol : Oper) (hol : ops[last]? = some ol) (hlb : lastB ops last = true) (hmono : ∀ i w w' x, Gr w w' → S i w x → S i w' x)
    (hstep : AllFrom (fun i o => ∀ a w', Gr w w' → Kept ops a0 a → Deps ops S a w' o.after.toList → StepOk P ops S i o a w') 0 (ops.toList.take last))
    (hQ : ∀ a w', a.tmps.size = a0.tmps.size → a.defers = a0.defers → Kept ops a0 a →
      (∀ (i : Nat) (o : Oper) (d : Nat), i < last → ops[i]? = some o → o.dst = some d → S i w' (a.eval (.tmp d))) → Gr w w' → ol.wp P a w' (fun a' w'' => Q .normal a' w'') Q) : (Code.region id ops true).wp P Q a0 w := by
  subst hn
  have hlt0 : last < ops.size := (Array.getElem?_eq_some_iff.1 hol).1
  refine wp_region_any hm (wpAny_tail last ol hol hlb hf hmono hstep hQ ops.size _ a0 _ ?_ ?_ ⟨by simp, rfl, rfl, fun _ _ => rfl, fun i o d ho hl _ => ?_, ?_⟩)
  · simp [List.countP_replicate]
  · simp [hlt0]
  · have hlt : i < ops.size := (Array.getElem?_eq_some_iff.1 ho).1
    simp [hlt] at hl
  · exact ⟨rfl, rfl, rfl, Nat.le_refl _, fun _ _ => rfl⟩
/-- Does an operation with these edges wait for number j, which writes slot d? -/
def depB (ops : Array Oper) (l : Array Edge) (j d : Nat) : Bool := l.any (fun e => Region.binds .any e && e.on == j) && (((ops[j]?).bind (·.dst)) == some d)
theorem Deps.mem {ops : Array Oper} {S : Nat → World → Value → Prop} {a : Act} {w : World} : ∀ {l : List Edge}, Deps ops S a w l → ∀ e ∈ l, Region.binds .any e = true → ∀ o, ops[e.on]? = some o → ∀ d, o.dst = some d → S e.on w (a.eval (.tmp d))
  | e :: _, h, e', he, hb, o, ho, d, hd => by
    rcases List.mem_cons.1 he with rfl | he
    · exact h.1 hb o ho d hd
    · exact Deps.mem h.2 e' he hb o ho d hd
theorem Deps.val {ops : Array Oper} {S : Nat → World → Value → Prop} {a : Act} {w : World} {l : Array Edge} (h : Deps ops S a w l.toList) (j d : Nat) (hb : depB ops l j d = true) : S j w (a.eval (.tmp d)) := by
  unfold depB at hb
  simp only [Bool.and_eq_true, Array.any_eq_true', beq_iff_eq] at hb
  obtain ⟨⟨e, he, hbe, rfl⟩, hd⟩ := hb
  cases ho : ops[e.on]? with
  | none => rw [ho] at hd; simp at hd
  | some o =>
    rw [ho] at hd
    exact Deps.mem h e (by simpa using he) hbe o ho d (by simpa using hd)

/-- An operation that yields a value and leaves the world. -/
theorem wp_value {P : Program} {o : Oper} {a : Act} {w : World} {S : World → Value → Prop} {Q : Exit → Act → World → Prop} (v : Value) (hrun : (execOp a.eval o).run P w = .ok (.value v) w) (hS : S w v) :
    o.wp P a w (fun a' w' => ∃ v, a' = a.put o.dst v ∧ S w' v ∧ Gr w w') Q := by
  unfold Oper.wp
  rw [hrun]
  exact ⟨v, rfl, hS, Gr.refl w⟩

/-- What a call of a function with a body comes to. -/
def bodyB (P : Program) (f : FuncId) : Bool := match P.funcs[f]? with
  | some fn => !(fn.name == "runtime.NumGoroutine") && !fn.body.isNone
  | none => false
theorem run_enter {P : Program} {o : Oper} {a : Act} {w : World} (f : FuncId) (xs : Array Operand) (ts : Array TypeId) (ho : o.op = .call { callee := .value (.func f), args := xs, argTypes := ts }) (hb : bodyB P f = true) :
    (execOp a.eval o).run P w = .ok (.enter f (xs.map a.eval)) w := by
  unfold bodyB at hb
  cases hf : P.funcs[f]? with
  | none => rw [hf] at hb; simp at hb
  | some fn =>
    rw [hf] at hb
    simp only [Bool.and_eq_true, Bool.not_eq_true'] at hb
    have h1 : ¬ fn.name = "runtime.NumGoroutine" := by simpa using hb.1
    have h2 : ¬ fn.body = none := by have := hb.2; cases hh : fn.body <;> simp [hh] at this ⊢
    simp [execOp, ho, resolve, Act.eval, Deferred.ofValue, invoke, callFunc, hf, h1, h2, Result.andThen]
/-- A call. -/
theorem wp_call {P : Program} {o : Oper} {a : Act} {w : World} {S : World → Value → Prop} {Q : Exit → Act → World → Prop} (f : FuncId) (args : Array Value) (hrun : (execOp a.eval o).run P w = .ok (.enter f args) w)
    (hc : Calls P f args w fun e w' => ∃ v, e = .returned v ∧ S w' v ∧ Gr w w') :
    o.wp P a w (fun a' w' => ∃ v, a' = a.put o.dst v ∧ S w' v ∧ Gr w w') Q := by
  unfold Oper.wp
  rw [hrun]
  refine hc.mono ?_
  rintro e w' ⟨v, rfl, hv, hg⟩
  exact ⟨v, rfl, hv, hg⟩

#print axioms wp_region_tail
end Go.Proofs.YtmicmbjbclkbjaaDoor

/-
  Operations that yield a value: one that makes memory, a row that is loaded, []byte(s).
-/
namespace Go.Proofs.YtmicmbjbclkbjaaDoor
open Go.RowKit
/-- An operation that yields a value and makes new memory alone. -/
theorem wp_grow {P : Program} {o : Oper} {a : Act} {w : World} {S : World → Value → Prop} {Q : Exit → Act → World → Prop} (v : Value) (w1 : World) (hrun : (execOp a.eval o).run P w = .ok (.value v) w1) (hg : Gr w w1) (hS : S w1 v) :
    o.wp P a w (fun a' w' => ∃ v, a' = a.put o.dst v ∧ S w' v ∧ Gr w w') Q := by
  unfold Oper.wp
  rw [hrun]
  exact ⟨v, rfl, hS, hg⟩
/-- A row of cells is loaded. -/
theorem wp_load_row {P : Program} {o : Oper} {a : Act} {w : World} {S : World → Value → Prop} {Q : Exit → Act → World → Prop} (ty : TypeId) (x : Operand) (ho : o.op = .load ty x) (b off : Nat) (hx : a.eval x = .pointer (some ⟨b, off, none⟩))
    (cs : List Value) (d : TypeDesc) (hc : w.rangeAt b off cs) (hu : P.underlying ty = some d) (hd : d.isRow = true) (hi : (P.info? ty).map (·.size) = some cs.length) (hS : S w (.agg cs.toArray)) :
    o.wp P a w (fun a' w' => ∃ v, a' = a.put o.dst v ∧ S w' v ∧ Gr w w') Q := by
  refine wp_value (.agg cs.toArray) ?_ hS
  simp only [execOp, ho, hx, Instr.loadAt, Instr.sureAddr, Sem.run_bind, Sem.run_pure, Result.andThen_ok, run_loadVar_mid w b off ty cs d hc hu hd hi]
/-- []byte(s). -/
theorem str_bytes (w : World) (l : List UInt8) (hl : l.length ≤ maxLen) : ∃ a cap w1, (convert 9 28 (.string ⟨l.toArray⟩)).run Tryd.prog w = .ok (.slice a l.length cap) w1 ∧ Rd w1 (.slice a l.length cap) l ∧ Gr w w1 := by
  have hrun := run_bytes_of_string (P := Tryd.prog) w 9 28 5 ⟨l.toArray⟩ Tryd.underlying9 Tryd.underlying28 Tryd.underlying5
  have hsz : (⟨l.toArray⟩ : ByteArray).size = l.length := by simp [ByteArray.size]
  rw [hsz] at hrun
  refine ⟨_, _, _, hrun, ?_, ?_⟩
  · have hge := grownCap_ge w l.length 0 5
    refine ⟨_, _, rfl, hge, grownCap_le_maxLen w l.length 0 5 hl, fun h => by simp at h, fun hp => ⟨w.heap.size, 0, rfl, by simp, fun j u hj => ?_⟩⟩
    have hjl : j < l.length := by have := (List.getElem?_eq_some_iff.1 hj).1; rwa [By_length] at this
    rw [Nat.zero_add]
    refine (World.cell?_alloc_mark w.drew _ _ _ j).trans ?_
    rw [← hj, By_get hjl]
    simp [bytesRow, Array.getElem?_append, hjl]
  · exact ((Below.refl _ _).drew).alloc (Nat.le_refl _) _
/-- []byte(s), in a walk. -/
theorem wpList_str_bytes {ops : Array Oper} {rest : List Oper} {o : Oper} {a : Act} {w : World} {Q : Exit → Act → World → Prop} (hgd : o.guard = none) (x : Operand) (ho : o.op = .convert 9 28 x) (l : List UInt8) (hl : l.length ≤ maxLen) (hx : a.eval x = .string ⟨l.toArray⟩)
    (h : ∀ ad cap w1, Rd w1 (.slice ad l.length cap) l → Gr w w1 → wpList Tryd.prog ops Q rest (a.put o.dst (.slice ad l.length cap)) w1) : wpList Tryd.prog ops Q (o :: rest) a w := by
  refine wpList_plain hgd fun K hK => ?_
  obtain ⟨ad, cap, w1, hr, h1, h2⟩ := str_bytes w l hl
  unfold Oper.wp execOp
  simp only [ho, hx, hr, Sem.run_bind, Result.andThen_ok]
  exact hK _ _ (h ad cap w1 h1 h2)
end Go.Proofs.YtmicmbjbclkbjaaDoor

/-
  A region that draws its order, by whatever is kept of what is done so far; variables that are made and stored to in it.
-/
namespace Go.Proofs.YtmicmbjbclkbjaaDoor
open Go.RowKit

/-- Are the operations done for which this one waits? -/
def waitsB (o : Oper) (l : Nat → Bool) : Bool := o.after.all fun e => !Region.binds .any e || l e.on
theorem waitsB_of {o : Oper} {l : Nat → Bool} (h : ∀ e ∈ o.after, Region.binds .any e = true → l e.on = true) : waitsB o l = true := by
  unfold waitsB
  rw [Array.all_eq_true_iff_forall_mem]
  intro e he
  cases hb : Region.binds .any e with
  | false => rfl
  | true => simp [h e he hb]
theorem waitsB_at {o : Oper} {l : Nat → Bool} (h : waitsB o l = true) (j : Nat) (hj : (o.after.any fun e => Region.binds .any e && e.on == j) = true) : l j = true := by
  unfold waitsB at h
  rw [Array.all_eq_true_iff_forall_mem] at h
  simp only [Array.any_eq_true', Bool.and_eq_true, beq_iff_eq] at hj
  obtain ⟨e, he, hb, rfl⟩ := hj
  have := h e he
  rw [hb] at this
  simpa using this
theorem wpAny_J {P : Program} {ops : Array Oper} {a0 : Act} {Q : Exit → Act → World → Prop} (J : (Nat → Bool) → Act → World → Prop) (hf : formB ops a0.tmps.size = true)
    (hstep : ∀ (i : Nat) (o : Oper), ops[i]? = some o → ∀ (l : Nat → Bool) a w, J l a w → a.tmps.size = a0.tmps.size → a.defers = a0.defers → Kept ops a0 a → l i = false → waitsB o l = true →
      o.guard = none ∧ o.wp P a w (fun a' w' => ∃ v, a' = a.put o.dst v ∧ J (fun k => l k || k == i) a' w') Q)
    (hQ : ∀ (l : Nat → Bool) a w, (∀ i, i < ops.size → l i = true) → J l a w → a.tmps.size = a0.tmps.size → a.defers = a0.defers → Kept ops a0 a → Q .normal a w) :
    ∀ (fuel : Nat) (listed : Array Bool) (a : Act) (w : World), listed.toList.countP (! ·) = fuel → listed.size = ops.size → a.tmps.size = a0.tmps.size → a.defers = a0.defers → Kept ops a0 a → J (fun i => listed.getD i false) a w → wpAny P .any ops Q fuel listed a w := by
  have hall : ∀ (listed : Array Bool), listed.size = ops.size → (∀ (i : Nat) (o : Oper), ops[i]? = some o → listed[i]? = some true) → ∀ i, i < ops.size → listed.getD i false = true := by
    intro listed hs h i hi
    have := h i _ (Array.getElem?_eq_getElem hi)
    rw [Array.getD_eq_getD_getElem?, this]; rfl
  have hready : ∀ (listed : Array Bool), listed.size = ops.size → Region.ready .any ops listed = [] → ∀ (i : Nat) (o : Oper), ops[i]? = some o → listed[i]? = some true := by
    intro listed hs hr i
    induction i using Nat.strongRecOn with
    | _ i ih =>
      intro o ho
      have hlt : i < ops.size := (Array.getElem?_eq_some_iff.1 ho).1
      cases hl : listed[i]? with
      | none => rw [Array.getElem?_eq_none_iff] at hl; omega
      | some b =>
        cases b with
        | true => rfl
        | false =>
          exfalso
          have hm : i ∈ Region.ready .any ops listed := by
            rw [mem_ready]
            refine ⟨by simp [hl], o, ho, fun e he hbe => ?_⟩
            have hlt' := (formB_spec hf ho).1 e he hbe
            have hoe : ops[e.on]? = some ops[e.on] := Array.getElem?_eq_getElem (by omega)
            have := ih e.on hlt' _ hoe
            simp [this]
          rw [hr] at hm
          cases hm
  intro fuel
  induction fuel with
  | zero =>
    intro listed a w hc hs ht hd hk hJ
    have hal : ∀ (i : Nat) (o : Oper), ops[i]? = some o → listed[i]? = some true := by
      intro i o ho
      have hlt : i < listed.size := by have := (Array.getElem?_eq_some_iff.1 ho).1; omega
      rw [List.countP_eq_zero] at hc
      have := hc listed[i] (by simp)
      rw [Array.getElem?_eq_getElem hlt]
      simpa using this
    exact wpAny_done hal (hQ _ a w (hall listed hs hal) hJ ht hd hk) 0
  | succ fuel ih =>
    intro listed a w hc hs ht hd hk hJ
    refine ⟨fun hr => hQ _ a w (hall listed hs (hready listed hs hr)) hJ ht hd hk, fun i hi => ?_⟩
    rw [mem_ready] at hi
    obtain ⟨h1, o, ho, hw⟩ := hi
    have hlt : i < listed.size := by have := (Array.getElem?_eq_some_iff.1 ho).1; omega
    have hfalse : listed[i] = false := by simpa [hlt] using h1
    have hli : listed.getD i false = false := by simp [hlt, hfalse]
    obtain ⟨hgd, hwp⟩ := hstep i o ho _ a w hJ ht hd hk hli (waitsB_of fun e he hb => by
      have := hw e he hb
      by_cases hlt' : e.on < listed.size
      · simpa [hlt'] using this
      · simp [hlt'] at this)
    unfold wpOp
    simp only [ho]
    have hwn : Region.wanted o (yielded ops a.tmps) = true := by simp [Region.wanted, hgd]
    rw [if_pos hwn]
    refine .inl (Oper.wp_mono ?_ hwp)
    rintro a' w' ⟨v, rfl, hJ'⟩
    refine ih _ _ _ ?_ (by simpa using hs) (put_size.trans ht) (put_defers'.trans hd) (fun t h => (eval_put_other (h i o ho)).trans (hk t h)) ?_
    · rw [Array.toList_setIfInBounds, List.countP_set (by simpa using hlt)]
      simp [hfalse, hc]
    · have e : (fun k => (listed.setIfInBounds i true).getD k false) = fun k => listed.getD k false || k == i := by
        funext k
        by_cases hki : k = i
        · subst hki; simp [hlt]
        · simp [Array.getD_eq_getD_getElem?, Array.getElem?_setIfInBounds_ne (fun e => hki e.symm), hki]
      rw [e]
      exact hJ'
/-- **WHATEVER IS KEPT OF WHAT IS DONE SO FAR.** -/
theorem wp_region_J {P : Program} {id : Nat} {ops : Array Oper} {Q : Exit → Act → World → Prop} {a0 : Act} {w : World} (hm : P.follows .mixedOrders = true) (J : (Nat → Bool) → Act → World → Prop)
    (n : Nat) (hn : a0.tmps.size = n) (hf : formB ops n = true) (h0 : ∀ w', w'.heap = w.heap → Gr w w' → J (fun _ => false) a0 w')
    (hstep : ∀ (i : Nat) (o : Oper), ops[i]? = some o → ∀ (l : Nat → Bool) a w, J l a w → a.tmps.size = n → a.defers = a0.defers → Kept ops a0 a → l i = false → waitsB o l = true →
      o.guard = none ∧ o.wp P a w (fun a' w' => ∃ v, a' = a.put o.dst v ∧ J (fun k => l k || k == i) a' w') Q)
    (hQ : ∀ (l : Nat → Bool) a w, (∀ i, i < ops.size → l i = true) → J l a w → a.tmps.size = n → a.defers = a0.defers → Kept ops a0 a → Q .normal a w) : (Code.region id ops true).wp P Q a0 w := by
  subst hn
  refine wp_region_any hm (wpAny_J J hf hstep hQ ops.size _ a0 _ ?_ (by simp) rfl rfl (fun _ _ => rfl) ?_)
  · simp [List.countP_replicate]
  · have e : (fun i => (Array.replicate ops.size false).getD i false) = fun _ => false := by
      funext i
      by_cases hi : i < ops.size
      · simp [hi]
      · simp [hi]
    rw [e]
    exact h0 _ rfl ⟨rfl, rfl, rfl, Nat.le_refl _, fun _ _ => rfl⟩

/-- A variable that is made in the region: the operation that makes it, its slot, the operation that stores to it, its type, its cells ahead of that and behind it. -/
structure Cel where
  i : Nat
  d : Nat
  s : Nat
  T : TypeId
  Z : List Value
  X : List Value
/-- What is kept. -/
structure CJ (ops : Array Oper) (S : Nat → World → Value → Prop) (cells : List Cel) (w : World) (l : Nat → Bool) (a : Act) (w1 : World) : Prop where
  low : Below w.heap.size w w1
  vals : ∀ (i : Nat) (o : Oper) (d : Nat), ops[i]? = some o → l i = true → (∀ c ∈ cells, c.i ≠ i) → o.dst = some d → S i w1 (a.eval (.tmp d))
  made : ∀ c ∈ cells, l c.s = true → l c.i = true
  cels : ∃ B : Nat → Nat, (∀ c ∈ cells, l c.i = true → a.eval (.tmp c.d) = .pointer (some ⟨B c.i, 0, none⟩) ∧ w.heap.size ≤ B c.i ∧ Blk w1 (B c.i) c.T (if l c.s = true then c.X else c.Z)) ∧
    (∀ c ∈ cells, ∀ c' ∈ cells, l c.i = true → l c'.i = true → c.i ≠ c'.i → B c.i ≠ B c'.i)
/-- What is owed of an operation that yields a value. -/
structure OwesVal (P : Program) (ops : Array Oper) (S : Nat → World → Value → Prop) (cells : List Cel) (a0 : Act) (w : World) (i : Nat) (o : Oper) : Prop where
  hg : o.guard = none
  h1 : ∀ c ∈ cells, c.i ≠ i
  h2 : ∀ c ∈ cells, c.s ≠ i
  h : ∀ (a : Act) (w' : World), Below w.heap.size w w' → Kept ops a0 a → (∀ (j d : Nat), depB ops o.after j d = true → (∀ c ∈ cells, c.i ≠ j) → S j w' (a.eval (.tmp d))) → ∀ Q, o.wp P a w' (fun a' w'' => ∃ v, a' = a.put o.dst v ∧ S i w'' v ∧ Gr w' w'') Q
/-- .. that makes a variable. -/
structure OwesNew (P : Program) (cells : List Cel) (i : Nat) (o : Oper) (c : Cel) : Prop where
  hg : o.guard = none
  hc : c ∈ cells
  h1 : c.i = i
  h2 : ∀ c ∈ cells, c.s ≠ i
  hd : o.dst = some c.d
  h : ∀ (a : Act) (w' : World), (execOp a.eval o).run P w' = .ok (.value (.pointer (some ⟨w'.heap.size, 0, none⟩))) (w'.alloc (.cells c.Z.toArray c.T (0, 0)))
/-- .. that stores to one. -/
structure OwesPut (P : Program) (ops : Array Oper) (S : Nat → World → Value → Prop) (cells : List Cel) (a0 : Act) (w : World) (i : Nat) (o : Oper) (c : Cel) (y : Operand) : Prop where
  hg : o.guard = none
  hc : c ∈ cells
  h1 : ∀ c ∈ cells, c.i ≠ i
  h2 : c.s = i
  hd : o.dst = none
  ho : o.op = .store c.T (.tmp c.d) y
  hdep : (o.after.any fun e => Region.binds .any e && e.on == c.i) = true
  hy : ∀ (a : Act) (w' : World), Below w.heap.size w w' → Kept ops a0 a → (∀ (j d : Nat), depB ops o.after j d = true → (∀ c ∈ cells, c.i ≠ j) → S j w' (a.eval (.tmp d))) → a.eval y = .agg c.X.toArray
  hl : c.X.length = c.Z.length
  hs : (P.info? c.T).map (·.size) = some c.X.length
  h1X : ∀ u ∈ c.X, u.oneCell' = true
/-- What is owed of an operation. -/
def Owes (P : Program) (ops : Array Oper) (S : Nat → World → Value → Prop) (cells : List Cel) (a0 : Act) (w : World) (i : Nat) (o : Oper) : Prop :=
  OwesVal P ops S cells a0 w i o ∨ (∃ c, OwesNew P cells i o c) ∨ (∃ c y, OwesPut P ops S cells a0 w i o c y)
theorem Owes.val {P : Program} {ops : Array Oper} {S : Nat → World → Value → Prop} {cells : List Cel} {a0 : Act} {w : World} {i : Nat} {o : Oper} (hg : o.guard = none) (h1 : ∀ c ∈ cells, c.i ≠ i) (h2 : ∀ c ∈ cells, c.s ≠ i)
    (h : ∀ (a : Act) (w' : World), Below w.heap.size w w' → Kept ops a0 a → (∀ (j d : Nat), depB ops o.after j d = true → (∀ c ∈ cells, c.i ≠ j) → S j w' (a.eval (.tmp d))) → ∀ Q, o.wp P a w' (fun a' w'' => ∃ v, a' = a.put o.dst v ∧ S i w'' v ∧ Gr w' w'') Q) :
    Owes P ops S cells a0 w i o := .inl ⟨hg, h1, h2, h⟩
theorem Owes.new {P : Program} {ops : Array Oper} {S : Nat → World → Value → Prop} {cells : List Cel} {a0 : Act} {w : World} {i : Nat} {o : Oper} (hg : o.guard = none) (c : Cel) (hc : c ∈ cells) (h1 : c.i = i) (h2 : ∀ c ∈ cells, c.s ≠ i) (hd : o.dst = some c.d)
    (h : ∀ (a : Act) (w' : World), (execOp a.eval o).run P w' = .ok (.value (.pointer (some ⟨w'.heap.size, 0, none⟩))) (w'.alloc (.cells c.Z.toArray c.T (0, 0)))) :
    Owes P ops S cells a0 w i o := .inr (.inl ⟨c, hg, hc, h1, h2, hd, h⟩)
theorem Owes.put {P : Program} {ops : Array Oper} {S : Nat → World → Value → Prop} {cells : List Cel} {a0 : Act} {w : World} {i : Nat} {o : Oper} (hg : o.guard = none) (c : Cel) (hc : c ∈ cells) (h1 : ∀ c ∈ cells, c.i ≠ i) (h2 : c.s = i) (hd : o.dst = none) (y : Operand) (ho : o.op = .store c.T (.tmp c.d) y)
    (hdep : (o.after.any fun e => Region.binds .any e && e.on == c.i) = true)
    (hy : ∀ (a : Act) (w' : World), Below w.heap.size w w' → Kept ops a0 a → (∀ (j d : Nat), depB ops o.after j d = true → (∀ c ∈ cells, c.i ≠ j) → S j w' (a.eval (.tmp d))) → a.eval y = .agg c.X.toArray)
    (hl : c.X.length = c.Z.length) (hs : (P.info? c.T).map (·.size) = some c.X.length) (h1X : ∀ u ∈ c.X, u.oneCell' = true) :
    Owes P ops S cells a0 w i o := .inr (.inr ⟨c, y, hg, hc, h1, h2, hd, ho, hdep, hy, hl, hs, h1X⟩)
theorem wp_region_cells {P : Program} {id : Nat} {ops : Array Oper} {Q : Exit → Act → World → Prop} {a0 : Act} {w : World} (hm : P.follows .mixedOrders = true) (S : Nat → World → Value → Prop) (cells : List Cel)
    (n : Nat) (hn : a0.tmps.size = n) (hf : formB ops n = true) (hmono : ∀ i w1 w2 x, Below w.heap.size w1 w2 → S i w1 x → S i w2 x)
    (hdi : ∀ c ∈ cells, ∀ c' ∈ cells, c.i = c'.i → c = c') (hds : ∀ c ∈ cells, ∀ c' ∈ cells, c.s = c'.s → c = c') (hdd : ∀ c ∈ cells, ((ops[c.i]?).bind (·.dst)) = some c.d)
    (hstep : AllFrom (fun i o => Owes P ops S cells a0 w i o) 0 ops.toList)
    (hQ : ∀ a w', a.tmps.size = a0.tmps.size → a.defers = a0.defers → Kept ops a0 a →
      (∀ (i : Nat) (o : Oper) (d : Nat), ops[i]? = some o → (∀ c ∈ cells, c.i ≠ i) → o.dst = some d → S i w' (a.eval (.tmp d))) → Below w.heap.size w w' →
      (∃ B : Nat → Nat, (∀ c ∈ cells, c.i < ops.size → c.s < ops.size → a.eval (.tmp c.d) = .pointer (some ⟨B c.i, 0, none⟩) ∧ w.heap.size ≤ B c.i ∧ Blk w' (B c.i) c.T c.X) ∧ (∀ c ∈ cells, ∀ c' ∈ cells, c.i < ops.size → c'.i < ops.size → c.i ≠ c'.i → B c.i ≠ B c'.i)) → Q .normal a w') :
    (Code.region id ops true).wp P Q a0 w := by
  have cellOp : ∀ c ∈ cells, ∃ o, ops[c.i]? = some o ∧ o.dst = some c.d := fun c hc => by
    have := hdd c hc
    cases ho : ops[c.i]? with
    | none => rw [ho] at this; cases this
    | some o => rw [ho] at this; exact ⟨o, rfl, this⟩
  refine wp_region_J hm (CJ ops S cells w) n hn hf ?_ ?_ ?_
  · intro w' hh hg
    exact ⟨hg, fun i o d _ h => by simp at h, fun c _ h => by simp at h, fun _ => 0, fun c _ h => by simp at h, fun c _ c' _ h => by simp at h⟩
  · intro i o ho l a w1 hJ ht hd hk hli hw
    have hs := AllFrom.at hstep (i := i) (o := o) (by simpa using ho)
    rw [Nat.zero_add] at hs
    have hdeps : ∀ (j d : Nat), depB ops o.after j d = true → (∀ c ∈ cells, c.i ≠ j) → S j w1 (a.eval (.tmp d)) := by
      intro j d hb hc
      unfold depB at hb
      rw [Bool.and_eq_true] at hb
      have hlj := waitsB_at hw j hb.1
      cases hoj : ops[j]? with
      | none => rw [hoj] at hb; simp at hb
      | some oj =>
        rw [hoj] at hb
        exact hJ.vals j oj d hoj hlj hc (by simpa using hb.2)
    obtain ⟨B, hB1, hB2⟩ := hJ.cels
    rcases hs with ⟨hg, h1, h2, h⟩ | ⟨c, hg, hc, h1, h2, hdst, h⟩ | ⟨c, y, hg, hc, h1, h2, hdst, hop, hdep, hy, hlen, hsz, h1X⟩
    · refine ⟨hg, Oper.wp_mono ?_ (h a w1 hJ.low hk hdeps Q)⟩
      rintro a' w2 ⟨v, rfl, hv, hgr⟩
      have hlow : Below w.heap.size w1 w2 := Below.mono hgr hJ.low.size
      refine ⟨v, rfl, hJ.low.trans hlow, fun j oj d hoj hl hc hdj => ?_, fun c hc hl => ?_, B, fun c hc hl => ?_, fun c hc c' hc' hl hl' hne => hB2 c hc c' hc' ?_ ?_ hne⟩
      · by_cases hji : j = i
        · subst hji
          rw [ho] at hoj
          simp only [Option.some.injEq] at hoj
          subst hoj
          rw [hdj, eval_put_same (by rw [ht]; exact ((formB_spec (hn ▸ hf) ho).2 d hdj).1 |> fun h => by rwa [hn] at h)]
          exact hv
        · rw [eval_put_other (fun e => hji (formB_ne hf hoj ho hdj e))]
          exact hmono j w1 w2 _ hlow (hJ.vals j oj d hoj (by simpa [hji] using hl) hc hdj)
      · have hl' : l c.s = true := by simpa [h2 c hc] using hl
        simp [hJ.made c hc hl']
      · have hl' : l c.i = true := by simpa [h1 c hc] using hl
        obtain ⟨e1, e2, e3⟩ := hB1 c hc hl'
        obtain ⟨oc, hoc, hdc⟩ := cellOp c hc
        refine ⟨?_, e2, ?_⟩
        · rw [eval_put_other (fun e => h1 c hc (formB_ne hf hoc ho hdc e))]; exact e1
        · have : (l c.s || c.s == i) = l c.s := by simp [h2 c hc]
          rw [this]
          exact e3.kept hgr
      · simpa [h1 c hc] using hl
      · simpa [h1 c' hc'] using hl'
    · refine ⟨hg, ?_⟩
      unfold Oper.wp
      rw [h a w1]
      have hlow : Below w.heap.size w1 (w1.alloc (.cells c.Z.toArray c.T (0, 0))) := (Below.refl _ _).alloc hJ.low.size _
      have hdlt : c.d < a.tmps.size := by rw [ht]; exact ((formB_spec hf ho).2 c.d hdst).1
      refine ⟨_, rfl, hJ.low.trans hlow, fun j oj d hoj hl hcj hdj => ?_, fun c' hc' hl => ?_, fun k => if k = i then w1.heap.size else B k, fun c' hc' hl => ?_, fun c1 hc1 c2 hc2 hl1 hl2 hne => ?_⟩
      · have hji : j ≠ i := fun e => hcj c hc (by rw [h1, e])
        rw [eval_put_other (fun e => hji (formB_ne hf hoj ho hdj e))]
        exact hmono j w1 _ _ hlow (hJ.vals j oj d hoj (by simpa [hji] using hl) hcj hdj)
      · have hl' : l c'.s = true := by simpa [h2 c' hc'] using hl
        simp [hJ.made c' hc' hl']
      · have hls : (l c'.s || c'.s == i) = l c'.s := by simp [h2 c' hc']
        rw [hls]
        by_cases hci : c'.i = i
        · obtain rfl : c' = c := hdi c' hc' c hc (by rw [hci, h1])
          have hns : l c'.s = false := by
            cases hh : l c'.s with
            | false => rfl
            | true => have := hJ.made c' hc' hh; rw [hci, hli] at this; cases this
          have hBi : (if c'.i = i then w1.heap.size else B c'.i) = w1.heap.size := if_pos hci
          simp only [hns, hBi]
          refine ⟨?_, hJ.low.size, ?_⟩
          · rw [hdst]; exact eval_put_same hdlt
          · simpa using Blk.new w1 c'.T c'.Z
        · have hl' : l c'.i = true := by simpa [hci] using hl
          obtain ⟨e1, e2, e3⟩ := hB1 c' hc' hl'
          obtain ⟨oc, hoc, hdc⟩ := cellOp c' hc'
          have hBi : (if c'.i = i then w1.heap.size else B c'.i) = B c'.i := if_neg hci
          simp only [hBi]
          refine ⟨?_, e2, e3.alloc _⟩
          rw [eval_put_other (fun e => hci (formB_ne hf hoc ho hdc e))]; exact e1
      · by_cases e1 : c1.i = i
        · have e2 : c2.i ≠ i := fun e => hne (by rw [e1, e])
          have hl' : l c2.i = true := by simpa [e2] using hl2
          have := (hB1 c2 hc2 hl').2.2.lt
          simp only [e1, e2, if_true, if_false]
          omega
        · have hl' : l c1.i = true := by simpa [e1] using hl1
          by_cases e2 : c2.i = i
          · have := (hB1 c1 hc1 hl').2.2.lt
            simp only [e1, e2, if_true, if_false]
            omega
          · simp only [e1, e2, if_false]
            exact hB2 c1 hc1 c2 hc2 hl' (by simpa [e2] using hl2) hne
    · refine ⟨hg, ?_⟩
      have hli' : l c.i = true := waitsB_at hw c.i hdep
      obtain ⟨e1, e2, e3⟩ := hB1 c hc hli'
      have hns : l c.s = false := by rw [h2]; exact hli
      rw [hns] at e3
      have e3' : Blk w1 (B c.i) c.T c.Z := by simpa using e3
      refine wp_store_mid c.T (.tmp c.d) y hop (B c.i) 0 c.X.toArray e1 (hy a w1 hJ.low hk hdeps) ?_ (by simpa using hsz) (all_one h1X) ?_
      · have := e3'.there 0 c.X.length (by rw [Nat.zero_add]; exact Nat.le_of_eq hlen)
        simpa using this
      have hbut := But.setCells (B c.i) c.X 0 w1
      have hlow : Below w.heap.size w1 (w1.setCells (B c.i) 0 c.X) := hbut.below e2 hJ.low.size
      have hnew : Blk (w1.setCells (B c.i) 0 c.X) (B c.i) c.T c.X := by
        have := e3'.over c.X 0 (by omega)
        rwa [over_all _ _ (by omega)] at this
      have hput : a.put o.dst undef = a := by rw [hdst]; rfl
      refine ⟨undef, rfl, ?_⟩
      rw [hput]
      refine ⟨hJ.low.trans hlow, fun j oj d hoj hl hcj hdj => ?_, fun c' hc' hl => ?_, B, fun c' hc' hl => ?_, fun c1 hc1 c2 hc2 hl1 hl2 hne => hB2 c1 hc1 c2 hc2 ?_ ?_ hne⟩
      · have hji : j ≠ i := fun e => by
          subst e
          rw [ho] at hoj
          simp only [Option.some.injEq] at hoj
          subst hoj
          rw [hdst] at hdj
          cases hdj
        exact hmono j w1 _ _ hlow (hJ.vals j oj d hoj (by simpa [hji] using hl) hcj hdj)
      · by_cases hs : c'.s = i
        · obtain rfl : c' = c := hds c' hc' c hc (by rw [hs, h2])
          simp [hli']
        · have hl' : l c'.s = true := by simpa [hs] using hl
          simp [hJ.made c' hc' hl']
      · have hl' : l c'.i = true := by simpa [h1 c' hc'] using hl
        obtain ⟨f1, f2, f3⟩ := hB1 c' hc' hl'
        refine ⟨f1, f2, ?_⟩
        by_cases hs : c'.s = i
        · obtain rfl : c' = c := hds c' hc' c hc (by rw [hs, h2])
          simpa [hs] using hnew
        · have hne : c'.i ≠ c.i := fun e => hs (by rw [hdi c' hc' c hc e, h2])
          have : (l c'.s || c'.s == i) = l c'.s := by simp [hs]
          rw [this]
          exact f3.but hbut (hB2 c' hc' c hc hl' hli' hne)
      · simpa [h1 c1 hc1] using hl1
      · simpa [h1 c2 hc2] using hl2
  · intro l a w1 hall hJ ht hd hk
    obtain ⟨B, hB1, hB2⟩ := hJ.cels
    refine hQ a w1 (ht.trans hn.symm) hd hk (fun i o d ho hc hdst => hJ.vals i o d ho (hall i (Array.getElem?_eq_some_iff.1 ho).1) hc hdst) hJ.low ⟨B, fun c hc hi hs => ?_, fun c hc c' hc' hi hi' hne => hB2 c hc c' hc' (hall _ hi) (hall _ hi') hne⟩
    obtain ⟨e1, e2, e3⟩ := hB1 c hc (hall _ hi)
    rw [hall _ hs] at e3
    exact ⟨e1, e2, by simpa using e3⟩
theorem notI {cells : List Cel} {i : Nat} (h : (cells.all fun c => c.i != i) = true) : ∀ c ∈ cells, c.i ≠ i := fun c hc => by
  have := List.all_eq_true.1 h c hc
  simpa using this
theorem notS {cells : List Cel} {i : Nat} (h : (cells.all fun c => c.s != i) = true) : ∀ c ∈ cells, c.s ≠ i := fun c hc => by
  have := List.all_eq_true.1 h c hc
  simpa using this
/-- It hangs on no memory. -/
def Kn.isVal (k : Kn) : Prop := ∀ w w' x, k.p w x → k.p w' x
theorem KS_mono_val (F : Nat → Kn) (hF : ∀ i, (F i).isVal) {N : Nat} : ∀ i w w' x, Below N w w' → KS F i w x → KS F i w' x := fun i w w' x _ h => hF i w w' x h
end Go.Proofs.YtmicmbjbclkbjaaDoor

/-
  The act behind a region that draws its order, written out.
-/
namespace Go.Proofs.YtmicmbjbclkbjaaDoor
open Go.RowKit
/-- The slots ds laid over an act. -/
def puts (a' : Act) (ds : List Nat) (a0 : Act) : Act := ds.foldl (fun a d => a.put (some d) (a'.eval (.tmp d))) a0
theorem puts_size (a' : Act) : ∀ (ds : List Nat) (a0 : Act), (puts a' ds a0).tmps.size = a0.tmps.size
  | [], _ => rfl
  | _ :: ds, _ => (puts_size a' ds _).trans put_size
theorem puts_defers (a' : Act) : ∀ (ds : List Nat) (a0 : Act), (puts a' ds a0).defers = a0.defers
  | [], _ => rfl
  | _ :: ds, _ => (puts_defers a' ds _).trans put_defers'
theorem puts_eval (a' : Act) (t : Nat) : ∀ (ds : List Nat) (a0 : Act), t < a0.tmps.size → a0.eval (.tmp t) = a'.eval (.tmp t) ∨ t ∈ ds → (puts a' ds a0).eval (.tmp t) = a'.eval (.tmp t)
  | [], a0, _, h => by
    rcases h with h | h
    · exact h
    · cases h
  | d :: ds, a0, hl, h => by
    refine puts_eval a' t ds _ (by rw [put_size]; exact hl) ?_
    by_cases hd : d = t
    · subst hd
      exact .inl (eval_put_same hl)
    · rcases h with h | h
      · exact .inl ((eval_put_other (fun e => hd (Option.some.inj e))).trans h)
      · rcases List.mem_cons.1 h with h | h
        · exact absurd h.symm hd
        · exact .inr h
/-- The act behind a region: the slots that the region writes, over the act ahead of it. -/
theorem act_puts {ops : Array Oper} {a0 a' : Act} (n : Nat) (h0 : a0.tmps.size = n) (hs : a'.tmps.size = n) (hd : a'.defers = a0.defers) (hk : Kept ops a0 a') (ds : List Nat) (hds : ((List.range n).all fun t => freeB ops t || ds.contains t) = true) :
    a' = puts a' ds a0 := by
  have hp := puts_size a' ds a0
  have hq := puts_defers a' ds a0
  have he : ∀ t, t < n → (puts a' ds a0).eval (.tmp t) = a'.eval (.tmp t) := fun t ht => by
    refine puts_eval a' t ds a0 (by omega) ?_
    have := List.all_eq_true.1 hds t (by simpa using ht)
    simp only [Bool.or_eq_true, List.contains_iff_mem] at this
    rcases this with h | h
    · exact .inl (hk.at t h).symm
    · exact .inr h
  have hpn : (puts a' ds a0).tmps.size = n := by omega
  generalize puts a' ds a0 = p at *
  refine (act_lit a' n hs).trans (Eq.trans ?_ (act_lit p n hpn).symm)
  congr 1
  · congr 1
    exact List.map_congr_left fun t ht => (he t (by simpa using ht)).symm
  · rw [hq]; exact hd
end Go.Proofs.YtmicmbjbclkbjaaDoor

/-
  What comes in, as the walks ask it.
-/
namespace Go.Proofs.YtmicmbjbclkbjaaDoor
open Go.RowKit

/-- A slice of integers that came in: nil; or a row of 'cap' cells, the numbers 'zs'. -/
def IsRow (k : IntKind) (w : World) (a : Option Addr) (len cap : Nat) (zs : List Int) : Prop :=
  (a = none ∧ len = 0 ∧ cap = 0 ∧ zs = []) ∨
  ∃ x, a = some x ∧ len ≤ cap ∧ cap ≤ maxLen ∧ zs.length = cap ∧ (∀ i, i < zs.length → w.cell? (x.add i) = some (.int k (zs.getD i 0))) ∧ ∀ n ∈ zs, (Lit.int k n).wf = true

theorem rd_of_row {w : World} {a : Option Addr} {len cap : Nat} {zs : List Int} (h : IsRow .u8 w a len cap zs) : ∃ l, Rd w (.slice a len cap) l := by
  rcases h with ⟨rfl, rfl, rfl, rfl⟩ | ⟨x, rfl, hl, hm, hz, hc, hw⟩
  · exact ⟨[], Rd_nil w⟩
  · refine ⟨(zs.take len).map fun n => UInt8.ofNat n.toNat, ?_⟩
    have hlen : ((zs.take len).map fun n => UInt8.ofNat n.toNat).length = len := by simp; omega
    refine ⟨some x, cap, by rw [hlen], by omega, hm, fun h => by simp at h, fun hp => ?_⟩
    rw [hlen] at hp
    obtain ⟨b, off, spot⟩ := x
    have h0 := hc 0 (by omega)
    have hspot : spot = none := by simpa [Addr.add] using World.cell?_spot h0
    subst hspot
    have h0' : w.cell? ⟨b, off, none⟩ = some (.int .u8 (zs.getD 0 0)) := by simpa [Addr.add_lit] using h0
    refine ⟨b, off, rfl, World.block_lt_of_cell? _ _ h0', fun j u hj => ?_⟩
    have hjl : j < len := by
      have := (List.getElem?_eq_some_iff.1 hj).1
      rw [By_length, hlen] at this
      exact this
    have hjz : j < zs.length := by omega
    have hcj := hc j hjz
    rw [Addr.add_lit] at hcj
    rw [hcj]
    have hwf := hw zs[j] (List.getElem_mem hjz)
    have hb := bounds_u8 hwf
    have e : (By ((zs.take len).map fun n => UInt8.ofNat n.toNat))[j]? = some (.int .u8 zs[j]) := by
      have hjt : j < ((zs.take len).map fun n => UInt8.ofNat n.toNat).length := by rw [hlen]; exact hjl
      rw [By_get hjt]
      simp only [List.getElem_map, List.getElem_take]
      congr 2
      simp
      omega
    rw [e] at hj
    rw [← hj]
    simp [hjz]

theorem args_len {w : World} {a : Option Addr} {len cap : Nat} {l : List UInt8} (h : Rd w (.slice a len cap) l) : l.length = len := by
  obtain ⟨a', cap', e, -⟩ := h
  simp only [Value.slice.injEq] at e
  exact e.2.1.symm

theorem nat_of_u64 {n : Int} (h : (Lit.int .u64 n).wf = true) : ∃ k : Nat, n = k ∧ Hid (k < 256 ^ 8) := by
  have hb := bounds_u64 h
  refine ⟨n.toNat, by omega, ?_⟩
  have : (256 : Nat) ^ 8 = 18446744073709551616 := by decide
  exact (show n.toNat < 256 ^ 8 by omega)
end Go.Proofs.YtmicmbjbclkbjaaDoor

/-
  What comes in, as the walks ask it: bytes.
-/
namespace Go.Proofs.YtmicmbjbclkbjaaDoor
open Go.RowKit Go.ChangeShapes Go.WideShapes Go.ChangeAt

set_option maxRecDepth 4000 in
theorem bytes_arg {H : Type} {enc : TypeId × Value → H} {W : World} {r : Reach} {base : Nat} {v : Value} {d : DataW H} {p : List MemPlace} {ts : List TypeId} {ds : List (DataW H)} {j : Nat} (hval : Value.okWide Tryd.prog W r base 28 v)
    (h : DataW.Trod enc Tryd.prog W 0 (fun _ => true) true 28 v d p) (hsz : (DataW.weightsEach Tryd.prog ts ds).all (· ≤ reachBytes) = true) (ht : ts[j]? = some 28) (hd : ds[j]? = some d) :
    ∃ l, Rd W v l ∧ l.length ≤ 140737488351232 := by
  obtain ⟨a, len, cap, rfl⟩ := okWide_slice Tryd.underlying28 hval
  obtain ⟨fuel, hf⟩ := h
  rcases open_ints Tryd.underlying28 Tryd.underlying5 (by kernel_rfl) hf with ⟨hcs, _⟩ | ⟨x, l, c, zs, hcs, _, hl, hm, hz, hx, hcell, hwz⟩
  · simp [Value.cells] at hcs
    obtain ⟨rfl, rfl, rfl⟩ := hcs
    exact ⟨[], Rd_nil W, by simp⟩
  · simp [Value.cells] at hcs
    obtain ⟨rfl, rfl, rfl⟩ := hcs
    simp only [Prod.mk.injEq] at hx
    obtain ⟨rfl, -⟩ := hx
    have hzz : zs.length = cap := by simpa using hz
    have hs := sized_slice hsz ht hd Tryd.underlying28
    rw [show Tryd.prog.bytesOf 5 = 1 from by kernel_rfl] at hs
    simp only [lits, List.length_map, List.length_take, List.length_drop, reachBytes] at hs
    obtain ⟨l, hrd⟩ := rd_of_row (w := W) (a := some x) (len := len) (cap := cap) (zs := zs) (.inr ⟨x, rfl, hl, hm, hzz, hcell, hwz⟩)
    exact ⟨l, hrd, by have := args_len hrd; omega⟩

end Go.Proofs.YtmicmbjbclkbjaaDoor
