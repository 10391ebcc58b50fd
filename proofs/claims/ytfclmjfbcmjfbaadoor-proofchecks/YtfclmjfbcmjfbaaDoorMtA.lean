/-
  mountain.Peaks.Add: what the call does.
-/
import Derived.Test.YtfclmjfbcmjfbaaDoorGMb
import Derived.Test.YtfclmjfbcmjfbaaDoorGR10
namespace Go.Proofs.YtfclmjfbcmjfbaaDoor
open Go.RowKit
/-- May a tree of this size, with as many peaks, have one leaf more? -/
def addOk (s : Int) (n : Nat) : Bool := goodB s n && !decide (s = 1099511627776)
def addS (s : Int) (n : Nat) : Int := if addOk s n = true then s + 1 else s
/-- The peaks with one leaf more. -/
def addT (s : Int) (L : List Hs) (h : Hs) : List Hs := if addOk s L.length = true then (carry nd s.toNat L.reverse h).reverse else L
/-- A peaks' value with a row of its own. -/
def OPk (N : Nat) (e : TypeId) (s : Int) (L : List Hs) (w : World) (x : Value) : Prop := ∃ a n c, x = .agg #[.int .i64 s, .slice a n c] ∧ OwnG HE w N e (.slice a n c) L
theorem OPk.kept {N : Nat} {e : TypeId} {s : Int} {L : List Hs} (w w' : World) (x : Value) (hg : Gr w w') (h : OPk N e s L w x) : OPk N e s L w' x := by
  obtain ⟨a, n, c, rfl, ho⟩ := h
  exact ⟨a, n, c, rfl, ho.kept hg⟩
theorem results_peaks {P : Program} {fn : Func} {p u : Tmp} {ty : TypeId} (h : fn.results = #[.cell p ty, .tmp u]) (tmps : Array Value) (w : World) (g : Nat) (T : TypeId) (cs : List Value) (b : Value) {d : TypeDesc}
    (hp : tmps.getD p undef = .pointer (some ⟨g, 0, none⟩)) (hb : tmps.getD u undef = b) (hB : Blk w g T cs) (hu : P.underlying ty = some d) (hd : d.isRow = true) (hi : (P.info? ty).map (·.size) = some cs.length) : (results fn tmps).run P w = .ok (.tuple #[.agg cs.toArray, b]) w := by
  rw [results_cell_tmp h, hp, hb]
  have := run_loadVar_mid (P := P) w g 0 ty cs d hB.range0 hu hd hi
  simp [asAddr, this]
/-- A new row of one hash. -/
theorem hash_new (w : World) (x : Hs) : ∃ w1, (Instr.buildSlice 22 1 #[(0, HV x)]).run Tryd.prog w = .ok (.slice (some ⟨w.heap.size, 0, none⟩) 1 1) w1 ∧ Gr w w1 ∧ RdG HE w1 (.slice (some ⟨w.heap.size, 0, none⟩) 1 1) [x] := by
  obtain ⟨w1, h1, h2, b, cap, e, hb, hc, hx⟩ := hashes_new w [x.1] (by simp [x.2]) (by simp) (by simp)
  simp only [List.length_singleton, Value.slice.injEq, Option.some.injEq, Addr.mk.injEq, and_true] at e
  obtain ⟨rfl, -, rfl⟩ := e
  refine ⟨w1, h1, h2, some ⟨w.heap.size, 0, none⟩, 1, rfl, by simp, by simp [maxLen], fun h => by simp at h, fun _ => ⟨w.heap.size, 0, rfl, hb, fun j u hj => ?_⟩⟩
  have := hx 0 (by simp) j u (by simpa [HE, Enc.cs] using hj)
  simpa using this
theorem boxes9 {w w0 : World} {N : Nat} {c0 c1 c2 : List Value} {T0 T1 T2 : TypeId} (HN : Hid (w.heap.size = N)) (hw : w0 = ((w.alloc (.cells c0.toArray T0 (0, 0))).alloc (.cells c1.toArray T1 (0, 0))).alloc (.cells c2.toArray T2 (0, 0))) :
    Blk w0 N T0 c0 ∧ Blk w0 (N + 1) T1 c1 ∧ Blk w0 (N + 1 + 1) T2 c2 ∧ Below N w w0 := by
  subst hw
  have h1 := Blk.new w T0 c0
  have h2 := Blk.new (w.alloc (.cells c0.toArray T0 (0, 0))) T1 c1
  have h3 := Blk.new ((w.alloc (.cells c0.toArray T0 (0, 0))).alloc (.cells c1.toArray T1 (0, 0))) T2 c2
  rw [show (w.alloc (.cells c0.toArray T0 (0, 0))).heap.size = N + 1 by simp [HN.out]] at h2
  rw [show ((w.alloc (.cells c0.toArray T0 (0, 0))).alloc (.cells c1.toArray T1 (0, 0))).heap.size = N + 1 + 1 by simp [HN.out]] at h3
  rw [HN.out] at h1
  exact ⟨(h1.alloc _).alloc _, h2.alloc _, h3, (((Below.refl _ _).alloc (by rw [HN.out]; exact Nat.le_refl _) _).alloc (by simp [HN.out]) _).alloc (by simp [HN.out]; omega) _⟩
theorem carry_even {c : Nat} (h : c % 2 = 0) (T : List Hs) (x : Hs) : (carry nd c T.reverse x).reverse = T ++ [x] := by
  cases hT : T.reverse with
  | nil =>
    have : T = [] := by simpa using hT
    subst this
    rfl
  | cons t R =>
    rw [carry, if_neg (by omega), List.reverse_cons, ← hT, List.reverse_reverse]
theorem carry_odd {c k : Nat} (h : c % 2 = 1) (L : List Hs) (hk : k < L.length) (x : Hs) : carry nd c (L.take (k + 1)).reverse x = carry nd (c / 2) (L.take k).reverse (nd L[k] x) := by
  rw [List.take_add_one, List.getElem?_eq_getElem hk, Option.toList_some, List.reverse_append, List.reverse_singleton, List.singleton_append, carry, if_pos h]
theorem rangeAt_kept9 {w w' : World} {b off : Nat} {cs : List Value} (h : w.rangeAt b off cs) (hb : b < w.heap.size) (hg : Below w.heap.size w w') : w'.rangeAt b off cs :=
  fun j u hj => (hg.cell (p := ⟨b, off + j, none⟩) hb).trans (h j u hj)
theorem bits_pop {c : Nat} (h : c < 9223372036854775808) : (bitsFrom 63 c).length = c % 2 + (bitsFrom 63 (c / 2)).length := by
  rw [bits_half 62 c (by omega), bits_any (k := 62) (k' := 63) (by omega) (by omega)]
end Go.Proofs.YtfclmjfbcmjfbaaDoor
