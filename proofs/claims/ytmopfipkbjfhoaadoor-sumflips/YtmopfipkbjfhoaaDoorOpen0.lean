/-
  What sum.Open's operations do; bytes.Clone; what is opened, in plain words.
-/
import Derived.Test.YtmopfipkbjfhoaaDoorLives
import Derived.Test.YtmopfipkbjfhoaaDoorRegion
import Derived.Test.YtmopfipkbjfhoaaDoorMixed
import Derived.Stop.BytesEq
namespace Go.Proofs.YtmopfipkbjfhoaaDoor
open Go.RowKit

/-- What is framed at the begin of bytes. -/
def opn (l : List UInt8) : List UInt8 × Nat × Bool :=
  if (gn l).2.2 = true ∧ (gn l).1 ≤ 8192 ∧ (gn l).2.1 + (gn l).1 + 4 ≤ l.length ∧ be4 (crc (l.take ((gn l).2.1 + (gn l).1))) = (l.drop ((gn l).2.1 + (gn l).1)).take 4 then
    ((l.drop (gn l).2.1).take (gn l).1, (gn l).2.1 + (gn l).1 + 4, true)
  else ([], 0, false)
theorem opn_yes {l : List UInt8} {n k : Nat} (h : gn l = (n, k, true)) (h1 : n ≤ 8192) (h2 : k + n + 4 ≤ l.length) (h3 : be4 (crc (l.take (k + n))) = (l.drop (k + n)).take 4) :
    opn l = ((l.drop k).take n, k + n + 4, true) := by
  unfold opn; rw [h]; rw [if_pos ⟨rfl, h1, h2, h3⟩]
theorem opn_no {l : List UInt8} {n k : Nat} {ok : Bool} (h : gn l = (n, k, ok)) (h1 : ¬ (ok = true ∧ n ≤ 8192 ∧ k + n + 4 ≤ l.length ∧ be4 (crc (l.take (k + n))) = (l.drop (k + n)).take 4)) :
    opn l = ([], 0, false) := by
  unfold opn; rw [h]; rw [if_neg h1]

theorem size_elem22 (W : World) : (sizeOf (Tryd.prog.elem 22)).run Tryd.prog W = .ok 1 W := by
  have he : Tryd.prog.elem 22 = 5 := by kernel_rfl
  obtain ⟨i0, hi, hz0, hz1, hz2⟩ := info_parts Tryd.info5
  rw [he]
  simp [sizeOf, typeInfo, hi, hz1]
/-- b[:k]. -/
theorem slice_to (b off n cap k : Nat) (hk : k ≤ n) (hc : n ≤ cap) (W : World) : (Instr.sliceAt 22 (.slice (some ⟨b, off, none⟩) n cap) none (some (.int .i64 (k : Int))) none).run Tryd.prog W = .ok (.slice (some ⟨b, off, none⟩) k cap) W := by
  have hu : Tryd.prog.underlying 22 = some (.slice (Tryd.prog.elem 22)) := by kernel_rfl
  rw [run_sliceAt_slice W 22 _ _ _ _ hu, run_slice_h W 22 _ _ _ hu .i64 (k : Int) (by omega) (by omega), size_elem22]
  simp [Result.andThen, sliced, Addr.add_lit]
/-- b[i:j]. -/
theorem slice_mid (b off n cap i j : Nat) (hi : i ≤ j) (hj : j ≤ n) (hc : n ≤ cap) (hlt : i < cap) (W : World) : (Instr.sliceAt 22 (.slice (some ⟨b, off, none⟩) n cap) (some (.int .i64 (i : Int))) (some (.int .i64 (j : Int))) none).run Tryd.prog W = .ok (.slice (some ⟨b, off + i, none⟩) (j - i) (cap - i)) W := by
  have hu : Tryd.prog.underlying 22 = some (.slice (Tryd.prog.elem 22)) := by kernel_rfl
  have hne : ¬ cap = i := by omega
  rw [run_sliceAt_slice W 22 _ _ _ _ hu, run_slice_lh W 22 _ _ _ hu .i64 .i64 (i : Int) (j : Int) (by omega) (by omega) (by omega), size_elem22]
  simp [Result.andThen, sliced, Addr.add_lit, hne]
theorem arrayAt44 (a : Option Addr) (c : Nat) (W : World) : (Instr.arrayAt 44 (.slice a 4 c)).run Tryd.prog W = .ok (.pointer a) W := by
  simp [Instr.arrayAt, run_underlying Tryd.underlying44]
theorem load44 {W : World} {b o : Nat} {L : List UInt8} (hL : L.length = 4) (hc : ∀ j u, (By L)[j]? = some u → W.cell? ⟨b, o + j, none⟩ = some u) :
    (Instr.loadAt 44 (.pointer (some ⟨b, o, none⟩))).run Tryd.prog W = .ok (.agg (By L).toArray) W := by
  have hl := run_loadCells_list (P := Tryd.prog) W ⟨b, o, none⟩ (By L) (fun j v hv => by rw [Addr.add_lit]; exact hc j v hv)
  rw [By_length, hL] at hl
  simp [Instr.loadAt, Instr.sureAddr, loadVar, isAgg, run_underlying Tryd.underlying44, hl]
theorem neq44 (S R : List UInt8) (hS : S.length = 4) (hR : R.length = 4) (W : World) : (binOp .neq 44 (.agg (By S).toArray) (.agg (By R).toArray)).run Tryd.prog W = .ok (.bool (!(S == R))) W := by
  have h5 : ∀ w, (sizeOf 5).run Tryd.prog w = .ok 1 w := fun w => by
    obtain ⟨i0, hi, hz0, hz1, hz2⟩ := info_parts Tryd.info5
    simp [sizeOf, typeInfo, hi, hz1]
  rw [run_neq_struct]
  have := run_equalIn_bytes (P := Tryd.prog) W 9998 44 5 4 Tryd.underlying44 Tryd.underlying5 h5 S R hS hR
  have e : ∀ l : List UInt8, By l = l.map Extern.Stop.cell := fun l => rfl
  rw [e, e, this]
  rfl

theorem eqnil22 (x : Addr) (n c : Nat) (W : World) : (binOp .eql 22 (.slice (some x) n c) (.slice none 0 0)).run Tryd.prog W = .ok (.bool false) W := by
  have h : (Op.equalIn (9999 + 1) 22 (.slice (some x) n c) (.slice none 0 0)).run Tryd.prog W = .ok false W := by
    rw [Op.equalIn]
    simp [run_underlying Tryd.underlying22]
  have h' : (Op.equalIn 10000 22 (.slice (some x) n c) (.slice none 0 0)).run Tryd.prog W = .ok false W := h
  simp only [binOp]
  simp [Op.equal, Op.maxDepth, h']
set_option maxRecDepth 100000 in
theorem clone_any (b off n cap : Nat) (l : List UInt8) (w : World) (h : Rd w (.slice (some ⟨b, off, none⟩) n cap) l) (hl : l.length ≤ 140737488355328) :
    Calls Tryd.prog 25 #[.slice (some ⟨b, off, none⟩) n cap] w fun e w' => ∃ v', e = .returned v' ∧ Own w' w.heap.size v' l ∧ Below w.heap.size w w' := by
  obtain ⟨i0, hi, hz0, hz1, hz2⟩ := info_parts Tryd.info5
  have hr1 := h.kept ((Below.refl w.heap.size w).alloc (Nat.le_refl _) (.cells #[] 5 (0, 0)))
  have hq := eqnil22
  go_enter Tryd.func25, Tryd.ntmps25
  go_wp2_with (first
    | (at_builtin; refine wpList_append_bytes _ rfl (.tmp 5) (.tmp 6) 22 22 rfl w.heap.size i0 Tryd.underlying22 hi hz0 hz1 hz2 _ [] rfl (own_none w _ (Nat.le_refl _)) _ l rfl (hr1.src 22 Tryd.underlying22) (by simp; omega) (by simp) ?_; intro v1 w1 ho1 hb1; simp only [List.nil_append] at ho1))
  go_ret
  exact ⟨_, rfl, ho1, ((Below.refl _ _).alloc (Nat.le_refl _) _).trans hb1⟩
#print axioms clone_any
end Go.Proofs.YtmopfipkbjfhoaaDoor
