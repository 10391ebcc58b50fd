/-
  Rows of spans, reads and records that literals make; inOrder of one span.
-/
import Derived.Test.YthniaoacanabdaaCtI
import Derived.Test.YthniaoacanabdaaBfL
namespace Go.Proofs.Ythniaoacanabdaa
open Go.RowKit
theorem build_span1 (s : Sp) (w : World) : (Instr.buildSlice 47 1 #[(0, .agg (SC s).toArray)]).run Try.prog w = .ok (.slice (some ⟨w.heap.size, 0, none⟩) 1 1) (w.alloc (.cells (SC s).toArray 51 (0, 0))) := by kernel_rfl
theorem build_read1 (x : Rz) (w : World) : (Instr.buildSlice 22 1 #[(0, .agg (XC x).toArray)]).run Try.prog w = .ok (.slice (some ⟨w.heap.size, 0, none⟩) 1 1) (w.alloc (.cells (XC x).toArray 27 (0, 0))) := by kernel_rfl
theorem build_rec1 (r : Rc) (w : World) : (Instr.buildSlice 34 1 #[(0, .agg (RC r).toArray)]).run Try.prog w = .ok (.slice (some ⟨w.heap.size, 0, none⟩) 1 1) (w.alloc (.cells (RC r).toArray 25 (0, 0))) := by kernel_rfl
theorem build_rec2 (r o : Rc) (w : World) : (Instr.buildSlice 34 2 #[(0, .agg (RC r).toArray), (1, .agg (RC o).toArray)]).run Try.prog w = .ok (.slice (some ⟨w.heap.size, 0, none⟩) 2 2) (w.alloc (.cells (RC r ++ RC o).toArray 25 (0, 0))) := by kernel_rfl
theorem ownE_one {α : Type} {E : Enc α} (w : World) (B : Nat) (T : TypeId) (x : α) (hB : B ≤ w.heap.size) : OwnG E (w.alloc (.cells (E.c x).toArray T (0, 0))) B T (.slice (some ⟨w.heap.size, 0, none⟩) 1 1) [x] := by
  refine OwnG.of_blk (L := [x]) (cap := 1) (Blk.new w T (E.c x)) hB ?_ ?_ (by simp) (by simp [maxLen])
  · rw [List.length_singleton, Nat.one_mul, List.take_of_length_le (by rw [E.len]; exact Nat.le_refl _), Enc.cs_one1]
  · rw [E.len, Nat.one_mul]
theorem ownE_two {α : Type} {E : Enc α} (w : World) (B : Nat) (T : TypeId) (x y : α) (hB : B ≤ w.heap.size) : OwnG E (w.alloc (.cells (E.c x ++ E.c y).toArray T (0, 0))) B T (.slice (some ⟨w.heap.size, 0, none⟩) 2 2) [x, y] := by
  refine OwnG.of_blk (L := [x, y]) (cap := 2) (Blk.new w T (E.c x ++ E.c y)) hB ?_ ?_ (by simp) (by simp [maxLen])
  · rw [List.take_of_length_le (by rw [List.length_append, E.len, E.len]; simp; omega)]
    simp [Enc.cs]
  · rw [List.length_append, E.len, E.len]; omega
/-- What an owned row of one span is: all of its block. -/
theorem one_blk {w : World} {B g : Nat} {s : Sp} (h : OwnG SE w B 51 (.slice (some ⟨g, 0, none⟩) 1 1) [s]) : Blk w g 51 (SC s) := by
  obtain ⟨g', cap', cur, hv, hg, hB, ht, hc, h1, h2⟩ := h.blk (by simp)
  simp only [Value.slice.injEq, Option.some.injEq, Addr.mk.injEq, and_true] at hv
  obtain ⟨rfl, -, rfl⟩ := hv
  rw [Enc.cs_one1, List.take_of_length_le (by rw [hc]; exact Nat.le_refl _)] at ht
  rw [ht] at hB
  exact hB
theorem inOrder1_any {w : World} {B g : Nat} {s : Sp} (ho : OwnG SE w B 51 (.slice (some ⟨g, 0, none⟩) 1 1) [s]) :
    Calls Try.prog 26 #[.slice (some ⟨g, 0, none⟩) 1 1] w fun e w' => e = .returned (.slice (some ⟨g, 0, none⟩) 1 1) ∧ Tel w' (.slice (some ⟨g, 0, none⟩) 1 1) [s] ∧ Below w.heap.size w w' := by
  refine (inOrder_own ho (by simp)).mono ?_
  rintro e w' ⟨rfl, M, hM, ho', hc⟩
  have hM1 : M = [s] := by
    have hl := hM.len
    obtain ⟨S, hp, -, hS, hM2⟩ := hM
    have hS1 : S = [s] := List.perm_singleton.1 hp
    subst hS1
    match M, hl with
    | [m], _ =>
      have := hM2 0 (by simp)
      simpa [topE] using this
  have ht : Tel w' (.slice (some ⟨g, 0, none⟩) 1 1) [s] := ⟨⟨M, by rw [hM1] at ho' ⊢; exact ho'.rd, hM⟩, by simp⟩
  subst hM1
  refine ⟨rfl, ht, hc.os, hc.tape, hc.output, hc.size, fun k hk => ?_⟩
  by_cases e : k = g
  · subst e
    rw [show w'.heap[k]? = _ from one_blk ho', show w.heap[k]? = _ from one_blk ho]
  · exact hc.block k hk (fun h => e (by simpa [Value.ownBlock] using h.symm))
end Go.Proofs.Ythniaoacanabdaa
