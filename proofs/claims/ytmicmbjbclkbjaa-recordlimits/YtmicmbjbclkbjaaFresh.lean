/-
  pack.fresh, bytes.Equal: what the calls do.
-/
import Derived.Test.YtmicmbjbclkbjaaChecked
import Derived.Test.YtmicmbjbclkbjaaBase
import Derived.Test.YtmicmbjbclkbjaaRegion
namespace Go.Proofs.Ytmicmbjbclkbjaa
open Go.RowKit

theorem Try.info5S : (Try.prog.info? 5).map (fun i => (i.zero, i.size, i.bytes)) = some (some (.int .u8 0), 1, 1) := by kernel_rfl
theorem Try.size5S : (Try.prog.info? 5).map (·.size) = some 1 := by kernel_rfl

theorem wpList_make_bytesS {P : Program} (w : World) {ops : Array Oper} {rest : List Oper} {o : Oper} {a : Act} {Q : Exit → Act → World → Prop}
    (hg : o.guard = none) (l c : Operand) (t : TypeId) (hop : o.op = Op.makeSlice t l c)
    (i : TypeInfo) (h1 : P.underlying t = some (.slice 5)) (h2 : P.info? 5 = some i) (h3 : i.zero = some (.int .u8 0)) (h4 : i.size = 1) (h5 : i.bytes = 1)
    (kl kc : IntKind) (L C : Int) (n m : Nat) (hl : a.eval l = .int kl L) (hc : a.eval c = .int kc C) (hL : L = (n : Int)) (hC : C = (m : Int)) (hnm : n ≤ m) (b2 : m ≤ 281474976710656)
    (hK : wpList P ops Q rest (a.put o.dst (.slice (some ⟨w.heap.size, 0, none⟩) n m)) (w.alloc (.cells (List.replicate m (Value.int .u8 0)).toArray 5))) :
    wpList P ops Q (o :: rest) a w := by
  refine wpList_plain hg fun K hK' => ?_
  subst hL
  subst hC
  have hrun := run_make (P := P) w t 5 i (.int .u8 0) h1 h2 h3 kl kc n m (by omega) (by omega) (by rw [h5]; omega) (by omega)
  have e : madeCells (Value.int .u8 0).cells ((m : Int).toNat * i.size) = (List.replicate m (Value.int .u8 0)).toArray := by
    apply Array.ext'
    rw [h4]
    show (madeCells #[Value.int .u8 0] _).toList = _
    rw [toList_madeCells_one]
    simp
  rw [e] at hrun
  simp only [Int.toNat_natCast] at hrun
  unfold Oper.wp
  simp only [execOp, hop, hl, hc, hrun, Result.andThen, Sem.run_bind, Sem.run_pure]
  exact hK' _ _ hK

theorem Own_of_row {w : World} {B g C : Nat} {l : List UInt8} (h : w.heap[g]? = some (.cells (splice (List.replicate C (Value.int .u8 0)) 0 (By l)).toArray 5 (0, 0))) (hB : B ≤ g) (hl : l.length ≤ C) (hC : C ≤ maxLen) :
    Own w B (.slice (some ⟨g, 0, none⟩) l.length C) l := by
  refine ⟨by simp [By_length], .inr ⟨g, C, _, rfl, hB, h, hl, hC, ?_, ?_⟩⟩
  · simp only [List.size_toArray, Nat.mul_one]
    rw [length_splice]
    · simp
    · simp [By_length]; omega
  · simp only [Nat.mul_one, splice, List.take_zero, List.nil_append]
    rw [← By_length l]
    exact List.take_left

set_option maxHeartbeats 400000 in
theorem fresh_any (v : Value) (l : List UInt8) (m : Nat) (w : World) (hr : Rd w v l) (hm : l.length + m ≤ 140737488355328) :
    Calls Try.prog 78 #[v, .int .i64 m] w fun e w' => ∃ v', e = .returned v' ∧ Own w' w.heap.size v' l ∧ Below w.heap.size w w' := by
  have hr0 := hr
  obtain ⟨a, cap, rfl, h1, h2, h3, h4⟩ := hr
  obtain ⟨i0, hi, hz0, hz1, hz2⟩ := info_parts Try.info5S
  have hmx : (l.length : Int) + m ≤ 140737488355328 := by omega
  go_enter Try.func78, Try.ntmps78
  go_wp2_with (first
    | (at_make; refine wpList_make_bytesS _ rfl _ _ 22 rfl i0 Try.underlying22 hi hz0 hz1 hz2 _ _ _ _ l.length (l.length + m) rfl rfl rfl (by omega) (by omega) (by omega) ?_)
    | (refine wpList_copy_splice rfl (.tmp 13) (.tmp 14) 22 22 rfl 5 Try.underlying22 Try.size5S _ _ _ _ _ _ rfl rfl w.heap.size 0 (List.replicate (l.length + m) (Value.int .u8 0)) 5 (heap_alloc_new w _) (By l) (by simp [By_length]) ?_ (by simp [By_length]) (By_one l) w.heap.size w ((Below.refl _ _).alloc (Nat.le_refl _) _) (Nat.le_refl _) ?_; rotate_left; intro w2 HG2 hB2))
  · go_ret
    exact ⟨_, rfl, Own_of_row HG2.out (Nat.le_refl _) (by omega) (by simp only [maxLen]; omega), hB2⟩
  · intro hpos
    rw [By_length] at hpos
    obtain ⟨b, off, rfl, hlt, hc⟩ := h4 hpos
    exact ⟨_, rfl, fun j u hj => by rw [Addr.add_lit]; exact (((Below.refl w.heap.size w).alloc (Nat.le_refl _) _).cell (p := ⟨b, off + j, none⟩) hlt).trans (hc j u hj)⟩

set_option maxHeartbeats 400000 in
theorem equal_any (v u : Value) (l m : List UInt8) (w : World) (hv : Rd w v l) (hu : Rd w u m) :
    Calls Try.prog 57 #[v, u] w fun e w' => e = .returned (.bool (l == m)) ∧ w' = w := by
  have c1 := hv.conv (P := Try.prog) 22 9 Try.underlying22 Try.underlying5 Try.underlying9
  have c2 := hu.conv (P := Try.prog) 22 9 Try.underlying22 Try.underlying5 Try.underlying9
  obtain ⟨a, cap, rfl, -⟩ := hv
  obtain ⟨b, cap', rfl, -⟩ := hu
  go_enter Try.func57, Try.ntmps57
  go_wp2
  go_ret
  exact ⟨rfl, rfl⟩
#print axioms fresh_any
#print axioms equal_any
end Go.Proofs.Ytmicmbjbclkbjaa
