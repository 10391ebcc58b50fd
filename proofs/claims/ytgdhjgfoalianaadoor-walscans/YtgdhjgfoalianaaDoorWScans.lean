/-
  indenturelaw06.WalScans: the walk: the call returns true and makes new memory alone.
-/
import Derived.Test.YtgdhjgfoalianaaDoorQSame
namespace Go.Proofs.YtgdhjgfoalianaaDoor
open Go.RowKit

theorem texts_le (b : List UInt8) : (texts b).length ≤ b.length / 32 + 1 := by
  unfold texts
  rw [List.length_map]
  exact frs_length b _ _
theorem OwnR.rdr {w : World} {B : Nat} {v : Value} {L : List (List UInt8)} (h : OwnR w B v L) : RdR w v L := (h.cool (c := fun _ => 0) (fun _ _ => rfl)).rd

set_option maxRecDepth 100000 in
set_option maxHeartbeats 1000000 in
theorem walScans_any (v : Value) (b : List UInt8) (w : World) (hT : Tab w) (hr : Rd w v b) : Calls Tryd.prog 4 #[v] w fun e w' => e = .returned (.bool true) ∧ Below w.heap.size w w' := by
  obtain ⟨a, cap, hv⟩ := hr.slice
  subst hv
  have HR := hide hr
  have HT := hide hT
  clear hr hT
  by_cases hl : 2000 < b.length
  · have q1 : (2000 : Int) < (b.length : Int) := by omega
    go_enter Tryd.func4, Tryd.ntmps4
    go_wp2_with fail
    refine (lives_any w HT.out).mono ?_
    rintro e w1 ⟨rfl, hb1⟩
    have HB := hide hb1
    clear hb1
    go_wp2_with fail
    go_ret
    exact ⟨rfl, HB.out⟩
  · have q1 : ¬ (2000 : Int) < (b.length : Int) := by omega
    have hte := texts_le b
    have hend := ends_mod b
    go_enter Tryd.func4, Tryd.ntmps4
    go_wp2_with fail
    refine (scan_any _ b w HT.out HR.out (by omega)).mono ?_
    rintro e w1 ⟨u1, rfl, o1, b1⟩
    have HO1 := hide o1
    have HB1 := hide b1
    clear o1 b1
    go_wp2_with fail
    refine (qscan_any _ b w1 (HR.out.kept HB1.out) (by omega)).mono ?_
    rintro e w2 ⟨u2, rfl, o2, b2⟩
    have HB2 : Hid (Below w.heap.size w w2) := HB1.out.trans (b2.mono HB1.out.size)
    have hc := qsame_any u1 u2 _ _ w2 (HO1.out.rdr.kept b2) o2.rdr (by omega) (by omega)
    rw [decide_eq_true rfl] at hc
    have HC := hide hc
    clear hc
    clear o2 b2
    go_wp2_with fail
    refine HC.out.mono ?_
    rintro e w3 ⟨rfl, b3⟩
    have HB3 : Hid (Below w.heap.size w w3) := HB2.out.trans (b3.mono HB2.out.size)
    clear b3
    go_wp2_with fail
    refine (lives_any w3 (HT.out.kept HB3.out)).mono ?_
    rintro e w4 ⟨rfl, b4⟩
    have HB4 : Hid (Below w.heap.size w w4) := HB3.out.trans (b4.mono HB3.out.size)
    clear b4
    go_wp2_with fail
    go_ret
    exact ⟨rfl, HB4.out⟩
#print axioms walScans_any
end Go.Proofs.YtgdhjgfoalianaaDoor
