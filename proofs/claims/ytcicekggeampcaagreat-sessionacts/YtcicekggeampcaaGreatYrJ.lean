/-
  The document's Same of records: what the call does.
-/
import Derived.Test.YtcicekggeampcaaGreatYrH
import Derived.Test.YtcicekggeampcaaGreatYrL
namespace Go.Proofs.YtcicekggeampcaaGreat
open Go.RowKit
set_option maxRecDepth 100000 in
set_option maxHeartbeats 4000000 in
theorem same14_any {w : World} {p q : Rc} {id : Int} {z : Option Tx} (hp : RecIs w p id z) (hq : RecIs w q id z) :
    Calls Tryz.prog 12 #[.agg (RC p).toArray, .agg (RC q).toArray] w fun e w' => e = .returned (.bool true) ∧ Below w.heap.size w w' := by
  have he := hp.1.trans hq.1.symm
  obtain ⟨ps, pn, pst, prs, pws, pra, prc, pwa, pwc⟩ := p
  obtain ⟨qs, qn, qst, qrs, qws, qra, qrc, qwa, qwc⟩ := q
  simp only [Prod.mk.injEq] at he
  obtain ⟨rfl, rfl, rfl, he, rfl⟩ := he
  have HE := hide he
  have HP := hide hp.2
  have HQ := hide hq.2
  clear hp hq he
  obtain ⟨N1, HN1⟩ : ∃ N, Hid (w.heap.size = N) := ⟨_, rfl⟩
  obtain ⟨w1, hw1⟩ : ∃ y, y = w.alloc (.cells (RC ⟨ps, pn, pst, prs, pws, pra, prc, pwa, pwc⟩).toArray 41 (0, 0)) := ⟨_, rfl⟩
  obtain ⟨b1, l1⟩ := newB HN1 hw1
  obtain ⟨N2, HN2⟩ : ∃ N, Hid (w1.heap.size = N) := ⟨_, rfl⟩
  obtain ⟨w2, hw2⟩ : ∃ y, y = w1.alloc (.cells (RC ⟨ps, pn, pst, qrs, pws, qra, qrc, qwa, qwc⟩).toArray 41 (0, 0)) := ⟨_, rfl⟩
  obtain ⟨b2, l2⟩ := newB HN2 hw2
  have HW1 := hide hw1
  have HW2 := hide hw2
  have B1 := hide (b1.out.kept l2.out)
  have L2 : Hid (Below w.heap.size w w2) := (show Below _ _ _ from l1.out.trans (l2.out.mono l1.out.size))
  have CX := hide (sameX_eq (HP.out.kept L2.out).rs (HQ.out.kept L2.out).rs HE.out)
  have p0 := B1.out.cell (j := 0) rfl
  have p1 := B1.out.cell (j := 1) rfl
  have p2 := B1.out.cell (j := 2) rfl
  have p3 := B1.out.cell (j := 3) rfl
  have q0 := b2.out.cell (j := 0) rfl
  have q1 := b2.out.cell (j := 1) rfl
  have q2 := b2.out.cell (j := 2) rfl
  have q3 := b2.out.cell (j := 3) rfl
  clear hw1 hw2
  go_enter Tryz.func12, Tryz.ntmps12
  go_upto_region 1 with fail
  change Code.wp _ _ _ _ ((w.alloc (.cells (RC ⟨ps, pn, pst, prs, pws, pra, prc, pwa, pwc⟩).toArray 41 (0, 0))).alloc (.cells (RC ⟨ps, pn, pst, qrs, pws, qra, qrc, qwa, qwc⟩).toArray 41 (0, 0)))
  have e2 : w.heap.size + 1 = N2 := by have := HN2.out; rw [HW1.out] at this; simpa using this
  rw [← HW1.out, ← HW2.out, e2, HN1.out]
  clear e2
  go_wp2_with fail
  refine CX.out.mono ?_
  rintro e w3 ⟨rfl, hb3⟩
  have L3 : Hid (Below w.heap.size w w3) := (show Below _ _ _ from L2.out.trans (hb3.mono L2.out.size))
  have p4 := (B1.out.kept hb3).cell (j := 4) rfl
  have q4 := (b2.out.kept hb3).cell (j := 4) rfl
  have CY := hide (sameR_any (HP.out.kept L3.out).ws (HQ.out.kept L3.out).ws)
  simp only [decide_true] at CY
  clear hb3 CX p0 p1 p2 p3 q0 q1 q2 q3
  go_wp2_with fail
  refine CY.out.mono ?_
  rintro e w4 ⟨rfl, hb4⟩
  have L4 : Hid (Below w.heap.size w w4) := (show Below _ _ _ from L3.out.trans (hb4.mono L3.out.size))
  clear hb4
  go_wp2_with fail
  go_ret
  exact ⟨rfl, L4.out⟩
end Go.Proofs.YtcicekggeampcaaGreat
