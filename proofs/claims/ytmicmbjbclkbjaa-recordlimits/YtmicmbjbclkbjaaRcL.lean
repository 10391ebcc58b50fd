/-
  The law's light: what the call does.
-/
import Derived.Test.YtmicmbjbclkbjaaRcK
import Derived.Test.YtmicmbjbclkbjaaRcN
namespace Go.Proofs.Ytmicmbjbclkbjaa
open Go.RowKit
set_option maxRecDepth 100000 in
theorem mlight_any {w : World} {r : Rc} (hr : ROk w r) (hb : RB 140737488351232 r) : Calls Try.prog 11 #[.agg (RC r).toArray] w fun e w' => ∃ b, e = .returned (.bool b) ∧ (b = true → LtR r) ∧ Below w.heap.size w w' := by
  obtain ⟨N, HN⟩ : ∃ N, Hid (w.heap.size = N) := ⟨_, rfl⟩
  obtain ⟨w1, hw1⟩ : ∃ y, y = w.alloc (.cells (RC r).toArray 27 (0, 0)) := ⟨_, rfl⟩
  obtain ⟨b1, l1⟩ := newB HN hw1
  have HW := hide hw1
  have CL := hide (lightP_any (hr.kept l1.out) hb)
  have rk := b1.out.range0
  clear hr hw1
  go_enter Try.func11, Try.ntmps11
  go_upto_region 1 with fail
  change Code.wp _ _ _ _ (w.alloc (.cells (RC r).toArray 27 (0, 0)))
  rw [← HW.out, HN.out]
  go_wp2_with (first
    | (refine wpList_load_mid rfl 27 _ rfl N 0 rfl (RC r) _ rk Try.underlying27 rfl Try.size27 ?_)
    | fail)
  refine CL.out.mono ?_
  rintro e w2 ⟨hp, hb2⟩
  have L2 : Hid (Below w.heap.size w w2) := (show Below _ _ _ from l1.out.trans (hb2.mono l1.out.size))
  have HP := hide hp
  clear hb2 CL rk
  rcases hp with ⟨m, rfl, hm, hl⟩ | ⟨z, rfl, hz⟩
  · have HL := hide hl
    clear hl
    go_wp2_with fail
    go_ret
    exact ⟨true, by simp, fun _ => HL.out, L2.out⟩
  · have q : decide ((0 : Int) ≤ z) = false := by simp; omega
    go_wp2_with fail
    go_ret
    exact ⟨false, by simp, fun h => (by cases h), L2.out⟩
#print axioms mlight_any
end Go.Proofs.Ytmicmbjbclkbjaa
