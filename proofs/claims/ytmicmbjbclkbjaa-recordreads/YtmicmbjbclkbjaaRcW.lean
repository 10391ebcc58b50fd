/-
  The document's Good and Bytes of records: what the calls do.
-/
import Derived.Test.YtmicmbjbclkbjaaGVq
import Derived.Test.YtmicmbjbclkbjaaRcR
import Derived.Test.YtmicmbjbclkbjaaRcL
namespace Go.Proofs.Ytmicmbjbclkbjaa
open Go.RowKit
set_option maxRecDepth 100000 in
theorem kgood_any {w : World} {r : Rc} (hr : ROk w r) : Calls Try.prog 22 #[.agg (RC r).toArray] w fun e w' => e = .returned (.bool (goodR r)) ∧ Below w.heap.size w w' := by
  obtain ⟨N, HN⟩ : ∃ N, Hid (w.heap.size = N) := ⟨_, rfl⟩
  obtain ⟨w1, hw1⟩ : ∃ y, y = w.alloc (.cells (RC r).toArray 27 (0, 0)) := ⟨_, rfl⟩
  obtain ⟨b1, l1⟩ := newB HN hw1
  have HW := hide hw1
  have RO := hide (hr.kept l1.out)
  have CR := hide (kright_any RO.out)
  obtain ⟨s, Hs⟩ : ∃ z, Hid (soundP r = z) := ⟨_, rfl⟩
  obtain ⟨g, Hg⟩ : ∃ z, Hid (goodR r = z) := ⟨_, rfl⟩
  have HQ : Hid ((s && decide ((eD (pdR r)).length ≤ 8192)) = g) := (show _ = _ by rw [← Hg.out, ← Hs.out]; rfl)
  rw [Hs.out] at CR
  rw [Hg.out]
  have rk := b1.out.range0
  clear hr hw1
  go_enter Try.func22, Try.ntmps22
  go_upto_region 1 with fail
  change Code.wp _ _ _ _ (w.alloc (.cells (RC r).toArray 27 (0, 0)))
  rw [← HW.out, HN.out]
  go_wp2_with (first
    | (refine wpList_load_mid rfl 27 _ rfl N 0 rfl (RC r) _ rk Try.underlying27 rfl Try.size27 ?_)
    | (refine wpList_load_w9 rfl 27 _ rfl N 0 rfl (RC r) _ rk Try.underlying27 rfl Try.size27 ?_)
    | fail)
  refine CR.out.mono ?_
  rintro e w2 ⟨rfl, hb2⟩
  have L2 : Hid (Below w.heap.size w w2) := (show Below _ _ _ from l1.out.trans (hb2.mono l1.out.size))
  cases s with
  | false =>
    have he : g = false := by rw [← HQ.out]; rfl
    subst he
    clear hb2 CR rk
    go_wp2_with fail
    go_ret
    exact ⟨rfl, L2.out⟩
  | true =>
    obtain ⟨k1, k2, k3⟩ := sound_ok Hs.out
    have CB := hide (kbytes_any (RO.out.kept hb2) k1 k2 k3)
    obtain ⟨l, Hl⟩ : ∃ z, Hid (eD (pdR r) = z) := ⟨_, rfl⟩
    rw [Hl.out] at CB HQ
    have rk := (b1.out.kept hb2).range0
    clear hb2 CR k1 k2 k3
    go_wp2_with (first
      | (refine wpList_load_mid rfl 27 _ rfl N 0 rfl (RC r) _ rk Try.underlying27 rfl Try.size27 ?_)
      | (refine wpList_load_w9 rfl 27 _ rfl N 0 rfl (RC r) _ rk Try.underlying27 rfl Try.size27 ?_)
      | fail)
    refine CB.out.mono ?_
    rintro e w3 ⟨v, rfl, hv, hb3⟩
    have L3 : Hid (Below w.heap.size w w3) := (show Below _ _ _ from L2.out.trans (hb3.mono L2.out.size))
    obtain ⟨a, c, rfl⟩ := hv.slice
    have hq : decide ((l.length : Int) ≤ 8192) = g := by
      rw [← HQ.out, Bool.true_and]
      exact decide_eq_decide.2 (by omega)
    clear hb3 CB rk hv
    go_wp2_with fail
    go_ret
    exact ⟨rfl, L3.out⟩
#print axioms kgood_any
end Go.Proofs.Ytmicmbjbclkbjaa
