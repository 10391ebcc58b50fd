/-
  certify's May: what the call does.
-/
import Derived.Test.YthniaoacanabdaaCtC
namespace Go.Proofs.Ythniaoacanabdaa
open Go.RowKit
set_option maxHeartbeats 2000000 in
set_option maxRecDepth 100000 in
theorem mayV_any {w : World} {r : Rc} {vl : Value} {L : List Rc} (hr : ROk w r) (hk : KOk r) (hl : RdR9 w vl L) : Calls Try.prog 22 #[.agg (RC r).toArray, vl] w fun e w' => e = .returned (.int .i64 (if mayP r L = true then 10 else 0)) ∧ Below w.heap.size w w' := by
  obtain ⟨la, lc, rfl⟩ := hl.rd.slice
  obtain ⟨ln, HLN⟩ : ∃ n, Hid (L.length = n) := ⟨_, rfl⟩
  rw [HLN.out] at hl ⊢
  obtain ⟨N, HN⟩ : ∃ N, Hid (w.heap.size = N) := ⟨_, rfl⟩
  obtain ⟨w1, hw1⟩ : ∃ y, y = w.alloc (.cells (RC r).toArray 25 (0, 0)) := ⟨_, rfl⟩
  obtain ⟨b1, l1⟩ := newB HN hw1
  have C1 := hide (clashV_any (hr.kept l1.out) hk (hl.kept l1.out))
  have C2 := hide (fun W (hW : Below w1.heap.size w1 W) => staleV_any ((hr.kept l1.out).kept hW) hk ((hl.kept l1.out).kept hW))
  have HW := hide hw1
  have HM : Hid (mayP r L = (decide (0 ≤ clashP r L) || (r.st && decide (0 ≤ staleP r L)))) := (show _ = _ from rfl)
  obtain ⟨m, HMm⟩ : ∃ m, Hid (mayP r L = m) := ⟨_, rfl⟩
  rw [HMm.out] at HM ⊢
  obtain ⟨u, HU⟩ : ∃ u, Hid (clashP r L = u) := ⟨_, rfl⟩
  obtain ⟨x, HX⟩ : ∃ u, Hid (staleP r L = u) := ⟨_, rfl⟩
  rw [HU.out] at C1 HM
  rw [HX.out] at C2 HM
  obtain ⟨t, HT⟩ : ∃ t, Hid (r.st = t) := ⟨_, rfl⟩
  rw [HT.out] at HM
  clear hr hk hl hw1
  go_enter Try.func22, Try.ntmps22
  go_upto_region 1 with fail
  change Code.wp _ _ _ _ (w.alloc (.cells (RC r).toArray 25 (0, 0)))
  rw [← HW.out, HN.out]
  by_cases h1 : 0 ≤ u
  · have q1 : decide (0 ≤ u) = true := decide_eq_true h1
    have hm : m = true := by rw [HM.out, q1]; rfl
    subst hm
    go_wp2_with (first
      | (refine wpList_load_mid rfl 25 _ rfl N 0 rfl (RC r) _ b1.out.range0 Try.underlying25 rfl Try.size25 ?_)
      | (go_at_call 18; refine C1.out.mono ?_; rintro e w2 ⟨rfl, hb2⟩; have L2 := hide hb2; have B2 := hide (b1.out.kept hb2); have d2 := B2.out.rst; rw [HT.out] at d2; clear hb2)
      | fail)
    go_ret
    exact ⟨rfl, l1.out.trans (L2.out.mono l1.out.size)⟩
  · have q1 : decide (0 ≤ u) = false := decide_eq_false h1
    cases t with
    | false =>
      have hm : m = false := by rw [HM.out, q1]; rfl
      subst hm
      go_wp2_with (first
        | (refine wpList_load_mid rfl 25 _ rfl N 0 rfl (RC r) _ b1.out.range0 Try.underlying25 rfl Try.size25 ?_)
        | (go_at_call 18; refine C1.out.mono ?_; rintro e w2 ⟨rfl, hb2⟩; have L2 := hide hb2; have B2 := hide (b1.out.kept hb2); have d2 := B2.out.rst; rw [HT.out] at d2; clear hb2)
        | fail)
      go_ret
      exact ⟨rfl, l1.out.trans (L2.out.mono l1.out.size)⟩
    | true =>
      by_cases h2 : 0 ≤ x
      · have q2 : decide (0 ≤ x) = true := decide_eq_true h2
        have hm : m = true := by rw [HM.out, q1, q2]; rfl
        subst hm
        go_wp2_with (first
          | (refine wpList_load_mid rfl 25 _ rfl N 0 rfl (RC r) _ b1.out.range0 Try.underlying25 rfl Try.size25 ?_)
          | (refine wpList_load_w9 rfl 25 _ rfl N 0 rfl (RC r) _ B2.out.range0 Try.underlying25 rfl Try.size25 ?_)
          | (go_at_call 18; refine C1.out.mono ?_; rintro e w2 ⟨rfl, hb2⟩; have L2 := hide hb2; have B2 := hide (b1.out.kept hb2); have d2 := B2.out.rst; rw [HT.out] at d2; clear hb2)
          | (go_at_call 20; refine (C2.out _ L2.out).mono ?_; rintro e w3 ⟨rfl, hb3⟩; have L3 : Hid (Below w1.heap.size w1 w3) := (show Below _ _ _ from L2.out.trans (hb3.mono L2.out.size)); clear hb3)
          | fail)
        go_ret
        exact ⟨rfl, l1.out.trans (L3.out.mono l1.out.size)⟩
      · have q2 : decide (0 ≤ x) = false := decide_eq_false h2
        have hm : m = false := by rw [HM.out, q1, q2]; rfl
        subst hm
        go_wp2_with (first
          | (refine wpList_load_mid rfl 25 _ rfl N 0 rfl (RC r) _ b1.out.range0 Try.underlying25 rfl Try.size25 ?_)
          | (refine wpList_load_w9 rfl 25 _ rfl N 0 rfl (RC r) _ B2.out.range0 Try.underlying25 rfl Try.size25 ?_)
          | (go_at_call 18; refine C1.out.mono ?_; rintro e w2 ⟨rfl, hb2⟩; have L2 := hide hb2; have B2 := hide (b1.out.kept hb2); have d2 := B2.out.rst; rw [HT.out] at d2; clear hb2)
          | (go_at_call 20; refine (C2.out _ L2.out).mono ?_; rintro e w3 ⟨rfl, hb3⟩; have L3 : Hid (Below w1.heap.size w1 w3) := (show Below _ _ _ from L2.out.trans (hb3.mono L2.out.size)); clear hb3)
          | fail)
        go_ret
        exact ⟨rfl, l1.out.trans (L3.out.mono l1.out.size)⟩
#print axioms mayV_any
end Go.Proofs.Ythniaoacanabdaa
