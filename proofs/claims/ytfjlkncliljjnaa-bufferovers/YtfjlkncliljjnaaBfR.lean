/-
  slices.Collect, SortedFunc over the values of a map of pairs; Writes: what the calls do.
-/
import Derived.Test.YtfjlkncliljjnaaBfQ
namespace Go.Proofs.Ytfjlkncliljjnaa
open Go.RowKit
set_option maxRecDepth 100000 in
theorem values_any (M : Nat) (w : World) : Calls Try.prog 30 #[.map (some M)] w fun e w' => e = .returned (.func (.func 40) #[] #[PT w.heap.size]) ∧ w' = w.alloc (.cells #[.map (some M)] 53 (0, 0)) := by
  go_enter Try.func30, Try.ntmps30
  go_wp2
  go_ret
  exact ⟨rfl, rfl⟩
set_option maxRecDepth 100000 in
theorem collect_any {w : World} {E1 M : Nat} {L : List Pr} (hbox : Blk w E1 53 [.map (some M)]) (hmp : MapP w M L) (hs : Bs L) (hL : L.length ≤ 1000000) : Calls Try.prog 38 #[.func (.func 40) #[] #[PT E1]] w fun e w' => ∃ v' xs, e = .returned v' ∧ xs.Perm L ∧ OwnG PE w' w.heap.size 38 v' xs ∧ Below w.heap.size w w' := by
  have C := hide (appendSeq_any hbox hmp hs hL)
  clear hbox hmp hs hL
  go_enter Try.func38, Try.ntmps38
  go_wp2_with fail
  refine C.out.mono ?_
  rintro e w2 ⟨v, xs, rfl, h1, h2, h3⟩
  obtain ⟨a, c, rfl⟩ := h2.form
  obtain ⟨n, HN⟩ : ∃ n, Hid (xs.length = n) := ⟨_, rfl⟩
  rw [HN.out] at h2 ⊢
  have H1 := hide h1
  have H2 := hide h2
  have H3 := hide h3
  clear h1 h2 h3
  go_wp2_with fail
  go_ret
  exact ⟨_, xs, rfl, H1.out, H2.out, H3.out⟩
theorem sorted_eq {L L' : List Pr} (hs : Bs L) (hp : L'.Perm L) (hq : L'.Pairwise fun a b => lt b.1 a.1 = false) : L' = L := by
  have h1 : L.Pairwise fun a b : Pr => a.1 ≠ b.1 := List.Pairwise.imp (fun h => lt_ne h) hs
  have h2 : L'.Pairwise fun a b : Pr => a.1 ≠ b.1 := (hp.pairwise_iff (fun h => Ne.symm h)).2 h1
  have h3 : Bs L' := (hq.and h2).imp fun {a b} h => by
    cases hl : lt a.1 b.1 with
    | true => rfl
    | false => exact absurd (lt_total hl h.1) h.2
  exact bs_unique h3 hs fun k => hp.mem_iff
set_option maxHeartbeats 1000000 in
set_option maxRecDepth 100000 in
theorem sortedFunc_any {w : World} {E1 M : Nat} {L : List Pr} (hbox : Blk w E1 53 [.map (some M)]) (hmp : MapP w M L) (hs : Bs L) (hL : L.length ≤ 1000000) : Calls Try.prog 29 #[.func (.func 40) #[] #[PT E1], .func (.func 31) #[] #[]] w fun e w' => ∃ v', e = .returned v' ∧ OwnG PE w' w.heap.size 38 v' L ∧ Below w.heap.size w w' := by
  have C := hide (collect_any hbox hmp hs hL)
  have HS := hide hs
  clear hbox hmp hs
  go_enter Try.func29, Try.ntmps29
  go_wp2_with fail
  refine C.out.mono ?_
  rintro e w2 ⟨v, xs, rfl, h1, h2, h3⟩
  have C2 := hide (sorts_any h2 (by rw [h1.length_eq]; exact hL))
  obtain ⟨a, c, rfl⟩ := h2.form
  have HL : Hid (∀ b, (Value.slice a xs.length c).ownBlock = some b → w.heap.size ≤ b) := (show _ from fun b hb => (h2.block hb).1)
  obtain ⟨n, HN⟩ : ∃ n, Hid (xs.length = n) := ⟨_, rfl⟩
  rw [HN.out] at C2 HL ⊢
  have H1 := hide h1
  have H3 := hide h3
  clear h1 h2 h3
  go_wp2_with fail
  refine C2.out.mono ?_
  rintro e w4 ⟨rfl, xs', h4, h5, h6, h7⟩
  have e9 := sorted_eq HS.out (h4.trans H1.out) h5
  subst e9
  have H6 := hide h6
  have H7 : Hid (Below w.heap.size w w4) := (show _ from H3.out.trans (h7.below H3.out.size (fun k hk hb => by have := HL.out k hb; omega)))
  clear h4 h5 h6 h7
  go_wp2_with fail
  go_ret
  exact ⟨_, rfl, H6.out, H7.out⟩
set_option maxHeartbeats 1000000 in
set_option maxRecDepth 100000 in
theorem writes_any {w : World} {D M : Nat} {L : List Pr} (h : BAt w D M L) : Calls Try.prog 19 #[PT D] w fun e w' => ∃ v', e = .returned v' ∧ OwnG PE w' w.heap.size 38 v' L ∧ Below w.heap.size w w' := by
  have H := hide h
  have c0 := h.d.cell (j := 0) rfl
  have CM := hide (bMade_any h.d)
  have CV := hide (values_any M w)
  clear h
  go_enter Try.func19, Try.ntmps19
  go_wp2_with fail
  refine CM.out.mono ?_
  rintro e w_ ⟨rfl, hw⟩
  subst w_
  go_wp2_with fail
  refine CV.out.mono ?_
  rintro e w1 ⟨rfl, hw1⟩
  obtain ⟨E, HE⟩ : ∃ E, Hid (w.heap.size = E) := ⟨_, rfl⟩
  have hb1 : Below w.heap.size w w1 := by rw [hw1]; exact (Below.refl _ _).alloc (Nat.le_refl _) _
  have B1 : Blk w1 E 53 [.map (some M)] := by rw [hw1, ← HE.out]; exact Blk.new w 53 [.map (some M)]
  have H1 := H.out.kept hb1
  have C2 := hide (sortedFunc_any B1 H1.mp H1.srt (by have := H1.len; omega))
  have L1 := hide hb1
  rw [HE.out]
  clear hw1 hb1 B1 H1
  go_wp2_with fail
  refine C2.out.mono ?_
  rintro e w2 ⟨v, rfl, h2, h3⟩
  have O2 := hide (h2.mono L1.out.size)
  rw [HE.out] at O2
  have L2 : Hid (Below w.heap.size w w2) := (show _ from L1.out.trans (h3.mono L1.out.size))
  rw [HE.out] at L2
  obtain ⟨a, c, rfl⟩ := h2.form
  obtain ⟨n, HN⟩ : ∃ n, Hid (L.length = n) := ⟨_, rfl⟩
  rw [HN.out] at O2 ⊢
  clear h2 h3
  go_wp2_with fail
  go_ret
  exact ⟨_, rfl, by rw [HE.out]; exact O2.out, by rw [HE.out]; exact L2.out⟩
#print axioms writes_any
end Go.Proofs.Ytfjlkncliljjnaa
