/-
  touchedBy with its closure, IndexFunc and ContainsFunc over pairs, IndexFunc over records: what the calls do.
-/
import Derived.Test.YthniaoacanabdaaCtH
namespace Go.Proofs.Ythniaoacanabdaa
open Go.RowKit
/-- A row of spans in order: it tells of every key whether it is in a span. -/
structure Tel (w : World) (v : Value) (l : List Sp) : Prop where
  ex : ∃ M, RdG SE w v M ∧ Ord l M
  len : l.length ≤ 1000000
theorem Tel.kept {w w' : World} {v : Value} {l : List Sp} (h : Tel w v l) (hb : Below w.heap.size w w') : Tel w' v l := by
  obtain ⟨⟨M, h1, h2⟩, h3⟩ := h
  exact ⟨⟨M, h1.kept hb, h2⟩, h3⟩
theorem Tel.form {w : World} {v : Value} {l : List Sp} (h : Tel w v l) : ∃ a n c, v = .slice a n c := by
  obtain ⟨⟨M, h1, h2⟩, h3⟩ := h
  obtain ⟨a, c, e⟩ := h1.slice
  exact ⟨a, _, c, e⟩
theorem Tel.have {w : World} {v : Value} {l : List Sp} (h : Tel w v l) (k : ByteArray) : Calls Try.prog 38 #[v, .string k] w fun e w' => e = .returned (.bool (l.any fun s => inS s k)) ∧ Below w.heap.size w w' := by
  obtain ⟨⟨M, h1, h2⟩, h3⟩ := h
  exact have_any h1 h2 h3 k
set_option maxRecDepth 100000 in
theorem touched1_any {w : World} {B1 : Nat} {v : Value} {l : List Sp} (h : Tel w v l) (hB : Blk w B1 48 [v]) (p : Pr) :
    Calls Try.prog 37 #[.agg (PC p).toArray, PT B1] w fun e w' => e = .returned (.bool (l.any fun s => inS s p.1)) ∧ Below w.heap.size w w' := by
  obtain ⟨a, n, c, rfl⟩ := h.form
  obtain ⟨N, HN⟩ : ∃ N, Hid (w.heap.size = N) := ⟨_, rfl⟩
  obtain ⟨w1, hw1⟩ : ∃ y, y = w.alloc (.cells (PC p).toArray 43 (0, 0)) := ⟨_, rfl⟩
  obtain ⟨b1, l1⟩ := newB HN hw1
  have HC := hide ((h.kept l1.out).have p.1)
  have d0 := b1.out.key
  have d1 := (hB.kept l1.out).cell (j := 0) (v := .slice a n c) rfl
  obtain ⟨q, HQ⟩ : ∃ q, Hid ((l.any fun s => inS s p.1) = q) := ⟨_, rfl⟩
  rw [HQ.out] at HC ⊢
  obtain ⟨k, HK⟩ : ∃ q, Hid (p.1 = q) := ⟨_, rfl⟩
  rw [HK.out] at HC d0
  have HW := hide hw1
  clear h hB hw1
  go_enter Try.func37, Try.ntmps37
  go_upto_region 1 with fail
  change Code.wp _ _ _ _ (w.alloc (.cells (PC p).toArray 43 (0, 0)))
  rw [← HW.out, HN.out]
  go_wp2_with fail
  refine HC.out.mono ?_
  rintro e w5 ⟨rfl, hb5⟩
  have L5 : Hid (Below w.heap.size w w5) := (show _ from l1.out.trans (hb5.mono l1.out.size))
  clear hb5 HC
  go_wp2_with fail
  go_ret
  exact ⟨rfl, L5.out⟩
set_option maxHeartbeats 1000000 in
set_option maxRecDepth 100000 in
theorem indexP_any {w : World} {B1 : Nat} {v vp : Value} {l : List Sp} {L : List Pr} (h : Tel w v l) (hB : Blk w B1 48 [v]) (hr : RdG PE w vp L) :
    Calls Try.prog 42 #[vp, .func (.func 37) #[] #[PT B1]] w fun e w' => e = .returned (.int .i64 (fstI (fun p : Pr => l.any fun s => inS s p.1) L 0)) ∧ Below w.heap.size w w' := by
  have H1 := hide h
  have H2 := hide hB
  have HR := hide hr
  obtain ⟨x, c, rfl⟩ := hr.slice
  obtain ⟨n, HN⟩ : ∃ n, Hid (L.length = n) := ⟨_, rfl⟩
  rw [HN.out] at HR ⊢
  have hm := Nat.le_trans HR.out.cap HR.out.max
  obtain ⟨f, HF⟩ : ∃ f : Pr → Bool, Hid ((fun p : Pr => l.any fun s => inS s p.1) = f) := ⟨_, rfl⟩
  have HF' : Hid (∀ p : Pr, (l.any fun s => inS s p.1) = f p) := (show _ from fun p => by rw [← HF.out])
  rw [HF.out]
  obtain ⟨u, HU⟩ : ∃ u, Hid (fstI f L 0 = u) := ⟨_, rfl⟩
  rw [HU.out]
  clear h hB hr
  go_enter Try.func42, Try.ntmps42
  go_wp2_with fail
  go_loopg [8] (n + 1) (fun g z wr => ∃ i : Nat, i ≤ n ∧ g + i = n + 1 ∧ z = .int .i64 (i : Int) ∧ Hid (∀ j (hj : j < L.length), j < i → f L[j] = false) ∧ Hid (Below w.heap.size w wr))
  case atStart => exact ⟨0, Nat.zero_le _, by omega, rfl, (show ∀ j (hj : j < L.length), _ from fun j hj h => by omega), Below.refl _ _⟩
  case round =>
    obtain ⟨i, hi, hg, rfl, HT, BL⟩ := hrel
    by_cases hlt : i < n
    · have hlt2 : i < L.length := by rw [HN.out]; exact hlt
      obtain ⟨bb, off, rfl, hb1, hx⟩ := (HR.out.kept BL.out).nth (by omega)
      have hrow : wr.rangeAt bb (off + i * 3) (PC L[i]) := hx i hlt2
      have CO := hide (touched1_any (H1.out.kept BL.out) (H2.out.kept BL.out) L[i])
      rw [HF'.out] at CO
      obtain ⟨p, HP⟩ : ∃ p, Hid (L[i] = p) := ⟨L[i], (show L[i] = L[i] from rfl)⟩
      rw [HP.out] at hrow CO
      obtain ⟨o, HO⟩ : ∃ o, Hid (f p = o) := ⟨_, rfl⟩
      rw [HO.out] at CO
      have hlt' : (i : Int) < (n : Int) := by omega
      clear hx
      go_wp2_with (first
        | (refine wpList_load_mid rfl 43 _ rfl bb (off + i * 3) rfl (PC p) _ hrow Try.underlying43 rfl Try.size43 ?_)
        | fail)
      refine CO.out.mono ?_
      rintro e w2 ⟨rfl, hb2⟩
      have L2 : Hid (Below w.heap.size w w2) := (show _ from BL.out.trans (hb2.mono BL.out.size))
      clear hb2 CO hrow
      cases o with
      | false =>
        go_wp2_with fail
        go_roundg (n - i)
        case measure => omega
        case rel => exact ⟨i + 1, by omega, by omega, by go_num, (show ∀ j (hj : j < L.length), _ from fun j hj hji => by
          by_cases e : j = i
          · subst e
            rw [HP.out]
            exact HO.out
          · exact HT.out j hj (by omega)), L2⟩
      | true =>
        have hu : u = (i : Int) := by
          rw [← HU.out, fst_hit (f := f) (k := i) hlt2 (by rw [HP.out]; exact HO.out) HT.out]
          simp
        subst hu
        go_wp2_with fail
        go_ret
        exact ⟨rfl, L2.out⟩
    · obtain rfl : i = n := by omega
      have hlt' : ¬ (i : Int) < i := by omega
      have hu : u = -1 := by
        rw [← HU.out]
        refine fst_none fun p hp => ?_
        obtain ⟨j, hj, e⟩ := List.getElem_of_mem hp
        rw [← e]
        exact HT.out j hj (by rw [← HN.out]; exact hj)
      subst hu
      go_wp2_with fail
      go_ret
      exact ⟨rfl, BL.out⟩
set_option maxRecDepth 100000 in
theorem containsP_any {w : World} {B1 : Nat} {v vp : Value} {l : List Sp} {L : List Pr} (h : Tel w v l) (hB : Blk w B1 48 [v]) (hr : RdG PE w vp L) :
    Calls Try.prog 36 #[vp, .func (.func 37) #[] #[PT B1]] w fun e w' => e = .returned (.bool (L.any fun p : Pr => l.any fun s => inS s p.1)) ∧ Below w.heap.size w w' := by
  have CI := hide (indexP_any h hB hr)
  obtain ⟨x, c, rfl⟩ := hr.slice
  have HA : Hid (decide (0 ≤ fstI (fun p : Pr => l.any fun s => inS s p.1) L 0) = (L.any fun p : Pr => l.any fun s => inS s p.1)) := (show _ = _ from fst_any)
  obtain ⟨u, HU⟩ : ∃ u, Hid (fstI (fun p : Pr => l.any fun s => inS s p.1) L 0 = u) := ⟨_, rfl⟩
  rw [HU.out] at CI HA
  obtain ⟨q, HQ⟩ : ∃ q, Hid ((L.any fun p : Pr => l.any fun s => inS s p.1) = q) := ⟨_, rfl⟩
  rw [HQ.out] at HA ⊢
  obtain ⟨n, HN⟩ : ∃ n, Hid (L.length = n) := ⟨_, rfl⟩
  rw [HN.out] at CI ⊢
  have hq := HA.out
  clear h hB hr
  go_enter Try.func36, Try.ntmps36
  go_wp2_with fail
  refine CI.out.mono ?_
  rintro e w5 ⟨rfl, hb5⟩
  have L5 := hide hb5
  clear hb5 CI
  subst hq
  go_wp2_with fail
  go_ret
  exact ⟨by simp, L5.out⟩
set_option maxRecDepth 100000 in
theorem touchedBy_any {w : World} {v : Value} {l : List Sp} (h : Tel w v l) (r : Rc) (hr : RdG PE w (wv r) r.ws) :
    Calls Try.prog 28 #[v, .agg (RC r).toArray] w fun e w' => e = .returned (.bool (hitP l r)) ∧ Below w.heap.size w w' := by
  obtain ⟨a, n, c, rfl⟩ := h.form
  obtain ⟨N, HN⟩ : ∃ N, Hid (w.heap.size = N) := ⟨_, rfl⟩
  obtain ⟨w1, hw1⟩ : ∃ y, y = (w.alloc (.cells ([.slice a n c] : List Value).toArray 48 (0, 0))).alloc (.cells (RC r).toArray 25 (0, 0)) := ⟨_, rfl⟩
  obtain ⟨b1, b2, l1⟩ := newB2 HN hw1
  have HC := hide (containsP_any (h.kept l1.out) b1.out (hr.kept l1.out))
  have d0 := b2.out.rws
  have hmf := mk_fn
  obtain ⟨q, HQ⟩ : ∃ q, Hid (hitP l r = q) := ⟨_, rfl⟩
  rw [show (r.ws.any fun p : Pr => l.any fun s => inS s p.1) = hitP l r from rfl, HQ.out] at HC
  rw [HQ.out]
  obtain ⟨m, HM⟩ : ∃ q, Hid (r.ws.length = q) := ⟨_, rfl⟩
  unfold wv at HC d0
  rw [HM.out] at HC d0
  have HW := hide hw1
  clear h hr hw1
  go_enter Try.func28, Try.ntmps28
  go_upto_region 1 with fail
  change Code.wp _ _ _ _ ((w.alloc (.cells ([.slice a n c] : List Value).toArray 48 (0, 0))).alloc (.cells (RC r).toArray 25 (0, 0)))
  rw [← HW.out, HN.out]
  go_wp2_with fail
  refine HC.out.mono ?_
  rintro e w5 ⟨rfl, hb5⟩
  have L5 : Hid (Below w.heap.size w w5) := (show _ from l1.out.trans (hb5.mono l1.out.size))
  clear hb5 HC
  go_wp2_with fail
  go_ret
  exact ⟨rfl, L5.out⟩
#print axioms touchedBy_any
end Go.Proofs.Ythniaoacanabdaa
