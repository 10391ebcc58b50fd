/-
  indenturelaw07.ChainCuts: the walk: the call returns true and makes new memory alone.
-/
import Derived.Test.YtcngkeilleeanaaMakesWalk
import Derived.Test.YtcngkeilleeanaaChQ
namespace Go.Proofs.Ytcngkeilleeanaa
open Go.RowKit

set_option maxHeartbeats 2000000 in
set_option maxRecDepth 100000 in
theorem chainCuts_any {w : World} {v : Value} {L : List Ver} (h : RdV w v L) (z m : Int) : Calls Try.prog 7 #[v, .int .i64 z, .int .i64 m] w fun e w' => e = .returned (.bool true) ∧ Below w.heap.size w w' := by
  have HL := hide h
  obtain ⟨a, cp, rfl⟩ := h.slice
  have hn : L.length ≤ 9223372036854775807 := Nat.le_trans h.cap h.max
  clear h
  have hz := Zver
  obtain ⟨n, HN⟩ : ∃ n, Hid (L.length = n) := ⟨_, rfl⟩
  rw [HN.out] at HL hn ⊢
  have L0 : Hid (Below w.heap.size w w) := Below.refl _ _
  by_cases h300 : 300 < n
  · have q1 : (300 : Int) < (n : Int) := by omega
    go_enter Try.func7, Try.ntmps7
    go_wp2_with fail
    refine (lives_any w).mono ?_
    rintro e wz ⟨rfl, hb⟩
    have Lz : Hid (Below w.heap.size w wz) := L0.out.trans (hb.mono L0.out.size)
    have Dwz : Hid (Below w.heap.size w wz) := hb
    clear hb
    go_wp2_with fail
    go_ret
    exact ⟨rfl, Lz.out⟩
  · have q1 : decide ((300 : Int) < (n : Int)) = false := by simp; omega
    have hl : L.length ≤ 300 := by rw [HN.out]; omega
    have HH := hide hl
    clear hl
    go_enter Try.func7, Try.ntmps7
    go_wp2_with fail
    refine (good_any HL.out).mono ?_
    rintro e w0 ⟨rfl, hb⟩
    have L00 : Hid (Below w.heap.size w w0) := L0.out.trans (hb.mono L0.out.size)
    have Dw0 : Hid (Below w.heap.size w w0) := hb
    clear hb
    obtain ⟨q, HQ⟩ : ∃ q, Hid (gd 0 L = q) := ⟨_, rfl⟩
    rw [HQ.out]
    cases q with
    | false =>
      go_wp2_with fail
      refine (lives_any w0).mono ?_
      rintro e wz ⟨rfl, hb⟩
      have Lz : Hid (Below w.heap.size w wz) := L00.out.trans (hb.mono L00.out.size)
      have Dwz : Hid (Below w0.heap.size w0 wz) := hb
      clear hb
      go_wp2_with fail
      go_ret
      exact ⟨rfl, Lz.out⟩
    | true =>
      by_cases hc : z < m
      · have q2 : decide (z < m) = true := by simp [hc]
        go_wp2_with fail
        refine (lives_any w0).mono ?_
        rintro e wz ⟨rfl, hb⟩
        have Lz : Hid (Below w.heap.size w wz) := L00.out.trans (hb.mono L00.out.size)
        have Dwz : Hid (Below w0.heap.size w0 wz) := hb
        clear hb
        go_wp2_with fail
        go_ret
        exact ⟨rfl, Lz.out⟩
      · have q2 : decide (z < m) = false := by simp; omega
        have hm : m ≤ z := by omega
        obtain ⟨T, HT⟩ : ∃ T, Hid (cutP L z = T) := ⟨_, rfl⟩
        have HTl : Hid (T.length ≤ L.length) := (show _ ≤ _ by rw [← HT.out]; exact cutP_le L z)
        have HTg : Hid (gd 0 T = true) := (show _ = _ by rw [← HT.out]; exact cut_good HQ.out z)
        have HTget : Hid (getP T m = getP L m) := (show _ = _ by rw [← HT.out]; exact cut_get HQ.out hm)
        have HTs : Hid (sinceP T z = 0) := (show _ = _ by rw [← HT.out]; exact cut_since HQ.out z)
        have HTn : Hid (T.length + sinceP L z = L.length) := (show _ = _ by rw [← HT.out]; exact cut_len HQ.out z)
        have HTla : Hid (0 < T.length → lst T ≤ z) := (show _ from fun hp => by rw [← HT.out] at hp ⊢; exact cut_last HQ.out hp)
        clear hm hc
        go_wp2_with fail
        refine (cut_any (HL.out.kept L00.out) (by have := HH.out; omega) z).mono ?_
        rintro e w1 ⟨tv, rfl, ho, hb⟩
        have L1 : Hid (Below w.heap.size w w1) := L00.out.trans (hb.mono L00.out.size)
        have Dw1 : Hid (Below w0.heap.size w0 w1) := hb
        rw [HT.out] at ho
        have RT1 := hide ho.rd
        clear ho
        clear hb
        obtain ⟨ta, tc, htv⟩ := RT1.out.slice
        subst htv
        obtain ⟨tl, HTL⟩ : ∃ l, Hid (T.length = l) := ⟨_, rfl⟩
        rw [HTL.out] at RT1 ⊢
        have hlen : tl ≤ n := by have h1 := HTl.out; rw [HTL.out, HN.out] at h1; exact h1
        obtain ⟨X, HX⟩ : ∃ X, Hid ((getP L m).1 = X) := ⟨_, rfl⟩
        obtain ⟨Y, HY⟩ : ∃ Y, Hid ((getP L m).2 = Y) := ⟨_, rfl⟩
        have G2 := hide (get_any (HL.out.kept L1.out) (by have := HH.out; omega) m)
        rw [HX.out, HY.out] at G2
        go_wp2_with fail
        refine (G2.out).mono ?_
        rintro e w2a ⟨rfl, hb⟩
        have Lw2a : Hid (Below w.heap.size w w2a) := L1.out.trans (hb.mono L1.out.size)
        have Dw2a : Hid (Below w1.heap.size w1 w2a) := hb
        clear hb
        go_upto_region 5 with (first
          | (refine wpList_store_new rfl 28 _ _ rfl w2a _ (VC X).toArray _ rfl rfl rfl Try.size28 rfl (all_one (VC_one X)) ?_)
          | fail)
        obtain ⟨E2, HE2⟩ : ∃ E, Hid (w2a.heap.size = E) := ⟨_, rfl⟩
        rw [HE2.out]
        obtain ⟨w2, hw⟩ : ∃ y, y = w2a.alloc (.cells (VC X).toArray 28 (0, 0)) := ⟨_, rfl⟩
        rw [← hw]
        have Dw2b : Hid (Below w2a.heap.size w2a w2) := (show Below _ _ _ by rw [hw]; exact (Below.refl _ _).alloc (Nat.le_refl _) _)
        have L2 : Hid (Below w.heap.size w w2) := Lw2a.out.trans (Dw2b.out.mono Lw2a.out.size)
        have Dw2 : Hid (Below w1.heap.size w1 w2) := Dw2a.out.trans (Dw2b.out.mono Dw2a.out.size)
        have BE2 : Hid (Blk w2 E2 28 (VC X)) := (show Blk _ _ _ _ by rw [hw, ← HE2.out]; exact Blk.new w2a 28 (VC X))
        clear hw Dw2a Dw2b Lw2a
        have G3 := hide (get_any (RT1.out.kept Dw2.out) (by have := HH.out; have := HTl.out; omega) m)
        rw [HTget.out, HX.out, HY.out] at G3
        go_wp2_with fail
        refine (G3.out).mono ?_
        rintro e w3a ⟨rfl, hb⟩
        have Lw3a : Hid (Below w.heap.size w w3a) := L2.out.trans (hb.mono L2.out.size)
        have Dw3a : Hid (Below w2.heap.size w2 w3a) := hb
        clear hb
        go_upto_region 6 with (first
          | (refine wpList_store_new rfl 28 _ _ rfl w3a _ (VC X).toArray _ rfl rfl rfl Try.size28 rfl (all_one (VC_one X)) ?_)
          | fail)
        obtain ⟨E3, HE3⟩ : ∃ E, Hid (w3a.heap.size = E) := ⟨_, rfl⟩
        rw [HE3.out]
        obtain ⟨w3, hw⟩ : ∃ y, y = w3a.alloc (.cells (VC X).toArray 28 (0, 0)) := ⟨_, rfl⟩
        rw [← hw]
        have Dw3b : Hid (Below w3a.heap.size w3a w3) := (show Below _ _ _ by rw [hw]; exact (Below.refl _ _).alloc (Nat.le_refl _) _)
        have L3 : Hid (Below w.heap.size w w3) := Lw3a.out.trans (Dw3b.out.mono Lw3a.out.size)
        have Dw3 : Hid (Below w2.heap.size w2 w3) := Dw3a.out.trans (Dw3b.out.mono Dw3a.out.size)
        have BE3 : Hid (Blk w3 E3 28 (VC X)) := (show Blk _ _ _ _ by rw [hw, ← HE3.out]; exact Blk.new w3a 28 (VC X))
        clear hw Dw3a Dw3b Lw3a
        have RT3 := hide ((RT1.out.kept Dw2.out).kept Dw3.out)
        have BF2 := hide (BE2.out.kept Dw3.out)
        have r2 := BF2.out.range0
        have r3 := BE3.out.range0
        have heq : ∀ W, (binOp .eql 28 (.agg (VC X).toArray) (.agg (VC X).toArray)).run Try.prog W = .ok (.bool true) W := fun W => by rw [eq_ver]; simp
        clear G2 G3
        by_cases h0 : tl = 0
        · subst h0
          have D3 : Hid (Below w3.heap.size w3 w3) := Below.refl _ _
          go_wp2_with (first
            | (refine wpList_load_mid rfl 28 _ rfl E2 0 rfl (VC X) _ r2 Try.underlying28 rfl Try.size28 ?_)
            | (refine wpList_load_mid rfl 28 _ rfl E3 0 rfl (VC X) _ r3 Try.underlying28 rfl Try.size28 ?_)
            | fail)
          refine (since_any ((RT3.out.kept D3.out)) (by have := HH.out; have := HTl.out; omega) z).mono ?_
          rintro e w5 ⟨rfl, hb⟩
          have L5 : Hid (Below w.heap.size w w5) := L3.out.trans (hb.mono L3.out.size)
          have Dw5 : Hid (Below w3.heap.size w3 w5) := hb
          clear hb
          rw [HTs.out]
          go_wp2_with fail
          refine (good_any ((RT3.out.kept D3.out).kept Dw5.out)).mono ?_
          rintro e w6 ⟨rfl, hb⟩
          have L6 : Hid (Below w.heap.size w w6) := L5.out.trans (hb.mono L5.out.size)
          have Dw6 : Hid (Below w5.heap.size w5 w6) := hb
          clear hb
          rw [HTg.out]
          go_wp2_with fail
          refine (since_any (HL.out.kept L6.out) (by have := HH.out; omega) z).mono ?_
          rintro e w7 ⟨rfl, hb⟩
          have L7 : Hid (Below w.heap.size w w7) := L6.out.trans (hb.mono L6.out.size)
          have Dw7 : Hid (Below w6.heap.size w6 w7) := hb
          clear hb
          obtain ⟨si, HSI⟩ : ∃ s, Hid (sinceP L z = s) := ⟨_, rfl⟩
          rw [HSI.out]
          have hsum : 0 + si = n := by have := HTn.out; rw [HTL.out, HSI.out, HN.out] at this; exact this
          have hsum' : ((((0 : Nat) : Int) + (si : Int)) == (n : Int)) = true := by simp; omega
          have hti : ((0 : Nat) : Int) + (si : Int) = (n : Int) := by omega
          clear hsum
          go_wp2_with fail
          refine (lives_any w7).mono ?_
          rintro e wz ⟨rfl, hb⟩
          have Lz : Hid (Below w.heap.size w wz) := L7.out.trans (hb.mono L7.out.size)
          have Dwz : Hid (Below w7.heap.size w7 wz) := hb
          clear hb
          go_wp2_with fail
          go_ret
          exact ⟨rfl, Lz.out⟩
        · have h0' : ((tl : Int) == 0) = false := by simp; omega
          go_wp2_with (first
            | (refine wpList_load_mid rfl 28 _ rfl E2 0 rfl (VC X) _ r2 Try.underlying28 rfl Try.size28 ?_)
            | (refine wpList_load_mid rfl 28 _ rfl E3 0 rfl (VC X) _ r3 Try.underlying28 rfl Try.size28 ?_)
            | fail)
          refine (last_any RT3.out).mono ?_
          rintro e w4 ⟨rfl, hb⟩
          have L4 : Hid (Below w.heap.size w w4) := L3.out.trans (hb.mono L3.out.size)
          have Dw4 : Hid (Below w3.heap.size w3 w4) := hb
          clear hb
          have hla := HTla.out (by rw [HTL.out]; omega)
          generalize lst T = la at hla
          have D3 := Dw4
          go_wp2_with fail
          refine (since_any ((RT3.out.kept D3.out)) (by have := HH.out; have := HTl.out; omega) z).mono ?_
          rintro e w5 ⟨rfl, hb⟩
          have L5 : Hid (Below w.heap.size w w5) := L4.out.trans (hb.mono L4.out.size)
          have Dw5 : Hid (Below w4.heap.size w4 w5) := hb
          clear hb
          rw [HTs.out]
          go_wp2_with fail
          refine (good_any ((RT3.out.kept D3.out).kept Dw5.out)).mono ?_
          rintro e w6 ⟨rfl, hb⟩
          have L6 : Hid (Below w.heap.size w w6) := L5.out.trans (hb.mono L5.out.size)
          have Dw6 : Hid (Below w5.heap.size w5 w6) := hb
          clear hb
          rw [HTg.out]
          go_wp2_with fail
          refine (since_any (HL.out.kept L6.out) (by have := HH.out; omega) z).mono ?_
          rintro e w7 ⟨rfl, hb⟩
          have L7 : Hid (Below w.heap.size w w7) := L6.out.trans (hb.mono L6.out.size)
          have Dw7 : Hid (Below w6.heap.size w6 w7) := hb
          clear hb
          obtain ⟨si, HSI⟩ : ∃ s, Hid (sinceP L z = s) := ⟨_, rfl⟩
          rw [HSI.out]
          have hsum : tl + si = n := by have := HTn.out; rw [HTL.out, HSI.out, HN.out] at this; exact this
          have hsum' : (((tl : Int) + (si : Int)) == (n : Int)) = true := by simp; omega
          have hti : (tl : Int) + (si : Int) = (n : Int) := by omega
          clear hsum
          go_wp2_with fail
          refine (lives_any w7).mono ?_
          rintro e wz ⟨rfl, hb⟩
          have Lz : Hid (Below w.heap.size w wz) := L7.out.trans (hb.mono L7.out.size)
          have Dwz : Hid (Below w7.heap.size w7 wz) := hb
          clear hb
          go_wp2_with fail
          go_ret
          exact ⟨rfl, Lz.out⟩
#print axioms chainCuts_any
end Go.Proofs.Ytcngkeilleeanaa
