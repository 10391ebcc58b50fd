/-
  indenturelaw10.ProofLengths: the walk.
-/
import Derived.Test.YtfclmjfbcmjfbaaDoorHoldsWalk10
namespace Go.Proofs.YtfclmjfbcmjfbaaDoor
open Go.RowKit
theorem wrap64_nat {k : Nat} (h : k ≤ 1000) : wrap64 (k : Int) = (k : Int) := by
  unfold wrap64
  omega
theorem path_length (L : List Hs) (k : Nat) (hk : k < L.length) : (pathW L (k : Int)).length = (wayP 40 0 L.length k true).1.length := by
  unfold pathW
  rw [if_pos (by omega), Int.toNat_natCast, List.length_map, List.length_reverse]
theorem path_high (L : List Hs) (k j : Nat) (hk : k < L.length) (hj : L.length ≤ 2 ^ j) : (pathW L (k : Int)).length ≤ j := by
  rw [path_length L k hk]
  exact way_len 40 j 0 L.length k true (Nat.zero_le _) hk (by omega)
theorem path_some (L : List Hs) (k : Nat) (hk : k < L.length) (h1 : 1 < L.length) : 0 < (pathW L (k : Int)).length := by
  rw [path_length L k hk]
  have hc : k < L.length - 1 ∨ (true = true ∧ 0 < k) := by simp only [true_and]; omega
  by_cases h2 : k < 0 + spl (L.length - 0)
  · rw [way_left hc h2]; simp
  · rw [way_right hc h2]; simp
theorem climb_len (L M : List Hs) (k : Nat) (hk : k < L.length) (h1 : L.length ≤ 60) (y : Hs) : (climbC (L.length : Int) (k : Int) y M).2 = decide (M.length = (pathW L (k : Int)).length) := by
  rw [path_length L k hk]
  unfold climbC
  rw [if_pos (by omega), Int.toNat_natCast, Int.toNat_natCast]
  by_cases h : M.length = (wayP 40 0 L.length k true).1.length
  · rw [if_pos h, decide_eq_true h]
  · rw [if_neg h, decide_eq_false h]
set_option maxHeartbeats 8000000 in
set_option maxRecDepth 100000 in
theorem proofLengths_any (L : List Hs) (v : Value) (i : Nat) (M : List Hs) (mv : Value) (w : World) (hT : Tabs w) (hL : RdG HE w v L) (hM : RdG HE w mv M) :
    Calls Tryd.prog 8 #[v, .int .u64 (i : Int), mv] w fun e w' => e = .returned (.bool true) ∧ Below w.heap.size w w' := by
  obtain ⟨N, HNw⟩ : ∃ N, Hid (w.heap.size = N) := ⟨_, rfl⟩
  have HNT : Hid (2 ≤ N) := (show 2 ≤ N by rw [← HNw.out]; exact hT.size)
  have HT := hide hT
  have RL := hide hL
  have RM := hide hM
  have CL := light_any v L w hL
  obtain ⟨p, cp, rfl⟩ := hL.slice
  obtain ⟨ma, mc, rfl⟩ := hM.slice
  have hcp := hL.cap
  obtain ⟨n, HN⟩ : ∃ n, Hid (L.length = n) := ⟨_, rfl⟩
  obtain ⟨nm, HNM⟩ : ∃ n, Hid (M.length = n) := ⟨_, rfl⟩
  rw [HN.out] at RL hcp CL ⊢
  rw [HNM.out] at RM ⊢
  clear hT hL hM
  have hlive : ∀ w2, Below w.heap.size w w2 → Calls Tryd.prog 10 #[] w2 fun e w' => e = .returned (.bool true) ∧ Below w.heap.size w w' := fun w2 hb2 =>
    (lives_any w2 (HT.out.kept (hb2.mono HT.out.size))).mono (fun e w' h => ⟨h.1, hb2.trans (h.2.mono hb2.size)⟩)
  have HLV := hide hlive
  clear hlive
  by_cases hn : n ≤ 60
  · rw [decide_eq_true hn] at CL
    have HCL := hide CL
    clear CL
    by_cases h0 : n = 0
    · subst h0
      go_enter Tryd.func8, Tryd.ntmps8
      go_wp2_with fail
      refine HCL.out.mono ?_
      rintro e w1 ⟨rfl, hw1⟩
      subst w1
      go_wp2_with fail
      refine (HLV.out w (Below.refl _ _)).mono ?_
      rintro e w2 ⟨rfl, hb2⟩
      go_wp2_with fail
      go_ret
      exact ⟨rfl, hb2⟩
    have q0 : ((n : Int) == 0) = false := by simp; omega
    by_cases hm60 : 60 < nm
    · have q1 : (60 : Int) < (nm : Int) := by omega
      go_enter Tryd.func8, Tryd.ntmps8
      go_wp2_with fail
      refine HCL.out.mono ?_
      rintro e w1 ⟨rfl, hw1⟩
      subst w1
      go_wp2_with fail
      refine (HLV.out w (Below.refl _ _)).mono ?_
      rintro e w2 ⟨rfl, hb2⟩
      go_wp2_with fail
      go_ret
      exact ⟨rfl, hb2⟩
    have q1 : ¬ (60 : Int) < (nm : Int) := by omega
    have q1b : decide ((60 : Int) < (nm : Int)) = false := decide_eq_false q1
    obtain ⟨k, HK⟩ : ∃ k, Hid (i % n = k) := ⟨_, rfl⟩
    have hkn : k < n := by rw [← HK.out]; exact Nat.mod_lt _ (by omega)
    have hik : (i : Int) % (n : Int) = (k : Int) := by rw [← HK.out]; simp
    have hwk : wrap64 (k : Int) = (k : Int) := wrap64_nat (by omega)
    have hqk : (k : Int) < (n : Int) := by omega
    obtain ⟨b, off, rfl, hlb, hx9⟩ := RL.out.nth (by omega)
    have hkL : k < L.length := by rw [HN.out]; exact hkn
    have hry : w.rangeAt b (off + k * 32) (By L[k].1) := hx9 k hkL
    have hbN : b < N := by rw [← HNw.out]; exact hlb
    obtain ⟨Pp, HPp⟩ : ∃ P, Hid (pathW L (k : Int) = P) := ⟨_, rfl⟩
    obtain ⟨np, HNp⟩ : ∃ np, Hid (Pp.length = np) := ⟨_, rfl⟩
    have HCC : Hid ((climbC (n : Int) (k : Int) L[k] M).2 = decide (nm = np)) := (show _ = _ by
      have := climb_len L M k hkL (by rw [HN.out]; exact hn) L[k]
      rw [HN.out, HNM.out, HPp.out, HNp.out] at this
      exact this)
    have HHI : Hid (∀ j, n ≤ 2 ^ j → np ≤ j) := (show ∀ j, n ≤ 2 ^ j → np ≤ j from fun j hj => by
      have := path_high L k j hkL (by rw [HN.out]; exact hj)
      rw [HPp.out, HNp.out] at this
      exact this)
    have HSO : Hid (1 < n → 0 < np) := (show 1 < n → 0 < np from fun h => by
      have := path_some L k hkL (by rw [HN.out]; exact h)
      rw [HPp.out, HNp.out] at this
      exact this)
    generalize L[k] = y at hry HCC
    have HRY := hide hry
    have HLB := hide hlb
    clear hx9 hry hlb
    go_enter Tryd.func8, Tryd.ntmps8
    go_wp2_with fail
    refine HCL.out.mono ?_
    rintro e w1 ⟨rfl, hw1⟩
    subst w1
    have CP := path_any _ L (k : Int) (by rw [HN.out]; omega) w HT.out RL.out
    rw [HN.out, HPp.out, decide_eq_true (by omega : (0 : Int) ≤ (k : Int) ∧ (k : Int) < (n : Int))] at CP
    have HCP := hide CP
    clear CP
    go_wp2_with fail
    refine HCP.out.mono ?_
    rintro e w5 ⟨⟨pv, rfl, ho5⟩, hb5⟩
    obtain ⟨pa, pc, hpv⟩ := ho5.rd.slice
    rw [HNp.out] at hpv
    subst hpv
    have L5 : Hid (Below w.heap.size w w5) := hb5
    clear hb5 ho5 hik hwk
    go_upto_region 6 with fail
    go_loopg [10] 7 (fun g z wr => ∃ j : Nat, wr = w5 ∧ g + j = 7 ∧ z = .int .i64 (j : Int))
    case atStart => exact ⟨0, rfl, rfl, rfl⟩
    case round =>
      obtain ⟨j, rfl, hg, rfl⟩ := hrel
      have hp := wrap_pow (L := j) (by omega)
      by_cases hj : n ≤ 2 ^ j
      · have HJ := hide hj
        have qj : ¬ wrap64 ((2 : Int) ^ j) < (n : Int) := by rw [hp]; omega
        clear hp hj
        have hnpj := HHI.out j HJ.out
        have qa : ¬ (j : Int) < (np : Int) := by omega
        have qab : decide ((j : Int) < (np : Int)) = false := decide_eq_false qa
        have hry : wr.rangeAt b (off + k * 32) (By y.1) := rangeAt_kept9 HRY.out HLB.out L5.out
        have S5 : Hid (N ≤ wr.heap.size) := (show N ≤ wr.heap.size by rw [← HNw.out]; exact L5.out.size)
        have CC := climb_any (n : Int) (k : Int) y (.slice ma nm mc) M wr (HT.out.kept (L5.out.mono HT.out.size)) (RM.out.kept L5.out)
        obtain ⟨hc, HHC⟩ : ∃ x, Hid ((climbC (n : Int) (k : Int) y M).1 = x) := ⟨_, rfl⟩
        rw [HCC.out, HHC.out] at CC
        have HC5 := hide CC
        have BN : ∀ W : World, Blk (W.alloc (.cells (By zh.1).toArray 30 (0, 0))) W.heap.size 30 (By zh.1) := fun W => Blk.new W 30 (By zh.1)
        have HBN := hide BN
        clear CC BN hnpj
        have hfin : ∀ w6, Below wr.heap.size wr w6 → Below w.heap.size w w6 := fun w6 h => L5.out.trans (h.mono L5.out.size)
        have HFI := hide hfin
        clear hfin
        by_cases hn1 : 1 < n
        · have hs1 := HSO.out hn1
          have qb : (1 : Int) < (n : Int) := by omega
          have qbb : decide ((1 : Int) < (n : Int)) = true := decide_eq_true qb
          have qc : ((np : Int) == 0) = false := by simp; omega
          clear hn1
          go_wp2_with (first
            | (refine wpList_load_mid rfl 30 _ rfl b (off + k * 32) rfl (By y.1) _ hry Tryd.underlying30 rfl (Tryd.sizeH y) ?_)
            | fail)
          refine HC5.out.mono ?_
          rintro e w6 ⟨rfl, hb6⟩
          by_cases hq : nm = np
          · subst hq
            rw [decide_eq_true rfl]
            go_wp2_with (first
              | (refine wpList_store_blk rfl 30 _ _ rfl w6.heap.size (By zh.1) (By hc.1) 30 rfl rfl (HBN.out w6) (by rw [By_len, By_len]) (Tryd.sizeH hc) (By_one _) ?_; intro w7 hb7 hu7)
              | fail)
            have hb67 : Below w6.heap.size w6 w7 := ((Below.refl _ _).alloc (Nat.le_refl _) _).trans (hu7.below (Nat.le_refl _) (by simp))
            refine (HLV.out w7 (HFI.out w7 (hb6.trans (hb67.mono hb6.size)))).mono ?_
            rintro e w8 ⟨rfl, hb8⟩
            go_wp2_with fail
            go_ret
            exact ⟨rfl, hb8⟩
          · rw [decide_eq_false hq]
            have q8 : ((nm : Int) == (np : Int)) = false := by simp; omega
            go_wp2_with (first
              | (refine wpList_store_blk rfl 30 _ _ rfl w6.heap.size (By zh.1) (By hc.1) 30 rfl rfl (HBN.out w6) (by rw [By_len, By_len]) (Tryd.sizeH hc) (By_one _) ?_; intro w7 hb7 hu7)
              | fail)
            have hb67 : Below w6.heap.size w6 w7 := ((Below.refl _ _).alloc (Nat.le_refl _) _).trans (hu7.below (Nat.le_refl _) (by simp))
            refine (HLV.out w7 (HFI.out w7 (hb6.trans (hb67.mono hb6.size)))).mono ?_
            rintro e w8 ⟨rfl, hb8⟩
            go_wp2_with fail
            go_ret
            exact ⟨rfl, hb8⟩
        · have qb : ¬ (1 : Int) < (n : Int) := by omega
          have qbb : decide ((1 : Int) < (n : Int)) = false := decide_eq_false qb
          clear hn1
          go_wp2_with (first
            | (refine wpList_load_mid rfl 30 _ rfl b (off + k * 32) rfl (By y.1) _ hry Tryd.underlying30 rfl (Tryd.sizeH y) ?_)
            | fail)
          refine HC5.out.mono ?_
          rintro e w6 ⟨rfl, hb6⟩
          by_cases hq : nm = np
          · subst hq
            rw [decide_eq_true rfl]
            go_wp2_with (first
              | (refine wpList_store_blk rfl 30 _ _ rfl w6.heap.size (By zh.1) (By hc.1) 30 rfl rfl (HBN.out w6) (by rw [By_len, By_len]) (Tryd.sizeH hc) (By_one _) ?_; intro w7 hb7 hu7)
              | fail)
            have hb67 : Below w6.heap.size w6 w7 := ((Below.refl _ _).alloc (Nat.le_refl _) _).trans (hu7.below (Nat.le_refl _) (by simp))
            refine (HLV.out w7 (HFI.out w7 (hb6.trans (hb67.mono hb6.size)))).mono ?_
            rintro e w8 ⟨rfl, hb8⟩
            go_wp2_with fail
            go_ret
            exact ⟨rfl, hb8⟩
          · rw [decide_eq_false hq]
            have q8 : ((nm : Int) == (np : Int)) = false := by simp; omega
            go_wp2_with (first
              | (refine wpList_store_blk rfl 30 _ _ rfl w6.heap.size (By zh.1) (By hc.1) 30 rfl rfl (HBN.out w6) (by rw [By_len, By_len]) (Tryd.sizeH hc) (By_one _) ?_; intro w7 hb7 hu7)
              | fail)
            have hb67 : Below w6.heap.size w6 w7 := ((Below.refl _ _).alloc (Nat.le_refl _) _).trans (hu7.below (Nat.le_refl _) (by simp))
            refine (HLV.out w7 (HFI.out w7 (hb6.trans (hb67.mono hb6.size)))).mono ?_
            rintro e w8 ⟨rfl, hb8⟩
            go_wp2_with fail
            go_ret
            exact ⟨rfl, hb8⟩
      · have h6 : j < 6 := by
          rcases Nat.lt_or_ge j 6 with h | h
          · exact h
          · exfalso
            have := Nat.pow_le_pow_right (n := 2) (by decide) h
            omega
        have qj : wrap64 ((2 : Int) ^ j) < (n : Int) := by rw [hp]; omega
        clear hp hj
        go_wp2_with fail
        go_roundg (gk - 1)
        case measure => omega
        case rel => exact ⟨j + 1, rfl, by omega, by go_num⟩
  · rw [decide_eq_false hn] at CL
    have HCL := hide CL
    clear CL
    go_enter Tryd.func8, Tryd.ntmps8
    go_wp2_with fail
    refine HCL.out.mono ?_
    rintro e w1 ⟨rfl, hw1⟩
    subst w1
    go_wp2_with fail
    refine (HLV.out w (Below.refl _ _)).mono ?_
    rintro e w2 ⟨rfl, hb2⟩
    go_wp2_with fail
    go_ret
    exact ⟨rfl, hb2⟩
#print axioms proofLengths_any
end Go.Proofs.YtfclmjfbcmjfbaaDoor
