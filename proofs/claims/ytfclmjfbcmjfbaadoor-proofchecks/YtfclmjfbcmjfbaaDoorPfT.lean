/-
  The reference's Checks: what the call does.
-/
import Derived.Test.YtfclmjfbcmjfbaaDoorPfN
namespace Go.Proofs.YtfclmjfbcmjfbaaDoor
open Go.RowKit
theorem two_same (a b : Hs) (m n : Nat) (p : List Hs) (hm : 1 ≤ m) (hmn : m ≤ n) (hn : n ≤ 1099511627776) : (((twoR 40 a m n p true).2.2 && decide ((twoR 40 a m n p true).1 = a)) && decide ((twoR 40 a m n p true).2.1 = b)) = checksC a b (m : Int) (n : Int) p := by
  have h := way_two a 40 0 n m p (by omega) hmn (by omega)
  unfold checksC
  rw [if_pos (by omega), Int.toNat_natCast, Int.toNat_natCast]
  rw [Nat.sub_zero, Nat.sub_zero, decide_eq_true rfl] at h
  cases hw : twW (wayP 40 0 n (m - 1) false) a p with
  | none =>
    rw [h.2 hw]
    rfl
  | some r =>
    obtain ⟨e, l⟩ := r
    rw [h.1 e l hw]
    simp [twB]
set_option maxHeartbeats 4000000 in
set_option maxRecDepth 100000 in
theorem xchecks_none (a b : Hs) (m n : Int) (pv : Value) (p : List Hs) (hni : ¬ (1 ≤ m ∧ m ≤ n ∧ n ≤ 1099511627776)) (w : World) (hP : RdG HE w pv p) :
    Calls Tryd.prog 21 #[HV a, HV b, .int .i64 m, .int .i64 n, pv] w fun e w' => e = .returned (.bool false) ∧ Below w.heap.size w w' := by
  obtain ⟨pa, cp, rfl⟩ := hP.slice
  obtain ⟨np, HM⟩ : ∃ n, Hid (p.length = n) := ⟨_, rfl⟩
  rw [HM.out] at hP ⊢
  obtain ⟨N, HNw⟩ : ∃ N, Hid (w.heap.size = N) := ⟨_, rfl⟩
  clear hP
  go_enter Tryd.func21, Tryd.ntmps21
  go_upto_region 1 with fail
  obtain ⟨w0, hw0⟩ : ∃ z, z = (w.alloc (.cells (By a.1).toArray 30 (0, 0))).alloc (.cells (By b.1).toArray 30 (0, 0)) := ⟨_, rfl⟩
  change Code.wp _ _ _ _ ((w.alloc (.cells (By a.1).toArray 30 (0, 0))).alloc (.cells (By b.1).toArray 30 (0, 0)))
  rw [← hw0, HNw.out]
  obtain ⟨b0, b1, ln⟩ := boxes2' HNw hw0
  have LN : Hid (Below w.heap.size w w0) := (show Below _ _ _ by rw [HNw.out]; exact ln)
  clear hw0 b0 b1 ln
  by_cases q1 : m < 1
  · go_wp2_with fail
    go_ret
    exact ⟨rfl, LN.out⟩
  · by_cases q2 : n < m
    · go_wp2_with fail
      go_ret
      exact ⟨rfl, LN.out⟩
    · have q3 : (1099511627776 : Int) < n := by omega
      clear hni
      go_wp2_with fail
      go_ret
      exact ⟨rfl, LN.out⟩
set_option maxHeartbeats 8000000 in
set_option maxRecDepth 100000 in
theorem xchecks_some (a b : Hs) (m n : Nat) (pv : Value) (p : List Hs) (hm : 1 ≤ m) (hmn : m ≤ n) (hn : n ≤ 1099511627776) (w : World) (hP : RdG HE w pv p) :
    Calls Tryd.prog 21 #[HV a, HV b, .int .i64 (m : Int), .int .i64 (n : Int), pv] w fun e w' => e = .returned (.bool (checksC a b (m : Int) (n : Int) p)) ∧ Below w.heap.size w w' := by
  rw [← two_same a b m n p hm hmn hn]
  have CT0 := fun w2 => xtwo_any 40 a m n pv p true w2 hm hmn (by omega) hn
  obtain ⟨y1, y2, ok, HYO⟩ : ∃ y1 y2 ok, Hid (twoR 40 a m n p true = (y1, y2, ok)) := ⟨_, _, _, rfl⟩
  rw [HYO.out] at CT0 ⊢
  obtain ⟨pa, cp, rfl⟩ := hP.slice
  obtain ⟨np, HM⟩ : ∃ n, Hid (p.length = n) := ⟨_, rfl⟩
  rw [HM.out] at hP CT0 ⊢
  have HCT := hide CT0
  have RP := hide hP
  obtain ⟨N, HNw⟩ : ∃ N, Hid (w.heap.size = N) := ⟨_, rfl⟩
  obtain ⟨rs, HR0⟩ : ∃ z, Hid (((ok && decide (y1 = a)) && decide (y2 = b)) = z) := ⟨_, rfl⟩
  simp only
  rw [HR0.out]
  have he1 := eqA y1 a
  have he2 := eqA y2 b
  obtain ⟨bq1, HB1⟩ : ∃ bq, Hid (decide (y1 = a) = bq) := ⟨_, rfl⟩
  obtain ⟨bq2, HB2⟩ : ∃ bq, Hid (decide (y2 = b) = bq) := ⟨_, rfl⟩
  simp only [HB1.out] at he1
  simp only [HB2.out] at he2
  have HRS : Hid (rs = ((ok && bq1) && bq2)) := (show _ = _ by rw [← HR0.out, ← HB1.out, ← HB2.out])
  have q1 : decide ((m : Int) < 1) = false := decide_eq_false (by omega)
  have q2 : decide ((n : Int) < (m : Int)) = false := decide_eq_false (by omega)
  have q3 : decide ((1099511627776 : Int) < (n : Int)) = false := decide_eq_false (by omega)
  clear hP CT0 HB1 HB2 HR0
  go_enter Tryd.func21, Tryd.ntmps21
  go_upto_region 1 with fail
  obtain ⟨w0, hw0⟩ : ∃ z, z = (w.alloc (.cells (By a.1).toArray 30 (0, 0))).alloc (.cells (By b.1).toArray 30 (0, 0)) := ⟨_, rfl⟩
  change Code.wp _ _ _ _ ((w.alloc (.cells (By a.1).toArray 30 (0, 0))).alloc (.cells (By b.1).toArray 30 (0, 0)))
  rw [← hw0, HNw.out]
  obtain ⟨b0, b1, ln⟩ := boxes2' HNw hw0
  have BA := hide b0
  have BB := hide b1
  have LN := hide ln
  have R0 := hide (RP.out.kept (show Below w.heap.size w w0 by rw [HNw.out]; exact ln))
  have hrx : w0.rangeAt N 0 (By a.1) := b0.range0
  clear hw0 b0 b1 ln
  go_wp2_with (first
    | (refine wpList_load_mid rfl 30 _ rfl N 0 rfl (By a.1) _ hrx Tryd.underlying30 rfl (Tryd.sizeH a) ?_)
    | fail)
  refine (HCT.out w0 R0.out).mono ?_
  rintro e w8 ⟨rfl, hb8⟩
  obtain ⟨G, HG⟩ : ∃ G, Hid (w8.heap.size = G) := ⟨_, rfl⟩
  have BG := (Blk.new w8 30 (By zh.1)).alloc (.cells (By zh.1).toArray 30 (0, 0))
  have BH := Blk.new (w8.alloc (.cells (By zh.1).toArray 30 (0, 0))) 30 (By zh.1)
  rw [show (w8.alloc (.cells (By zh.1).toArray 30 (0, 0))).heap.size = G + 1 by simp [HG.out]] at BH
  rw [HG.out] at BG
  have BA8 := hide (((BA.out.kept hb8).alloc (.cells (By zh.1).toArray 30 (0, 0))).alloc (.cells (By zh.1).toArray 30 (0, 0)))
  have BB8 := hide (((BB.out.kept hb8).alloc (.cells (By zh.1).toArray 30 (0, 0))).alloc (.cells (By zh.1).toArray 30 (0, 0)))
  have hWG : N + 1 < G := by rw [← HG.out]; exact Nat.lt_of_lt_of_le BB.out.lt hb8.size
  have L8 : Hid (Below N w ((w8.alloc (.cells (By zh.1).toArray 30 (0, 0))).alloc (.cells (By zh.1).toArray 30 (0, 0)))) := (show Below _ _ _ from ((LN.out.trans (hb8.mono (by have := BB.out.lt; omega))).alloc (by rw [HG.out]; omega) _).alloc (by simp [HG.out]; omega) _)
  clear hb8 hrx
  cases ok with
  | true =>
    cases bq1 with
    | true =>
      go_wp2_with (first
        | (rw [HG.out]; refine wpList_store_blk rfl 30 _ _ rfl G (By zh.1) (By y1.1) 30 rfl rfl BG (by rw [By_len, By_len]) (Tryd.sizeH y1) (By_one _) ?_; intro w9 hb9 hu9)
        | (refine wpList_store_blk rfl 30 _ _ rfl (G + 1) (By zh.1) (By y2.1) 30 rfl rfl (BH.but hu9 (by omega)) (by rw [By_len, By_len]) (Tryd.sizeH y2) (By_one _) ?_; intro w10 hb10 hu10; have hr1 : w10.rangeAt G 0 (By y1.1) := (hb9.but hu10 (by omega)).range0; have hr2 : w10.rangeAt (G + 1) 0 (By y2.1) := hb10.range0; have hra : w10.rangeAt N 0 (By a.1) := ((BA8.out.but hu9 (by omega)).but hu10 (by omega)).range0; have hrb : w10.rangeAt (N + 1) 0 (By b.1) := ((BB8.out.but hu9 (by omega)).but hu10 (by omega)).range0)
        | (refine wpList_load_w9 (by rfl) 30 _ rfl (G) 0 rfl (By y1.1) _ hr1 Tryd.underlying30 rfl (Tryd.sizeH y1) ?_)
        | (refine wpList_load_w9 (by rfl) 30 _ rfl (N) 0 rfl (By a.1) _ hra Tryd.underlying30 rfl (Tryd.sizeH a) ?_)
        | (refine wpList_load_w9 (by rfl) 30 _ rfl (G + 1) 0 rfl (By y2.1) _ hr2 Tryd.underlying30 rfl (Tryd.sizeH y2) ?_)
        | (refine wpList_load_w9 (by rfl) 30 _ rfl (N + 1) 0 rfl (By b.1) _ hrb Tryd.underlying30 rfl (Tryd.sizeH b) ?_)
        | fail)
      go_ret
      refine ⟨by rw [HRS.out]; simp, ?_⟩
      rw [HNw.out]
      exact (L8.out.trans (hu9.below (by omega) (by simp [HG.out]; omega))).trans (hu10.below (by omega) (by have := hb9.lt; omega))
    | false =>
      go_wp2_with (first
        | (rw [HG.out]; refine wpList_store_blk rfl 30 _ _ rfl G (By zh.1) (By y1.1) 30 rfl rfl BG (by rw [By_len, By_len]) (Tryd.sizeH y1) (By_one _) ?_; intro w9 hb9 hu9)
        | (refine wpList_store_blk rfl 30 _ _ rfl (G + 1) (By zh.1) (By y2.1) 30 rfl rfl (BH.but hu9 (by omega)) (by rw [By_len, By_len]) (Tryd.sizeH y2) (By_one _) ?_; intro w10 hb10 hu10; have hr1 : w10.rangeAt G 0 (By y1.1) := (hb9.but hu10 (by omega)).range0; have hr2 : w10.rangeAt (G + 1) 0 (By y2.1) := hb10.range0; have hra : w10.rangeAt N 0 (By a.1) := ((BA8.out.but hu9 (by omega)).but hu10 (by omega)).range0; have hrb : w10.rangeAt (N + 1) 0 (By b.1) := ((BB8.out.but hu9 (by omega)).but hu10 (by omega)).range0)
        | (refine wpList_load_w9 (by rfl) 30 _ rfl (G) 0 rfl (By y1.1) _ hr1 Tryd.underlying30 rfl (Tryd.sizeH y1) ?_)
        | (refine wpList_load_w9 (by rfl) 30 _ rfl (N) 0 rfl (By a.1) _ hra Tryd.underlying30 rfl (Tryd.sizeH a) ?_)
        | fail)
      go_ret
      refine ⟨by rw [HRS.out]; simp, ?_⟩
      rw [HNw.out]
      exact (L8.out.trans (hu9.below (by omega) (by simp [HG.out]; omega))).trans (hu10.below (by omega) (by have := hb9.lt; omega))
  | false =>
    go_wp2_with (first
      | (rw [HG.out]; refine wpList_store_blk rfl 30 _ _ rfl G (By zh.1) (By y1.1) 30 rfl rfl BG (by rw [By_len, By_len]) (Tryd.sizeH y1) (By_one _) ?_; intro w9 hb9 hu9)
      | (refine wpList_store_blk rfl 30 _ _ rfl (G + 1) (By zh.1) (By y2.1) 30 rfl rfl (BH.but hu9 (by omega)) (by rw [By_len, By_len]) (Tryd.sizeH y2) (By_one _) ?_; intro w10 hb10 hu10; have hr1 : w10.rangeAt G 0 (By y1.1) := (hb9.but hu10 (by omega)).range0; have hr2 : w10.rangeAt (G + 1) 0 (By y2.1) := hb10.range0; have hra : w10.rangeAt N 0 (By a.1) := ((BA8.out.but hu9 (by omega)).but hu10 (by omega)).range0; have hrb : w10.rangeAt (N + 1) 0 (By b.1) := ((BB8.out.but hu9 (by omega)).but hu10 (by omega)).range0)
      | fail)
    go_ret
    refine ⟨by rw [HRS.out]; simp, ?_⟩
    rw [HNw.out]
    exact (L8.out.trans (hu9.below (by omega) (by simp [HG.out]; omega))).trans (hu10.below (by omega) (by have := hb9.lt; omega))
theorem xchecks_any (a b : Hs) (m n : Int) (pv : Value) (p : List Hs) (w : World) (hP : RdG HE w pv p) :
    Calls Tryd.prog 21 #[HV a, HV b, .int .i64 m, .int .i64 n, pv] w fun e w' => e = .returned (.bool (checksC a b m n p)) ∧ Below w.heap.size w w' := by
  by_cases h : 1 ≤ m ∧ m ≤ n ∧ n ≤ 1099511627776
  · obtain ⟨k, rfl⟩ : ∃ k : Nat, m = (k : Int) := ⟨m.toNat, by omega⟩
    obtain ⟨l, rfl⟩ : ∃ l : Nat, n = (l : Int) := ⟨n.toNat, by omega⟩
    exact xchecks_some a b k l pv p (by omega) (by omega) (by omega) w hP
  · have hc : checksC a b m n p = false := by unfold checksC; rw [if_neg h]
    rw [hc]
    exact xchecks_none a b m n pv p h w hP
#print axioms xchecks_any
end Go.Proofs.YtfclmjfbcmjfbaaDoor
