/-
  proof.Check and proof.Checks: what the calls do.
-/
import Derived.Test.YtfclmjfbcmjfbaaDoorPfB
import Derived.Test.YtfclmjfbcmjfbaaDoorMtW
namespace Go.Proofs.YtfclmjfbcmjfbaaDoor
open Go.RowKit
set_option maxHeartbeats 4000000 in
set_option maxRecDepth 100000 in
theorem check_any (r : Hs) (n i : Int) (x : Hs) (pv : Value) (p : List Hs) (w : World) (hT : Tabs w) (hP : RdG HE w pv p) :
    Calls Tryd.prog 18 #[HV r, .int .i64 n, .int .i64 i, HV x, pv] w fun e w' => e = .returned (.bool ((climbC n i x p).2 && decide ((climbC n i x p).1 = r))) ∧ Below w.heap.size w w' := by
  obtain ⟨y, ok, HY⟩ : ∃ y ok, Hid (climbC n i x p = (y, ok)) := ⟨_, _, rfl⟩
  rw [HY.out]
  obtain ⟨N, HNw⟩ : ∃ N, Hid (w.heap.size = N) := ⟨_, rfl⟩
  have HNT : Hid (2 ≤ N) := (show 2 ≤ N by rw [← HNw.out]; exact hT.size)
  have HT := hide hT
  have RP := hide hP
  obtain ⟨pa, cp, rfl⟩ := hP.slice
  obtain ⟨np, HNP⟩ : ∃ k, Hid (p.length = k) := ⟨_, rfl⟩
  rw [HNP.out] at RP ⊢
  have he := eqA y r
  obtain ⟨bq, HBQ⟩ : ∃ bq, Hid (decide (y = r) = bq) := ⟨_, rfl⟩
  simp only [HBQ.out] at he ⊢
  clear hP hT
  go_enter Tryd.func18, Tryd.ntmps18
  go_upto_region 1 with fail
  obtain ⟨w0, hw0⟩ : ∃ z, z = (w.alloc (.cells (By r.1).toArray 30 (0, 0))).alloc (.cells (By x.1).toArray 30 (0, 0)) := ⟨_, rfl⟩
  change Code.wp _ _ _ _ ((w.alloc (.cells (By r.1).toArray 30 (0, 0))).alloc (.cells (By x.1).toArray 30 (0, 0)))
  rw [← hw0, HNw.out]
  obtain ⟨b0, b1, ln⟩ := boxes2' HNw hw0
  have B0 := hide b0
  have LN := hide ln
  have T0 : Hid (Tabs w0) := HT.out.kept (ln.mono HNT.out)
  have R0 := hide (RP.out.kept (show Below w.heap.size w w0 by rw [HNw.out]; exact ln))
  have hr1 : w0.rangeAt (N + 1) 0 (By x.1) := b1.range0
  have hlt1 := b1.lt
  clear hw0 b0 b1 ln
  go_wp2_with (first
    | (refine wpList_load_mid rfl 30 _ rfl (N + 1) 0 rfl (By x.1) _ hr1 Tryd.underlying30 rfl (Tryd.sizeH x) ?_)
    | fail)
  refine (climb_any n i x (.slice pa np cp) p w0 T0.out R0.out).mono ?_
  rw [HY.out]
  rintro e w1 ⟨rfl, hb1⟩
  obtain ⟨E, HE1⟩ : ∃ E, Hid (w1.heap.size = E) := ⟨_, rfl⟩
  have BN := Blk.new w1 30 (By zh.1)
  rw [HE1.out] at BN
  have B01 := hide (B0.out.kept hb1)
  have L1 : Hid (Below N w w1) := LN.out.trans (hb1.mono (by omega))
  have hEN : N + 1 < E := by rw [← HE1.out]; exact Nat.lt_of_lt_of_le hlt1 hb1.size
  clear hb1 hr1
  cases ok with
  | true =>
    go_wp2_with (first
      | (rw [HE1.out]; refine wpList_store_blk rfl 30 _ _ rfl E (By zh.1) (By y.1) 30 rfl rfl BN (by rw [By_len, By_len]) (Tryd.sizeH y) (By_one _) ?_; intro w2 hb2 hu2; have hry : w2.rangeAt E 0 (By y.1) := hb2.range0; have hrr : w2.rangeAt N 0 (By r.1) := ((B01.out.alloc _).but hu2 (by omega)).range0)
      | (refine wpList_load_w9 (by rfl) 30 _ rfl E 0 rfl (By y.1) _ hry Tryd.underlying30 rfl (Tryd.sizeH y) ?_)
      | (refine wpList_load_w9 (by rfl) 30 _ rfl N 0 rfl (By r.1) _ hrr Tryd.underlying30 rfl (Tryd.sizeH r) ?_)
      | fail)
    go_ret
    refine ⟨by simp, ?_⟩
    rw [HNw.out]
    exact (L1.out.trans ((Below.refl _ _).alloc (by rw [HE1.out]; omega) _)).trans (hu2.below (by omega) (by simp [HE1.out]; omega))
  | false =>
    go_wp2_with (first
      | (rw [HE1.out]; refine wpList_store_blk rfl 30 _ _ rfl E (By zh.1) (By y.1) 30 rfl rfl BN (by rw [By_len, By_len]) (Tryd.sizeH y) (By_one _) ?_; intro w2 hb2 hu2)
      | fail)
    go_ret
    refine ⟨by simp, ?_⟩
    rw [HNw.out]
    exact (L1.out.trans ((Below.refl _ _).alloc (by rw [HE1.out]; omega) _)).trans (hu2.below (by omega) (by simp [HE1.out]; omega))
theorem tw_aside {T : List Tn} {lo h : Nat} {a x : Hs} {q : List Hs} (h0 : 0 < lo) : twW (T, lo, h) a (x :: q) = if q.length = T.length then some (bothW T.reverse x x q) else none := by
  simp [twW, fst2, h0]
theorem tw_plain {T : List Tn} {lo h : Nat} {a : Hs} {p : List Hs} (h0 : ¬ 0 < lo) : twW (T, lo, h) a p = if p.length = T.length then some (bothW T.reverse a a p) else none := by
  simp [twW, fst2, h0]
theorem tw_aside_nil {T : List Tn} {lo h : Nat} {a : Hs} (h0 : 0 < lo) : twW (T, lo, h) a [] = none := by
  simp [twW, fst2, h0]
def twB (a b : Hs) : Option (Hs × Hs) → Bool
  | some (e, l) => decide (e = a) && decide (l = b)
  | none => false
def checksC (a b : Hs) (m n : Int) (p : List Hs) : Bool := if 1 ≤ m ∧ m ≤ n ∧ n ≤ 1099511627776 then twB a b (twW (wayP 40 0 n.toNat (m.toNat - 1) false) a p) else false
set_option maxHeartbeats 4000000 in
set_option maxRecDepth 100000 in
theorem checks_none (a b : Hs) (m n : Int) (pv : Value) (p : List Hs) (hni : ¬ (1 ≤ m ∧ m ≤ n ∧ n ≤ 1099511627776)) (w : World) (hP : RdG HE w pv p) :
    Calls Tryd.prog 20 #[HV a, HV b, .int .i64 m, .int .i64 n, pv] w fun e w' => e = .returned (.bool false) ∧ Below w.heap.size w w' := by
  obtain ⟨pa, cp, rfl⟩ := hP.slice
  obtain ⟨np, HM⟩ : ∃ n, Hid (p.length = n) := ⟨_, rfl⟩
  rw [HM.out] at hP ⊢
  obtain ⟨N, HNw⟩ : ∃ N, Hid (w.heap.size = N) := ⟨_, rfl⟩
  clear hP
  go_enter Tryd.func20, Tryd.ntmps20
  go_upto_region 1 with fail
  obtain ⟨w0, hw0⟩ : ∃ z, z = (w.alloc (.cells (By a.1).toArray 30 (0, 0))).alloc (.cells (By b.1).toArray 30 (0, 0)) := ⟨_, rfl⟩
  change Code.wp _ _ _ _ ((w.alloc (.cells (By a.1).toArray 30 (0, 0))).alloc (.cells (By b.1).toArray 30 (0, 0)))
  rw [← hw0, HNw.out]
  obtain ⟨b0, b1, ln⟩ := boxes2' HNw hw0
  have LN : Hid (Below w.heap.size w w0) := (show Below _ _ _ by rw [HNw.out]; exact ln)
  clear hw0 b0 b1 ln
  by_cases q1 : m < 1
  · go_wp2_with fail
    go_ret
    exact ⟨rfl, LN.out⟩
  · by_cases q2 : n < m
    · go_wp2_with fail
      go_ret
      exact ⟨rfl, LN.out⟩
    · have q3 : (1099511627776 : Int) < n := by omega
      clear hni
      go_wp2_with fail
      go_ret
      exact ⟨rfl, LN.out⟩
set_option maxHeartbeats 8000000 in
set_option maxRecDepth 100000 in
theorem checks_some (a b : Hs) (k n : Nat) (pv : Value) (p : List Hs) (hk : k < n) (hn : n ≤ 1099511627776) (w : World) (hT : Tabs w) (hP : RdG HE w pv p) :
    Calls Tryd.prog 20 #[HV a, HV b, .int .i64 ((k : Int) + 1), .int .i64 (n : Int), pv] w fun e w' => e = .returned (.bool (twB a b (twW (wayP 40 0 n k false) a p))) ∧ Below w.heap.size w w' := by
  have RP := hide hP
  obtain ⟨pa, cp, rfl⟩ := hP.slice
  have hcp := hP.cap
  obtain ⟨np, HNP⟩ : ∃ n, Hid (p.length = n) := ⟨_, rfl⟩
  rw [HNP.out] at RP hcp ⊢
  obtain ⟨N, HNw⟩ : ∃ N, Hid (w.heap.size = N) := ⟨_, rfl⟩
  have HNT : Hid (2 ≤ N) := (show 2 ≤ N by rw [← HNw.out]; exact hT.size)
  have HT := hide hT
  have q1 : ¬ (k : Int) + 1 < 1 := by omega
  have q2 : ¬ (n : Int) < (k : Int) + 1 := by omega
  have q3 : ¬ (1099511627776 : Int) < (n : Int) := by omega
  have HLN := hide (way_len 40 40 0 n k false (Nat.zero_le _) hk (by omega))
  have HCW := hide (fun w => wayFrom_any n k false hk hn w)
  obtain ⟨rs, HR⟩ : ∃ r, Hid (twB a b (twW (wayP 40 0 n k false) a p) = r) := ⟨_, rfl⟩
  rw [HR.out]
  obtain ⟨T, lo, h, HW⟩ : ∃ T lo h, Hid (wayP 40 0 n k false = (T, lo, h)) := ⟨_, _, _, rfl⟩
  rw [HW.out] at HCW HLN HR
  obtain ⟨ct, HCT⟩ : ∃ n, Hid (T.length = n) := ⟨_, rfl⟩
  have hz := zeroW
  obtain ⟨Z, HZ⟩ : ∃ Z, Hid (Wz = Z) := ⟨_, rfl⟩
  rw [HZ.out] at hz
  have hzl : Z.length = 195 := by rw [← HZ.out]; rfl
  have hze : ¬ Z = [] := fun h => by rw [h] at hzl; simp at hzl
  clear hP hT
  go_enter Tryd.func20, Tryd.ntmps20
  go_upto_region 1 with fail
  obtain ⟨w0, hw0⟩ : ∃ z, z = (w.alloc (.cells (By a.1).toArray 30 (0, 0))).alloc (.cells (By b.1).toArray 30 (0, 0)) := ⟨_, rfl⟩
  change Code.wp _ _ _ _ ((w.alloc (.cells (By a.1).toArray 30 (0, 0))).alloc (.cells (By b.1).toArray 30 (0, 0)))
  rw [← hw0, HNw.out]
  obtain ⟨b0, b1, ln⟩ := boxes2' HNw hw0
  have B0 := hide b0
  have B1 := hide b1
  have LN := hide ln
  clear hw0 b0 b1 ln
  go_wp2_with fail
  refine (HCW.out w0).mono ?_
  rintro e w1 ⟨⟨A, rfl, hA, hAT⟩, hb1⟩
  have HAT : Hid (A.take T.length = T) := hAT
  have HA := hide hA
  obtain ⟨Y, HY⟩ : ∃ Y, Hid (WC lo h A T.length = Y) := ⟨_, rfl⟩
  have hyl : Y.length = 195 := by rw [← HY.out]; exact WC_len hA
  have HYO : Hid (∀ u ∈ Y, u.oneCell' = true) := (show ∀ u ∈ Y, u.oneCell' = true by rw [← HY.out]; exact WC_one _ _ _ _)
  have BN := Blk.new w1 50 Z
  obtain ⟨D, HD⟩ : ∃ D, Hid (w1.heap.size = D) := ⟨_, rfl⟩
  rw [HD.out] at BN
  have hND : N + 1 < D := by rw [← HD.out]; exact Nat.lt_of_lt_of_le B1.out.lt hb1.size
  have P0 := hide (B0.out.kept hb1)
  have P1 := hide (B1.out.kept hb1)
  have L1 : Hid (Below N w w1) := LN.out.trans (hb1.mono (by have := B1.out.lt; omega))
  have HBE := hide (fun (W : World) => Blk.new W 30 (By zh.1))
  clear hb1 hA hAT
  simp only [HY.out]
  go_wp2_with (first
    | (rw [HD.out]; refine wpList_store_blk rfl 50 _ _ rfl D Z Y 50 rfl rfl BN (by rw [hyl, hzl]) (by rw [hyl]; exact Tryd.sizeW) HYO.out ?_; intro w2 hb2 hu2; have hra : w2.rangeAt N 0 (By a.1) := ((P0.out.alloc _).but hu2 (by omega)).range0)
    | (refine wpList_load_mid rfl 30 _ rfl N 0 rfl (By a.1) _ hra Tryd.underlying30 rfl (Tryd.sizeH a) ?_)
    | (refine wpList_store_blk rfl 30 _ _ rfl w2.heap.size (By zh.1) (By a.1) 30 rfl rfl (HBE.out w2) (by rw [By_len, By_len]) (Tryd.sizeH a) (By_one _) ?_; intro w3 hb3 hu3)
    | fail)
  obtain ⟨E, HEw⟩ : ∃ E, Hid (w2.heap.size = E) := ⟨_, rfl⟩
  rw [HEw.out] at hb3 hu3 ⊢
  have hDE : D < E := by rw [← HEw.out]; exact hb2.lt
  have L2 : Below N w w2 := (L1.out.trans ((Below.refl _ _).alloc (by rw [HD.out]; omega) _)).trans (hu2.below (by omega) (by simp [HD.out]; omega))
  have LW3 : Hid (Below N w w3) := (L2.trans ((Below.refl _ _).alloc (by rw [HEw.out]; omega) _)).trans (hu3.below (by omega) (by simp [HEw.out]; omega))
  have BD3 : Hid (Blk w3 D 50 (WC lo h A T.length)) := (show Blk _ _ _ _ by rw [HY.out]; exact (hb2.alloc _).but hu3 (by omega))
  have BA3 : Hid (Blk w3 N 30 (By a.1)) := (((P0.out.alloc _).but hu2 (by omega)).alloc _).but hu3 (by omega)
  have BB3 : Hid (Blk w3 (N + 1) 30 (By b.1)) := (((P1.out.alloc _).but hu2 (by omega)).alloc _).but hu3 (by omega)
  have BE3 := hide hb3
  have RQ3 : Hid (RdG HE w3 (.slice pa np cp) p) := RP.out.kept (show Below w.heap.size w w3 by rw [HNw.out]; exact LW3.out)
  have TW3 : Hid (Tabs w3) := HT.out.kept (LW3.out.mono HNT.out)
  clear hb2 hu2 hb3 hu3 BN hra L2 hyl
  refine (aside_any D lo h T.length A w3 BD3.out).mono ?_
  rintro e w4 ⟨rfl, hw4⟩
  subst w4
  by_cases h0 : 0 < lo
  · rw [decide_eq_true h0]
    cases p with
    | nil =>
      have HN0 : Hid (np = 0) := HNP.out.symm
      have HRS : Hid (rs = false) := (show _ = _ by rw [← HR.out, tw_aside_nil h0]; rfl)
      have q5 : (np : Int) = 0 := by have := HN0.out; omega
      go_wp2_with fail
      go_ret
      exact ⟨by rw [HRS.out]; rfl, by rw [HNw.out]; exact LW3.out⟩
    | cons x q =>
      have HNQ : Hid (np = q.length + 1) := HNP.out.symm
      have hnp : 0 < np := by have := HNQ.out; omega
      have q5 : ¬ (np : Int) = 0 := by omega
      have q6 : (0 : Int) < (np : Int) := by omega
      have q6' : (1 : Int) ≤ (np : Int) := by omega
      obtain ⟨m1, HM1⟩ : ∃ m1, Hid (np - 1 = m1) := ⟨_, rfl⟩
      obtain ⟨c1, HC1⟩ : ∃ c1, Hid (cp - 1 = c1) := ⟨_, rfl⟩
      obtain ⟨bb, off, rfl, hlb, hx9⟩ := RQ3.out.nth (by omega)
      have hrx : w3.rangeAt bb off (By x.1) := by have := hx9 0 (by simp); simpa [HE] using this
      have hbw : bb < w3.heap.size := hlb
      have hbN : bb < N := by
        have := RP.out.inB_lt (b := bb) ⟨off, np, cp, rfl, by omega⟩
        rw [HNw.out] at this
        exact this
      obtain ⟨a2, hs2, -, hs2r⟩ := slice_G (E := HE) (P := Tryd.prog) Tryd.underlying22 Tryd.size30 (some ⟨bb, off, none⟩) np cp 1 (by omega) hcp
      have HS2 := hide hs2r
      rw [show ((1 : Nat) : Int) = 1 from rfl, HM1.out, HC1.out] at hs2
      rw [HM1.out, HC1.out] at HS2
      clear hx9 hs2r hlb
      go_upto_region 8 with fail
      refine pivots_by (jl_wp Tryd.mixed) (fun i_ => match i_ with | 0 | 3 => .slice (some ⟨bb, off, none⟩) np cp | 1 => .pointer (some ⟨bb, off, none⟩) | 2 => HV x | 4 => .slice a2 m1 c1 | 5 => undef | _ => undef) (fun b_ w' => Blk w' E 30 (By (if b_ = 1 then x else a).1) ∧ Chg (fun k => k = E) w3 w') [5] 59 rfl (by decide +kernel) 6 (by decide) (by decide) (by decide) (by decide +kernel) (by decide +kernel) ?_ ?_ ?_
      · intro w' hh hg
        exact ⟨by simpa using BE3.out.kept hg, Chg.of_below hg⟩
      · refine AllFrom.cons ⟨rfl, ?_, ?_⟩ (AllFrom.cons ⟨rfl, ?_, ?_⟩ (AllFrom.cons ⟨rfl, ?_, ?_⟩ (AllFrom.cons ⟨rfl, ?_, ?_⟩ (AllFrom.cons ⟨rfl, ?_, ?_⟩ (AllFrom.cons ⟨rfl, ?_, ?_⟩ AllFrom.nil)))))
        · intro _ a' b' w' hC hk hd Q
          have e4 : a'.eval (.tmp 4) = .slice (some ⟨bb, off, none⟩) np cp := hk.at 4 (by decide +kernel)
          exact wp_same _ (by simp only [execOp, e4]; rfl) hC
        · intro j hj; exact absurd hj (pv_no (by decide) _)
        · intro _ a' b' w' hC hk hd Q
          have e35 : a'.eval (.tmp 35) = .slice (some ⟨bb, off, none⟩) np cp := hd 0 35 (by decide +kernel)
          exact wp_same _ (by clear hd hk hC; simp only [execOp, e35]; go_simp) hC
        · intro j hj; exact absurd hj (pv_no (by decide) _)
        · intro _ a' b' w' hC hk hd Q
          have e36 : a'.eval (.tmp 36) = .pointer (some ⟨bb, off, none⟩) := hd 1 36 (by decide +kernel)
          exact wp_sameRow 30 _ rfl _ _ e36 (By x.1) _ (fun j u hj => (hC.2.cellAt hbw (by omega)).trans (hrx j u hj)) Tryd.underlying30 rfl (Tryd.sizeH _) hC
        · intro j hj; exact absurd hj (pv_no (by decide) _)
        · intro _ a' b' w' hC hk hd Q
          have e4 : a'.eval (.tmp 4) = .slice (some ⟨bb, off, none⟩) np cp := hk.at 4 (by decide +kernel)
          exact wp_same _ (by simp only [execOp, e4]; rfl) hC
        · intro j hj; exact absurd hj (pv_no (by decide) _)
        · intro _ a' b' w' hC hk hd Q
          have e38 : a'.eval (.tmp 38) = .slice (some ⟨bb, off, none⟩) np cp := hd 3 38 (by decide +kernel)
          exact wp_same _ (by clear hd hk hC; simp only [execOp, e38, hs2, show a'.eval (.const (.int .i64 1)) = .int .i64 1 from rfl, Option.map_none, Option.map_some, Sem.run_bind, Sem.run_pure, Result.andThen_ok]) hC
        · intro j hj; exact absurd hj (pv_no (by decide) _)
        · intro h; exact absurd (by decide) h
        · intro j hj
          obtain rfl : j = 0 := pv_at (by decide) rfl hj
          refine ⟨rfl, fun a' w' hC hk hd Q => ?_⟩
          have e12 : a'.eval (.tmp 12) = .pointer (some ⟨E, 0, none⟩) := hk.at 12 (by decide +kernel)
          have e37 : a'.eval (.tmp 37) = HV x := hd 2 37 (by decide +kernel)
          obtain ⟨hC1, hC2⟩ := hC
          simp only [Nat.zero_ne_one, if_false] at hC1
          refine wp_store_blk 30 _ _ rfl E (By a.1) (By x.1) 30 e12 e37 hC1 (by rw [By_len, By_len]) (Tryd.sizeH x) (By_one _) ?_
          intro w4 hb4 hu4
          exact ⟨rfl, by simpa using hb4, hC2.trans (Chg.of_but hu4 rfl)⟩
      · intro a' w5 hsz hdf hk hall hC
        obtain ⟨hC1, hC2⟩ := hC
        simp only [show ([5] : List Nat).length = 1 from rfl, if_true] at hC1
        have e35 : a'.eval (.tmp 35) = .slice (some ⟨bb, off, none⟩) np cp := hall 0 _ 35 (by decide) rfl rfl
        have e36 : a'.eval (.tmp 36) = .pointer (some ⟨bb, off, none⟩) := hall 1 _ 36 (by decide) rfl rfl
        have e37 : a'.eval (.tmp 37) = HV x := hall 2 _ 37 (by decide) rfl rfl
        have e38 : a'.eval (.tmp 38) = .slice (some ⟨bb, off, none⟩) np cp := hall 3 _ 38 (by decide) rfl rfl
        have e39 : a'.eval (.tmp 39) = .slice a2 m1 c1 := hall 4 _ 39 (by decide) rfl rfl
        have e4 : a'.eval (.tmp 4) = .slice (some ⟨bb, off, none⟩) np cp := hk.at 4 (by decide +kernel)
        refine ⟨rfl, ?_⟩
        refine ⟨_, rfl, ?_⟩
        show Exit.then _ _ Exit.normal (a'.put (some 4) (a'.eval (.tmp 39))) w5
        rw [e39]
        have ha := act_puts 59 rfl hsz hdf hk.all [35, 36, 37, 38, 39, 4] (by decide +kernel)
        simp only [puts, List.foldl_cons, List.foldl_nil, e35, e36, e37, e38, e39, e4] at ha
        simp only [Act.put, List.setIfInBounds_toArray, List.set_cons_succ, List.set_cons_zero] at ha
        clear hall hk hsz hdf e35 e36 e37 e38 e39 e4
        subst ha
        simp only [Act.put, List.setIfInBounds_toArray, List.set_cons_succ, List.set_cons_zero]
        have BD5 := hide (BD3.out.chg hC2 (by omega))
        have BA5 := hide (BA3.out.chg hC2 (by omega))
        have BB5 := hide (BB3.out.chg hC2 (by omega))
        have BE5 := hide hC1
        have TW5 : Hid (Tabs w5) := TW3.out.kept (hC2.below (by have := HNT.out; have := BB3.out.lt; omega) (fun k hk h => by have := HNT.out; omega))
        have LW5 : Hid (Below N w w5) := LW3.out.trans (hC2.below (by have := BB3.out.lt; omega) (fun k hk h => by omega))
        have RQ5 : Hid (RdG HE w5 (.slice a2 m1 c1) q) := (show RdG _ _ _ _ from by
          have h1 := HS2.out w5 (x :: q) (RQ3.out.chg hC2 (by
            intro b' hb' h
            have hbl := RP.out.inB_lt hb'
            rw [HNw.out] at hbl
            omega))
          simpa using h1)
        clear hC1 hC2 hrx hs2
        have hcc : w5.cell? ⟨D, 194, none⟩ = some (.int .i64 (ct : Int)) := BD5.out.cell (by have := WC_count (lo := lo) (hi := h) (c := T.length) HA.out; rw [HCT.out] at this ⊢; exact this)
        by_cases hlen : m1 = ct
        · have HQL : Hid ((q).length = T.length) := (show _ = _ by rw [show q.length = m1 by have := HM1.out; have := HNQ.out; omega, HCT.out]; exact hlen)
          subst hlen
          have CB := both_any D lo h T.length A HA.out (by have := HLN.out; omega) x (.slice a2 m1 c1) (q) HQL.out w5 TW5.out BD5.out RQ5.out
          rw [HAT.out] at CB
          obtain ⟨y1, HY1⟩ : ∃ y, Hid ((bothW T.reverse x x (q)).1 = y) := ⟨_, rfl⟩
          obtain ⟨y2, HY2⟩ : ∃ y, Hid ((bothW T.reverse x x (q)).2 = y) := ⟨_, rfl⟩
          rw [HY1.out, HY2.out] at CB
          have HCB := hide CB
          have he1 := eqA y1 a
          have he2 := eqA y2 b
          obtain ⟨bq1, HB1⟩ : ∃ bq, Hid (decide (y1 = a) = bq) := ⟨_, rfl⟩
          obtain ⟨bq2, HB2⟩ : ∃ bq, Hid (decide (y2 = b) = bq) := ⟨_, rfl⟩
          simp only [HB1.out] at he1
          simp only [HB2.out] at he2
          have HRS : Hid (rs = (bq1 && bq2)) := (show _ = _ by
            rw [← HB1.out, ← HB2.out, ← HY1.out, ← HY2.out]
            rw [← HR.out, tw_aside h0, if_pos HQL.out]; rfl)
          have hrx : w5.rangeAt E 0 (By x.1) := BE5.out.range0
          clear CB
          go_wp2_with (first
            | (refine wpList_load_mid rfl 30 _ rfl E 0 rfl (By x.1) _ hrx Tryd.underlying30 rfl (Tryd.sizeH x) ?_)
            | fail)
          refine HCB.out.mono ?_
          rintro e w8 ⟨rfl, hb8⟩
          obtain ⟨G, HG⟩ : ∃ G, Hid (w8.heap.size = G) := ⟨_, rfl⟩
          have BG := (Blk.new w8 30 (By zh.1)).alloc (.cells (By zh.1).toArray 30 (0, 0))
          have BH := Blk.new (w8.alloc (.cells (By zh.1).toArray 30 (0, 0))) 30 (By zh.1)
          rw [show (w8.alloc (.cells (By zh.1).toArray 30 (0, 0))).heap.size = G + 1 by simp [HG.out]] at BH
          rw [HG.out] at BG
          have BA8 := hide (((BA5.out.kept hb8).alloc (.cells (By zh.1).toArray 30 (0, 0))).alloc (.cells (By zh.1).toArray 30 (0, 0)))
          have BB8 := hide (((BB5.out.kept hb8).alloc (.cells (By zh.1).toArray 30 (0, 0))).alloc (.cells (By zh.1).toArray 30 (0, 0)))
          have hWG : N + 1 < G := by rw [← HG.out]; exact Nat.lt_of_lt_of_le BB5.out.lt hb8.size
          have L8 : Hid (Below N w ((w8.alloc (.cells (By zh.1).toArray 30 (0, 0))).alloc (.cells (By zh.1).toArray 30 (0, 0)))) := (show Below _ _ _ from ((LW5.out.trans (hb8.mono (by have := BB5.out.lt; omega))).alloc (by rw [HG.out]; omega) _).alloc (by simp [HG.out]; omega) _)
          clear hb8 hrx hcc
          cases bq1 with
          | true =>
            go_wp2_with (first
              | (rw [HG.out]; refine wpList_store_blk rfl 30 _ _ rfl G (By zh.1) (By y1.1) 30 rfl rfl BG (by rw [By_len, By_len]) (Tryd.sizeH y1) (By_one _) ?_; intro w9 hb9 hu9)
              | (refine wpList_store_blk rfl 30 _ _ rfl (G + 1) (By zh.1) (By y2.1) 30 rfl rfl (BH.but hu9 (by omega)) (by rw [By_len, By_len]) (Tryd.sizeH y2) (By_one _) ?_; intro w10 hb10 hu10; have hr1 : w10.rangeAt G 0 (By y1.1) := (hb9.but hu10 (by omega)).range0; have hr2 : w10.rangeAt (G + 1) 0 (By y2.1) := hb10.range0; have hra : w10.rangeAt N 0 (By a.1) := ((BA8.out.but hu9 (by omega)).but hu10 (by omega)).range0; have hrb : w10.rangeAt (N + 1) 0 (By b.1) := ((BB8.out.but hu9 (by omega)).but hu10 (by omega)).range0)
              | (refine wpList_load_w9 (by rfl) 30 _ rfl G 0 rfl (By y1.1) _ hr1 Tryd.underlying30 rfl (Tryd.sizeH y1) ?_)
              | (refine wpList_load_w9 (by rfl) 30 _ rfl N 0 rfl (By a.1) _ hra Tryd.underlying30 rfl (Tryd.sizeH a) ?_)
              | (refine wpList_load_w9 (by rfl) 30 _ rfl (G + 1) 0 rfl (By y2.1) _ hr2 Tryd.underlying30 rfl (Tryd.sizeH y2) ?_)
              | (refine wpList_load_w9 (by rfl) 30 _ rfl (N + 1) 0 rfl (By b.1) _ hrb Tryd.underlying30 rfl (Tryd.sizeH b) ?_)
              | fail)
            go_ret
            refine ⟨by rw [HRS.out]; simp, ?_⟩
            rw [HNw.out]
            exact (L8.out.trans (hu9.below (by omega) (by simp [HG.out]; omega))).trans (hu10.below (by omega) (by have := hb9.lt; omega))
          | false =>
            go_wp2_with (first
              | (rw [HG.out]; refine wpList_store_blk rfl 30 _ _ rfl G (By zh.1) (By y1.1) 30 rfl rfl BG (by rw [By_len, By_len]) (Tryd.sizeH y1) (By_one _) ?_; intro w9 hb9 hu9)
              | (refine wpList_store_blk rfl 30 _ _ rfl (G + 1) (By zh.1) (By y2.1) 30 rfl rfl (BH.but hu9 (by omega)) (by rw [By_len, By_len]) (Tryd.sizeH y2) (By_one _) ?_; intro w10 hb10 hu10; have hr1 : w10.rangeAt G 0 (By y1.1) := (hb9.but hu10 (by omega)).range0; have hra : w10.rangeAt N 0 (By a.1) := ((BA8.out.but hu9 (by omega)).but hu10 (by omega)).range0)
              | (refine wpList_load_w9 (by rfl) 30 _ rfl G 0 rfl (By y1.1) _ hr1 Tryd.underlying30 rfl (Tryd.sizeH y1) ?_)
              | (refine wpList_load_w9 (by rfl) 30 _ rfl N 0 rfl (By a.1) _ hra Tryd.underlying30 rfl (Tryd.sizeH a) ?_)
              | fail)
            go_ret
            refine ⟨by rw [HRS.out]; simp, ?_⟩
            rw [HNw.out]
            exact (L8.out.trans (hu9.below (by omega) (by simp [HG.out]; omega))).trans (hu10.below (by omega) (by have := hb9.lt; omega))
        · have q7 : ¬ ((m1 : Nat) : Int) = (ct : Int) := by omega
          have HRS : Hid (rs = false) := (show _ = _ by
            rw [← HR.out, tw_aside h0, if_neg (by rw [HCT.out, show q.length = m1 by have := HM1.out; have := HNQ.out; omega]; exact hlen)]; rfl)
          go_wp2_with fail
          go_ret
          exact ⟨by rw [HRS.out]; rfl, by rw [HNw.out]; exact LW5.out⟩
  · rw [decide_eq_false h0]
    have hcc : w3.cell? ⟨D, 194, none⟩ = some (.int .i64 (ct : Int)) := BD3.out.cell (by have := WC_count (lo := lo) (hi := h) (c := T.length) HA.out; rw [HCT.out] at this ⊢; exact this)
    by_cases hlen : np = ct
    · have HQL : Hid ((p).length = T.length) := (show _ = _ by rw [HNP.out, HCT.out]; exact hlen)
      subst hlen
      have CB := both_any D lo h T.length A HA.out (by have := HLN.out; omega) a (.slice pa np cp) (p) HQL.out w3 TW3.out BD3.out RQ3.out
      rw [HAT.out] at CB
      obtain ⟨y1, HY1⟩ : ∃ y, Hid ((bothW T.reverse a a (p)).1 = y) := ⟨_, rfl⟩
      obtain ⟨y2, HY2⟩ : ∃ y, Hid ((bothW T.reverse a a (p)).2 = y) := ⟨_, rfl⟩
      rw [HY1.out, HY2.out] at CB
      have HCB := hide CB
      have he1 := eqA y1 a
      have he2 := eqA y2 b
      obtain ⟨bq1, HB1⟩ : ∃ bq, Hid (decide (y1 = a) = bq) := ⟨_, rfl⟩
      obtain ⟨bq2, HB2⟩ : ∃ bq, Hid (decide (y2 = b) = bq) := ⟨_, rfl⟩
      simp only [HB1.out] at he1
      simp only [HB2.out] at he2
      have HRS : Hid (rs = (bq1 && bq2)) := (show _ = _ by
        rw [← HB1.out, ← HB2.out, ← HY1.out, ← HY2.out]
        rw [← HR.out, tw_plain h0, if_pos HQL.out]; rfl)
      have hrx : w3.rangeAt E 0 (By a.1) := BE3.out.range0
      clear CB
      go_wp2_with (first
        | (refine wpList_load_mid rfl 30 _ rfl E 0 rfl (By a.1) _ hrx Tryd.underlying30 rfl (Tryd.sizeH a) ?_)
        | fail)
      refine HCB.out.mono ?_
      rintro e w8 ⟨rfl, hb8⟩
      obtain ⟨G, HG⟩ : ∃ G, Hid (w8.heap.size = G) := ⟨_, rfl⟩
      have BG := (Blk.new w8 30 (By zh.1)).alloc (.cells (By zh.1).toArray 30 (0, 0))
      have BH := Blk.new (w8.alloc (.cells (By zh.1).toArray 30 (0, 0))) 30 (By zh.1)
      rw [show (w8.alloc (.cells (By zh.1).toArray 30 (0, 0))).heap.size = G + 1 by simp [HG.out]] at BH
      rw [HG.out] at BG
      have BA8 := hide (((BA3.out.kept hb8).alloc (.cells (By zh.1).toArray 30 (0, 0))).alloc (.cells (By zh.1).toArray 30 (0, 0)))
      have BB8 := hide (((BB3.out.kept hb8).alloc (.cells (By zh.1).toArray 30 (0, 0))).alloc (.cells (By zh.1).toArray 30 (0, 0)))
      have hWG : N + 1 < G := by rw [← HG.out]; exact Nat.lt_of_lt_of_le BB3.out.lt hb8.size
      have L8 : Hid (Below N w ((w8.alloc (.cells (By zh.1).toArray 30 (0, 0))).alloc (.cells (By zh.1).toArray 30 (0, 0)))) := (show Below _ _ _ from ((LW3.out.trans (hb8.mono (by have := BB3.out.lt; omega))).alloc (by rw [HG.out]; omega) _).alloc (by simp [HG.out]; omega) _)
      clear hb8 hrx hcc
      cases bq1 with
      | true =>
        go_wp2_with (first
          | (rw [HG.out]; refine wpList_store_blk rfl 30 _ _ rfl G (By zh.1) (By y1.1) 30 rfl rfl BG (by rw [By_len, By_len]) (Tryd.sizeH y1) (By_one _) ?_; intro w9 hb9 hu9)
          | (refine wpList_store_blk rfl 30 _ _ rfl (G + 1) (By zh.1) (By y2.1) 30 rfl rfl (BH.but hu9 (by omega)) (by rw [By_len, By_len]) (Tryd.sizeH y2) (By_one _) ?_; intro w10 hb10 hu10; have hr1 : w10.rangeAt G 0 (By y1.1) := (hb9.but hu10 (by omega)).range0; have hr2 : w10.rangeAt (G + 1) 0 (By y2.1) := hb10.range0; have hra : w10.rangeAt N 0 (By a.1) := ((BA8.out.but hu9 (by omega)).but hu10 (by omega)).range0; have hrb : w10.rangeAt (N + 1) 0 (By b.1) := ((BB8.out.but hu9 (by omega)).but hu10 (by omega)).range0)
          | (refine wpList_load_w9 (by rfl) 30 _ rfl G 0 rfl (By y1.1) _ hr1 Tryd.underlying30 rfl (Tryd.sizeH y1) ?_)
          | (refine wpList_load_w9 (by rfl) 30 _ rfl N 0 rfl (By a.1) _ hra Tryd.underlying30 rfl (Tryd.sizeH a) ?_)
          | (refine wpList_load_w9 (by rfl) 30 _ rfl (G + 1) 0 rfl (By y2.1) _ hr2 Tryd.underlying30 rfl (Tryd.sizeH y2) ?_)
          | (refine wpList_load_w9 (by rfl) 30 _ rfl (N + 1) 0 rfl (By b.1) _ hrb Tryd.underlying30 rfl (Tryd.sizeH b) ?_)
          | fail)
        go_ret
        refine ⟨by rw [HRS.out]; simp, ?_⟩
        rw [HNw.out]
        exact (L8.out.trans (hu9.below (by omega) (by simp [HG.out]; omega))).trans (hu10.below (by omega) (by have := hb9.lt; omega))
      | false =>
        go_wp2_with (first
          | (rw [HG.out]; refine wpList_store_blk rfl 30 _ _ rfl G (By zh.1) (By y1.1) 30 rfl rfl BG (by rw [By_len, By_len]) (Tryd.sizeH y1) (By_one _) ?_; intro w9 hb9 hu9)
          | (refine wpList_store_blk rfl 30 _ _ rfl (G + 1) (By zh.1) (By y2.1) 30 rfl rfl (BH.but hu9 (by omega)) (by rw [By_len, By_len]) (Tryd.sizeH y2) (By_one _) ?_; intro w10 hb10 hu10; have hr1 : w10.rangeAt G 0 (By y1.1) := (hb9.but hu10 (by omega)).range0; have hra : w10.rangeAt N 0 (By a.1) := ((BA8.out.but hu9 (by omega)).but hu10 (by omega)).range0)
          | (refine wpList_load_w9 (by rfl) 30 _ rfl G 0 rfl (By y1.1) _ hr1 Tryd.underlying30 rfl (Tryd.sizeH y1) ?_)
          | (refine wpList_load_w9 (by rfl) 30 _ rfl N 0 rfl (By a.1) _ hra Tryd.underlying30 rfl (Tryd.sizeH a) ?_)
          | fail)
        go_ret
        refine ⟨by rw [HRS.out]; simp, ?_⟩
        rw [HNw.out]
        exact (L8.out.trans (hu9.below (by omega) (by simp [HG.out]; omega))).trans (hu10.below (by omega) (by have := hb9.lt; omega))
    · have q7 : ¬ ((np : Nat) : Int) = (ct : Int) := by omega
      have HRS : Hid (rs = false) := (show _ = _ by
        rw [← HR.out, tw_plain h0, if_neg (by rw [HCT.out, HNP.out]; exact hlen)]; rfl)
      go_wp2_with fail
      go_ret
      exact ⟨by rw [HRS.out]; rfl, by rw [HNw.out]; exact LW3.out⟩
theorem checks_any (a b : Hs) (m n : Int) (pv : Value) (p : List Hs) (w : World) (hT : Tabs w) (hP : RdG HE w pv p) :
    Calls Tryd.prog 20 #[HV a, HV b, .int .i64 m, .int .i64 n, pv] w fun e w' => e = .returned (.bool (checksC a b m n p)) ∧ Below w.heap.size w w' := by
  unfold checksC
  by_cases h : 1 ≤ m ∧ m ≤ n ∧ n ≤ 1099511627776
  · rw [if_pos h]
    obtain ⟨k, rfl⟩ : ∃ k : Nat, m = (k : Int) + 1 := ⟨m.toNat - 1, by omega⟩
    obtain ⟨l, rfl⟩ : ∃ l : Nat, n = (l : Int) := ⟨n.toNat, by omega⟩
    rw [Int.toNat_natCast, show ((k : Int) + 1).toNat - 1 = k by omega]
    exact checks_some a b k l pv p (by omega) (by omega) w hT hP
  · rw [if_neg h]
    exact checks_none a b m n pv p h w hP
#print axioms checks_any
end Go.Proofs.YtfclmjfbcmjfbaaDoor
