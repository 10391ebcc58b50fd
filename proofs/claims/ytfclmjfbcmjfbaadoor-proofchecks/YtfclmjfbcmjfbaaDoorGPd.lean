/-
  Texts that ride together: PfH PfC.
-/
import Derived.Test.YtfclmjfbcmjfbaaDoorPfO
/-
  proof.Path and proof.Grown: what the calls do.
-/
namespace Go.Proofs.YtfclmjfbcmjfbaaDoor
open Go.RowKit
def pathW (L : List Hs) (i : Int) : List Hs := if 0 ≤ i ∧ i < (L.length : Int) then (wayP 40 0 L.length i.toNat true).1.reverse.map (rt L) else []
def grownC (L : List Hs) (m : Int) : List Hs := if 1 ≤ m ∧ m ≤ (L.length : Int) then grownW L (wayP 40 0 L.length (m.toNat - 1) false) else []
theorem none_chg {w w' : World} (h : Chg (fun k => (Value.slice none 0 0).ownBlock = some k) w w') : Below w.heap.size w w' := h.below (Nat.le_refl _) (fun k _ hk => by cases hk)
set_option maxHeartbeats 4000000 in
set_option maxRecDepth 100000 in
theorem path_any (lv : Value) (L : List Hs) (i : Int) (hn : L.length ≤ 1000) (w : World) (hT : Tabs w) (hL : RdG HE w lv L) :
    Calls Tryd.prog 11 #[lv, .int .i64 i] w fun e w' => (∃ v', e = .returned (.tuple #[v', .bool (decide (0 ≤ i ∧ i < (L.length : Int)))]) ∧ OwnG HE w' w.heap.size 30 v' (pathW L i)) ∧ Below w.heap.size w w' := by
  have RL := hide hL
  have HT := hide hT
  obtain ⟨p, cp, rfl⟩ := hL.slice
  obtain ⟨n, HN⟩ : ∃ n, Hid (L.length = n) := ⟨_, rfl⟩
  obtain ⟨pw, HP⟩ : ∃ x, Hid (pathW L i = x) := ⟨_, rfl⟩
  have HP0 := hide HP.out
  unfold pathW at HP0
  rw [HP.out]
  rw [HN.out] at RL hn HP0 ⊢
  obtain ⟨N, HNw⟩ : ∃ N, Hid (w.heap.size = N) := ⟨_, rfl⟩
  have HNT : Hid (2 ≤ N) := (show 2 ≤ N by rw [← HNw.out]; exact HT.out.size)
  clear hL hT
  by_cases hi : 0 ≤ i ∧ i < (n : Int)
  · rw [if_pos hi] at HP0
    rw [decide_eq_true hi]
    obtain ⟨k, rfl⟩ : ∃ k : Nat, i = (k : Int) := ⟨i.toNat, by omega⟩
    rw [Int.toNat_natCast] at HP0
    have hk : k < n := by omega
    have q1 : ¬ (k : Int) < 0 := by omega
    have q2 : ¬ (n : Int) ≤ (k : Int) := by omega
    have CW := wayFrom_any n k true hk (by omega) w
    have HIN := hide (way_in 40 0 n k true (Nat.zero_le _) hk).1
    have HLN := hide (way_len 40 40 0 n k true (Nat.zero_le _) hk (by omega))
    obtain ⟨T, lo, h, HW⟩ : ∃ T lo h, Hid (wayP 40 0 n k true = (T, lo, h)) := ⟨_, _, _, rfl⟩
    rw [HW.out] at CW HIN HLN HP0
    have HCW := hide CW
    have hz := zeroW
    obtain ⟨Z, HZ⟩ : ∃ Z, Hid (Wz = Z) := ⟨_, rfl⟩
    rw [HZ.out] at hz
    have hzl : Z.length = 195 := by rw [← HZ.out]; rfl
    have hze : ¬ Z = [] := fun h => by rw [h] at hzl; simp at hzl
    clear hi CW
    go_enter Tryd.func11, Tryd.ntmps11
    go_wp2_with fail
    refine HCW.out.mono ?_
    rintro e w1 ⟨⟨A, rfl, hA, hAT⟩, hb1⟩
    have HA := hide hA
    have HAT : Hid (A.take T.length = T) := hAT
    have L1 : Hid (Below N w w1) := (show Below N w w1 by rw [← HNw.out]; exact hb1)
    obtain ⟨Y, HY⟩ : ∃ Y, Hid (WC lo h A T.length = Y) := ⟨_, rfl⟩
    have hyl : Y.length = 195 := by rw [← HY.out]; exact WC_len hA
    have HYO : Hid (∀ u ∈ Y, u.oneCell' = true) := (show ∀ u ∈ Y, u.oneCell' = true by rw [← HY.out]; exact WC_one _ _ _ _)
    have BN := Blk.new w1 50 Z
    obtain ⟨D, HD⟩ : ∃ D, Hid (w1.heap.size = D) := ⟨_, rfl⟩
    rw [HD.out] at BN
    have hND : N ≤ D := by rw [← HD.out, ← HNw.out]; exact hb1.size
    clear hb1 hA hAT
    simp only [HY.out]
    go_wp2_with (first
      | (rw [HD.out]; refine wpList_store_blk rfl 50 _ _ rfl D Z Y 50 rfl rfl BN (by rw [hyl, hzl]) (by rw [hyl]; exact Tryd.sizeW) HYO.out ?_; intro w2 hb2 hu2)
      | fail)
    have L2 : Hid (Below N w w2) := (L1.out.trans ((Below.refl _ _).alloc (by rw [HD.out]; exact hND) _)).trans (hu2.below hND (by simp [HD.out]; omega))
    have L2w : Hid (Below w.heap.size w w2) := (show Below _ _ _ by rw [HNw.out]; exact L2.out)
    have hlt : T.length ≤ 40 := HLN.out
    refine (others_any D lo h T.length N A (.slice none 0 0) (.slice p n cp) [] L HA.out (by omega) (by
      rw [HAT.out]
      intro t ht
      have := HIN.out t ht
      exact ⟨by omega, by rw [HN.out]; exact this.2.2⟩) (by simp) w2 (HT.out.kept (L2.out.mono HNT.out)) HNT.out (by rw [← HNw.out]; exact L2w.out.size) (by rw [HY.out]; exact hb2) (ownG_nil _ _ _) (RL.out.kept L2w.out) (fun b hb => by cases hb)).mono ?_
    rintro e w3 ⟨⟨v', rfl, ho⟩, hc3⟩
    go_wp2_with fail
    refine bodyPost_ret (results_tmp2 rfl _ _ _) rfl ?_
    refine ⟨⟨v', rfl, ?_⟩, ?_⟩
    · rw [HNw.out, ← HP0.out]
      rw [HAT.out, List.nil_append] at ho
      exact ho
    · rw [HNw.out]
      exact L2.out.trans ((none_chg hc3).mono (by rw [← HNw.out]; exact L2w.out.size))
  · rw [if_neg hi] at HP0
    rw [decide_eq_false hi]
    go_enter Tryd.func11, Tryd.ntmps11
    by_cases q1 : i < 0
    · go_wp2_with fail
      refine bodyPost_ret (results_tmp2 rfl _ _ _) rfl ?_
      exact ⟨⟨_, rfl, by rw [← HP0.out]; exact ownG_nil _ _ _⟩, Below.refl _ _⟩
    · have q2 : (n : Int) ≤ i := by omega
      clear hi
      go_wp2_with fail
      refine bodyPost_ret (results_tmp2 rfl _ _ _) rfl ?_
      exact ⟨⟨_, rfl, by rw [← HP0.out]; exact ownG_nil _ _ _⟩, Below.refl _ _⟩
/-- An operation that yields a value and makes memory. -/
theorem wpList_bslice {P : Program} {ops : Array Oper} {rest : List Oper} {op : Oper} {a : Act} {w : World} {Q : Exit → Act → World → Prop} (hgd : op.guard = none) (t : TypeId) (n : Nat) (ps : Array (Nat × Operand)) (_ : op.op = .buildSlice t n ps) (v : Value) (w1 : World)
    (hrun : (execOp a.eval op).run P w = .ok (.value v) w1) (h : wpList P ops Q rest (a.put op.dst v) w1) : wpList P ops Q (op :: rest) a w := by
  refine wpList_plain hgd fun K hK => ?_
  unfold Oper.wp
  rw [hrun]
  exact hK _ _ h
theorem Tryd.infoZ : (Tryd.prog.info? 30).map (fun i => (i.zero, i.size, i.bytes)) = some (some (HV zh), HE.n, 32) := by kernel_rfl
set_option maxHeartbeats 4000000 in
set_option maxRecDepth 100000 in
theorem grown_any (lv : Value) (L : List Hs) (m : Int) (hn : L.length ≤ 1000) (w : World) (hT : Tabs w) (hL : RdG HE w lv L) :
    Calls Tryd.prog 13 #[lv, .int .i64 m] w fun e w' => (∃ v', e = .returned (.tuple #[v', .bool (decide (1 ≤ m ∧ m ≤ (L.length : Int)))]) ∧ OwnG HE w' w.heap.size 30 v' (grownC L m)) ∧ Below w.heap.size w w' := by
  have RL := hide hL
  have HT := hide hT
  obtain ⟨p, cp, rfl⟩ := hL.slice
  obtain ⟨n, HN⟩ : ∃ n, Hid (L.length = n) := ⟨_, rfl⟩
  obtain ⟨pw, HP⟩ : ∃ x, Hid (grownC L m = x) := ⟨_, rfl⟩
  have HP0 := hide HP.out
  unfold grownC at HP0
  rw [HP.out]
  rw [HN.out] at RL hn HP0 ⊢
  obtain ⟨N, HNw⟩ : ∃ N, Hid (w.heap.size = N) := ⟨_, rfl⟩
  have HNT : Hid (2 ≤ N) := (show 2 ≤ N by rw [← HNw.out]; exact HT.out.size)
  clear hL hT
  by_cases hi : 1 ≤ m ∧ m ≤ (n : Int)
  · rw [if_pos hi] at HP0
    rw [decide_eq_true hi]
    obtain ⟨k, rfl⟩ : ∃ k : Nat, m = (k : Int) + 1 := ⟨m.toNat - 1, by omega⟩
    rw [show ((k : Int) + 1).toNat - 1 = k by omega] at HP0
    have hk : k < n := by omega
    have q1 : ¬ (k : Int) + 1 < 1 := by omega
    have q2 : ¬ (n : Int) < (k : Int) + 1 := by omega
    have CW := wayFrom_any n k false hk (by omega) w
    have HWI := hide (way_in 40 0 n k false (Nat.zero_le _) hk)
    have HLN := hide (way_len 40 40 0 n k false (Nat.zero_le _) hk (by omega))
    obtain ⟨T, lo, h, HW⟩ : ∃ T lo h, Hid (wayP 40 0 n k false = (T, lo, h)) := ⟨_, _, _, rfl⟩
    rw [HW.out] at CW HWI HLN HP0
    have HIN : Hid (∀ t ∈ T, 0 ≤ t.a ∧ t.a < t.b ∧ t.b ≤ n) := HWI.out.1
    have HLH : Hid (lo ≤ k ∧ k < h ∧ h ≤ n) := ⟨HWI.out.2.2.1, HWI.out.2.2.2.1, HWI.out.2.2.2.2⟩
    have HCW := hide CW
    have hz := zeroW
    obtain ⟨Z, HZ⟩ : ∃ Z, Hid (Wz = Z) := ⟨_, rfl⟩
    rw [HZ.out] at hz
    have hzl : Z.length = 195 := by rw [← HZ.out]; rfl
    have hze : ¬ Z = [] := fun h => by rw [h] at hzl; simp at hzl
    clear hi CW HWI
    go_enter Tryd.func13, Tryd.ntmps13
    go_wp2_with fail
    refine HCW.out.mono ?_
    rintro e w1 ⟨⟨A, rfl, hA, hAT⟩, hb1⟩
    have HA := hide hA
    have HAT : Hid (A.take T.length = T) := hAT
    have L1 : Hid (Below N w w1) := (show Below N w w1 by rw [← HNw.out]; exact hb1)
    obtain ⟨Y, HY⟩ : ∃ Y, Hid (WC lo h A T.length = Y) := ⟨_, rfl⟩
    have hyl : Y.length = 195 := by rw [← HY.out]; exact WC_len hA
    have HYO : Hid (∀ u ∈ Y, u.oneCell' = true) := (show ∀ u ∈ Y, u.oneCell' = true by rw [← HY.out]; exact WC_one _ _ _ _)
    have BN := Blk.new w1 50 Z
    obtain ⟨D, HD⟩ : ∃ D, Hid (w1.heap.size = D) := ⟨_, rfl⟩
    rw [HD.out] at BN
    have hND : N ≤ D := by rw [← HD.out, ← HNw.out]; exact hb1.size
    clear hb1 hA hAT
    simp only [HY.out]
    go_wp2_with (first
      | (rw [HD.out]; refine wpList_store_blk rfl 50 _ _ rfl D Z Y 50 rfl rfl BN (by rw [hyl, hzl]) (by rw [hyl]; exact Tryd.sizeW) HYO.out ?_; intro w2 hb2 hu2)
      | fail)
    have L2 : Hid (Below N w w2) := (L1.out.trans ((Below.refl _ _).alloc (by rw [HD.out]; exact hND) _)).trans (hu2.below hND (by simp [HD.out]; omega))
    have L2w : Hid (Below w.heap.size w w2) := (show Below _ _ _ by rw [HNw.out]; exact L2.out)
    have hlt : T.length ≤ 40 := HLN.out
    have hBD : Blk w2 D 50 (WC lo h A T.length) := by rw [HY.out]; exact hb2
    have HBD := hide hBD
    have T2 : Hid (Tabs w2) := HT.out.kept (L2.out.mono HNT.out)
    have R2 := hide (RL.out.kept L2w.out)
    have hr0 := WC_range0 hBD
    refine (aside_any D lo h T.length A w2 hBD).mono ?_
    rintro e w3 ⟨rfl, hw3⟩
    subst w3
    have HIL : Hid (∀ t ∈ A.take T.length, t.a ≤ t.b ∧ t.b ≤ L.length) := (show ∀ t ∈ A.take T.length, t.a ≤ t.b ∧ t.b ≤ L.length by
      rw [HAT.out]
      intro t ht
      have := HIN.out t ht
      exact ⟨by omega, by rw [HN.out]; exact this.2.2⟩)
    have S2 : Hid (N ≤ w2.heap.size) := (show N ≤ w2.heap.size by rw [← HNw.out]; exact L2w.out.size)
    have HHT := hide hlt
    have HGW : Hid (pw = (if 0 < lo then [root nd em (seg L lo h)] else []) ++ T.reverse.map (rt L)) := HP0.out.symm
    clear hb2 hu2 BN hBD
    by_cases h0 : 0 < lo
    · rw [decide_eq_true h0]
      have HLO : Hid ((if 0 < lo then [root nd em (seg L lo h)] else []) = [root nd em (seg L lo h)]) := if_pos h0
      go_wp2_with (first
        | (refine wpList_load_mid rfl 45 _ rfl D 0 rfl [.int .i64 (lo : Int), .int .i64 (h : Int)] _ hr0 Tryd.underlying45 rfl Tryd.sizePt ?_)
        | fail)
      refine (ptroot_any lo h _ L (by have := HLH.out; omega) (by rw [HN.out]; exact HLH.out.2.2) w2 T2.out R2.out).mono ?_
      rintro e w4 ⟨rfl, hb4⟩
      obtain ⟨x, HX⟩ : ∃ x, Hid (root nd em (seg L lo h) = x) := ⟨_, rfl⟩
      rw [HX.out]
      have HB4 := hide hb4
      obtain ⟨w5, hr5, hg5, hrd5⟩ := hash_new w4 x
      have HG5 := hide hg5
      have R5 := hide hrd5
      have S4 : Hid (N ≤ w4.heap.size) := (show N ≤ w4.heap.size from Nat.le_trans S2.out hb4.size)
      clear hr0 hb4 hg5 hrd5
      go_wp2_with (first
        | (refine wpList_bslice rfl 22 1 _ rfl (.slice (some ⟨w4.heap.size, 0, none⟩) 1 1) w5 (by simp [execOp, Act.eval, hr5]) ?_)
        | (at_builtin; refine wpList_append_G (E := HE) w5 rfl _ _ 22 22 rfl N 30 (HV zh) 32 Tryd.underlying22 Tryd.infoZ (by kernel_rfl) (.slice none 0 0) [] rfl (ownG_nil _ _ _) (.slice (some ⟨w4.heap.size, 0, none⟩) 1 1) [x] rfl R5.out 30 Tryd.underlying22 (by simp) (by simp [maxLen]) (Nat.le_trans S4.out HG5.out.size) ?_; intro v6 w6 ho6 hg6)
        | fail)
      have hb6 : Below w5.heap.size w5 w6 := ⟨hg6.os, hg6.tape, hg6.output, hg6.size, fun k hk => hg6.block k hk (by simp [Value.ownBlock])⟩
      have L6 : Below w2.heap.size w2 w6 := (HB4.out.trans (Below.mono HG5.out HB4.out.size)).trans (hb6.mono (Nat.le_trans HB4.out.size HG5.out.size))
      have L6N : Below N w w6 := L2.out.trans (L6.mono S2.out)
      rw [List.nil_append] at ho6
      refine (others_any D lo h T.length N A v6 (.slice p n cp) [x] L HA.out (by have := HHT.out; omega) HIL.out (by simp) w6 (HT.out.kept (L6N.mono HNT.out)) HNT.out (Nat.le_trans S2.out L6.size) (HBD.out.kept L6) ho6 (R2.out.kept L6) (fun b hb hib => by
        have h1 := (ho6.block hb).1
        have h2 := RL.out.inB_lt hib
        rw [HNw.out] at h2
        omega)).mono ?_
      rintro e w7 ⟨⟨v', rfl, ho⟩, hc7⟩
      go_wp2_with fail
      refine bodyPost_ret (results_tmp2 rfl _ _ _) rfl ?_
      refine ⟨⟨v', rfl, ?_⟩, ?_⟩
      · rw [HNw.out, HGW.out, HLO.out, HX.out]
        rw [HAT.out] at ho
        exact ho
      · rw [HNw.out]
        exact L6N.trans (hc7.below (Nat.le_trans S2.out L6.size) (fun k hk hh => by have := (ho6.block hh).1; omega))
    · rw [decide_eq_false h0]
      have HLO : Hid ((if 0 < lo then [root nd em (seg L lo h)] else []) = []) := if_neg h0
      go_wp2_with fail
      refine (others_any D lo h T.length N A (.slice none 0 0) (.slice p n cp) [] L HA.out (by have := HHT.out; omega) HIL.out (by simp) w2 T2.out HNT.out S2.out HBD.out (ownG_nil _ _ _) R2.out (fun b hb => by cases hb)).mono ?_
      rintro e w3 ⟨⟨v', rfl, ho⟩, hc3⟩
      go_wp2_with fail
      refine bodyPost_ret (results_tmp2 rfl _ _ _) rfl ?_
      refine ⟨⟨v', rfl, ?_⟩, ?_⟩
      · rw [HNw.out, HGW.out, HLO.out]
        rw [HAT.out] at ho
        exact ho
      · rw [HNw.out]
        exact L2.out.trans ((none_chg hc3).mono S2.out)
  · rw [if_neg hi] at HP0
    rw [decide_eq_false hi]
    go_enter Tryd.func13, Tryd.ntmps13
    by_cases q1 : m < 1
    · go_wp2_with fail
      refine bodyPost_ret (results_tmp2 rfl _ _ _) rfl ?_
      exact ⟨⟨_, rfl, by rw [← HP0.out]; exact ownG_nil _ _ _⟩, Below.refl _ _⟩
    · have q2 : (n : Int) < m := by omega
      clear hi
      go_wp2_with fail
      refine bodyPost_ret (results_tmp2 rfl _ _ _) rfl ?_
      exact ⟨⟨_, rfl, by rw [← HP0.out]; exact ownG_nil _ _ _⟩, Below.refl _ _⟩
#print axioms grown_any
end Go.Proofs.YtfclmjfbcmjfbaaDoor

/-
  proof.Climb and proof.Check: what the calls do.
-/
namespace Go.Proofs.YtfclmjfbcmjfbaaDoor
open Go.RowKit Go.Shelf
attribute [local go_sem] Oper.semAt_some
def climbC (n i : Int) (x : Hs) (p : List Hs) : Hs × Bool := if 0 ≤ i ∧ i < n ∧ n ≤ 1099511627776 then (if p.length = (wayP 40 0 n.toNat i.toNat true).1.length then (climbW (wayP 40 0 n.toNat i.toNat true).1.reverse x p, true) else (zh, false)) else (zh, false)
set_option maxHeartbeats 4000000 in
set_option maxRecDepth 100000 in
theorem climb_none (n i : Int) (x : Hs) (pv : Value) (p : List Hs) (hni : ¬ (0 ≤ i ∧ i < n ∧ n ≤ 1099511627776)) (w : World) (hP : RdG HE w pv p) :
    Calls Tryd.prog 16 #[.int .i64 n, .int .i64 i, HV x, pv] w fun e w' => e = .returned (.tuple #[HV zh, .bool false]) ∧ Below w.heap.size w w' := by
  obtain ⟨pa, cp, rfl⟩ := hP.slice
  obtain ⟨m, HM⟩ : ∃ n, Hid (p.length = n) := ⟨_, rfl⟩
  rw [HM.out] at hP ⊢
  obtain ⟨N, HNw⟩ : ∃ N, Hid (w.heap.size = N) := ⟨_, rfl⟩
  clear hP
  go_enter Tryd.func16, Tryd.ntmps16
  go_upto_region 1 with fail
  obtain ⟨w0, hw0⟩ : ∃ z, z = ((w.alloc (.cells (By x.1).toArray 30 (0, 0))).alloc (.cells [.slice pa m cp].toArray 22 (0, 0))).alloc (.cells (By zh.1).toArray 30 (0, 0)) := ⟨_, rfl⟩
  change Code.wp _ _ _ _ (((w.alloc (.cells (By x.1).toArray 30 (0, 0))).alloc (.cells [.slice pa m cp].toArray 22 (0, 0))).alloc (.cells (By zh.1).toArray 30 (0, 0)))
  rw [← hw0, HNw.out]
  obtain ⟨b0, b1, b2, ln⟩ := boxes9 HNw hw0
  have B2 := hide b2
  have LN := hide ln
  clear hw0 b0 b1 b2 ln
  have hend : ∀ w2, Blk w2 (N + 1 + 1) 30 (By zh.1) → But (N + 1 + 1) w0 w2 → Below w.heap.size w w2 := fun w2 _ hu => by
    rw [HNw.out]
    exact LN.out.trans (hu.below (by omega) (by have := B2.out.lt; omega))
  have HE := hide hend
  clear hend
  by_cases q1 : i < 0
  · go_wp2_with (first
      | (refine wpList_store_blk rfl 30 _ _ rfl (N + 1 + 1) (By zh.1) (By zh.1) 30 rfl rfl B2.out (by rw [By_len]) (Tryd.sizeH zh) (By_one _) ?_; intro w2 hb2 hu2)
      | fail)
    exact bodyPost_ret (results_peaks rfl _ _ (N + 1 + 1) 30 (By zh.1) (.bool false) rfl rfl hb2 Tryd.underlying30 rfl (Tryd.sizeH zh)) rfl ⟨rfl, HE.out w2 hb2 hu2⟩
  · by_cases q2 : n ≤ i
    · go_wp2_with (first
        | (refine wpList_store_blk rfl 30 _ _ rfl (N + 1 + 1) (By zh.1) (By zh.1) 30 rfl rfl B2.out (by rw [By_len]) (Tryd.sizeH zh) (By_one _) ?_; intro w2 hb2 hu2)
        | fail)
      exact bodyPost_ret (results_peaks rfl _ _ (N + 1 + 1) 30 (By zh.1) (.bool false) rfl rfl hb2 Tryd.underlying30 rfl (Tryd.sizeH zh)) rfl ⟨rfl, HE.out w2 hb2 hu2⟩
    · have q3 : (1099511627776 : Int) < n := by omega
      clear hni
      go_wp2_with (first
        | (refine wpList_store_blk rfl 30 _ _ rfl (N + 1 + 1) (By zh.1) (By zh.1) 30 rfl rfl B2.out (by rw [By_len]) (Tryd.sizeH zh) (By_one _) ?_; intro w2 hb2 hu2)
        | fail)
      exact bodyPost_ret (results_peaks rfl _ _ (N + 1 + 1) 30 (By zh.1) (.bool false) rfl rfl hb2 Tryd.underlying30 rfl (Tryd.sizeH zh)) rfl ⟨rfl, HE.out w2 hb2 hu2⟩
set_option maxHeartbeats 4000000 in
set_option maxRecDepth 100000 in
theorem climb_other (n i : Nat) (x : Hs) (pv : Value) (p : List Hs) (hi : i < n) (hn : n ≤ 1099511627776) (hl : ¬ p.length = (wayP 40 0 n i true).1.length) (w : World) (hT : Tabs w) (hP : RdG HE w pv p) :
    Calls Tryd.prog 16 #[.int .i64 (n : Int), .int .i64 (i : Int), HV x, pv] w fun e w' => e = .returned (.tuple #[HV zh, .bool false]) ∧ Below w.heap.size w w' := by
  obtain ⟨pa, cp, rfl⟩ := hP.slice
  obtain ⟨N, HNw⟩ : ∃ N, Hid (w.heap.size = N) := ⟨_, rfl⟩
  have HNT : Hid (2 ≤ N) := (show 2 ≤ N by rw [← HNw.out]; exact hT.size)
  have HT := hide hT
  have q1 : ¬ (i : Int) < 0 := by omega
  have q2 : ¬ (n : Int) ≤ (i : Int) := by omega
  have q3 : ¬ (1099511627776 : Int) < (n : Int) := by omega
  have HLN := hide (way_len 40 40 0 n i true (Nat.zero_le _) hi (by omega))
  have HCW := hide (fun w => wayFrom_any n i true hi hn w)
  obtain ⟨T, lo, h, HW⟩ : ∃ T lo h, Hid (wayP 40 0 n i true = (T, lo, h)) := ⟨_, _, _, rfl⟩
  rw [HW.out] at HCW HLN hl
  obtain ⟨m, HM⟩ : ∃ n, Hid (p.length = n) := ⟨_, rfl⟩
  rw [HM.out] at hP hl ⊢
  obtain ⟨c, HC⟩ : ∃ n, Hid (T.length = n) := ⟨_, rfl⟩
  simp only [HC.out] at hl HCW
  have q4 : ¬ (m : Int) = (c : Int) := by omega
  have hz := zeroW
  obtain ⟨Z, HZ⟩ : ∃ Z, Hid (Wz = Z) := ⟨_, rfl⟩
  rw [HZ.out] at hz
  have hzl : Z.length = 195 := by rw [← HZ.out]; rfl
  have hze : ¬ Z = [] := fun h => by rw [h] at hzl; simp at hzl
  clear hP hT hl
  go_enter Tryd.func16, Tryd.ntmps16
  go_upto_region 1 with fail
  obtain ⟨w0, hw0⟩ : ∃ z, z = ((w.alloc (.cells (By x.1).toArray 30 (0, 0))).alloc (.cells [.slice pa m cp].toArray 22 (0, 0))).alloc (.cells (By zh.1).toArray 30 (0, 0)) := ⟨_, rfl⟩
  change Code.wp _ _ _ _ (((w.alloc (.cells (By x.1).toArray 30 (0, 0))).alloc (.cells [.slice pa m cp].toArray 22 (0, 0))).alloc (.cells (By zh.1).toArray 30 (0, 0)))
  rw [← hw0, HNw.out]
  obtain ⟨b0, b1, b2, ln⟩ := boxes9 HNw hw0
  have B1 := hide b1
  have B2 := hide b2
  have LN := hide ln
  clear hw0 b0 b1 b2 ln
  go_wp2_with fail
  refine (HCW.out w0).mono ?_
  rintro e w1 ⟨⟨A, rfl, hA, -⟩, hb1⟩
  obtain ⟨Y, HY⟩ : ∃ Y, Hid (WC lo h A c = Y) := ⟨_, rfl⟩
  have hyl : Y.length = 195 := by rw [← HY.out]; exact WC_len hA
  have HYO : Hid (∀ u ∈ Y, u.oneCell' = true) := (show ∀ u ∈ Y, u.oneCell' = true by rw [← HY.out]; exact WC_one _ _ _ _)
  have HYC : Hid (Y[194]? = some (.int .i64 (c : Int))) := (show _ = _ by rw [← HY.out]; exact WC_count hA)
  have BN := Blk.new w1 50 Z
  obtain ⟨D, HD⟩ : ∃ D, Hid (w1.heap.size = D) := ⟨_, rfl⟩
  rw [HD.out] at BN
  have hND : w0.heap.size ≤ D := by rw [← HD.out]; exact hb1.size
  have P1 := hide (B1.out.kept hb1)
  have P2 := hide (B2.out.kept hb1)
  have L1 : Hid (Below N w w1) := LN.out.trans (hb1.mono (by have := B2.out.lt; omega))
  have hlt2 := B2.out.lt
  clear hb1 hA
  simp only [HY.out]
  go_wp2_with (first
    | (rw [HD.out]; refine wpList_store_blk rfl 50 _ _ rfl D Z Y 50 rfl rfl BN (by rw [hyl, hzl]) (by rw [hyl]; exact Tryd.sizeW) HYO.out ?_; intro w2 hb2 hu2; have c0 : w2.cell? ⟨D, 194, none⟩ = some (.int .i64 (c : Int)) := hb2.cell HYC.out; have c1 : w2.cell? ⟨N + 1, 0, none⟩ = some (.slice pa m cp) := ((P1.out.alloc _).but hu2 (by omega)).cell (j := 0) rfl; have P3 : Hid (Blk w2 (N + 1 + 1) 30 (By zh.1)) := (P2.out.alloc _).but hu2 (by omega))
    | (refine wpList_store_blk rfl 30 _ _ rfl (N + 1 + 1) (By zh.1) (By zh.1) 30 rfl rfl P3.out (by rw [By_len]) (Tryd.sizeH zh) (By_one _) ?_; intro w3 hb3 hu3)
    | fail)
  refine bodyPost_ret (results_peaks rfl _ _ (N + 1 + 1) 30 (By zh.1) (.bool false) rfl rfl hb3 Tryd.underlying30 rfl (Tryd.sizeH zh)) rfl ⟨rfl, ?_⟩
  rw [HNw.out]
  have hs2 := hu2.size
  exact ((L1.out.trans ((Below.refl _ _).alloc (by rw [HD.out]; omega) _)).trans (hu2.below (by omega) (by simp [HD.out]; omega))).trans (hu3.below (by omega) (by have := P3.out.lt; omega))
/-- What is kept while a path is climbed. -/
structure CI (w4 : World) (N E : Nat) (F : List Tn) (x : Hs) (p : List Hs) (B : Nat) (pre : List (Nat × Tn)) (X : World) : Prop where
  x : Blk X E 30 (By (climbW (F.take pre.length) x (p.take pre.length)).1)
  r : Blk X (N + 1 + 1) 30 (By zh.1)
  c : Chg (fun k => k = E ∨ w4.heap.size ≤ k) w4 X
  b : w4.heap.size < B
theorem CI.chg {w4 : World} {N E : Nat} {F : List Tn} {x : Hs} {p : List Hs} {B : Nat} {pre : List (Nat × Tn)} {X Y : World} (h : CI w4 N E F x p B pre X) {G : Nat → Prop} (hc : Chg G X Y) (hG : ∀ k, k < w4.heap.size → ¬ G k) (hN : N + 1 + 1 < w4.heap.size) (hE : E < w4.heap.size) : CI w4 N E F x p B pre Y :=
  ⟨h.x.chg hc (hG _ hE), h.r.chg hc (hG _ hN), h.c.then hc (fun i hi hg => absurd hg (hG i hi)), h.b⟩
theorem RdG.base {α : Type} {E : Enc α} {w : World} {a : Option Addr} {n cap : Nat} {L : List α} (h : RdG E w (.slice a n cap) L) : 0 < n → ∃ b off, a = some ⟨b, off, none⟩ ∧ b < w.heap.size ∧ ∀ j (hj : j < L.length), w.rangeAt b (off + j * E.n) (E.c L[j]) := h.nth
set_option maxHeartbeats 8000000 in
set_option maxRecDepth 100000 in
theorem climb_some (n i : Nat) (x : Hs) (pv : Value) (p : List Hs) (hi : i < n) (hn : n ≤ 1099511627776) (hl : p.length = (wayP 40 0 n i true).1.length) (w : World) (hT : Tabs w) (hP : RdG HE w pv p) :
    Calls Tryd.prog 16 #[.int .i64 (n : Int), .int .i64 (i : Int), HV x, pv] w fun e w' => e = .returned (.tuple #[HV (climbW (wayP 40 0 n i true).1.reverse x p), .bool true]) ∧ Below w.heap.size w w' := by
  obtain ⟨pa, cp, rfl⟩ := hP.slice
  obtain ⟨N, HNw⟩ : ∃ N, Hid (w.heap.size = N) := ⟨_, rfl⟩
  have HNT : Hid (2 ≤ N) := (show 2 ≤ N by rw [← HNw.out]; exact hT.size)
  have HT := hide hT
  have q1 : ¬ (i : Int) < 0 := by omega
  have q2 : ¬ (n : Int) ≤ (i : Int) := by omega
  have q3 : ¬ (1099511627776 : Int) < (n : Int) := by omega
  have HLN := hide (way_len 40 40 0 n i true (Nat.zero_le _) hi (by omega))
  have HCW := hide (fun w => wayFrom_any n i true hi hn w)
  obtain ⟨T, lo, hh, HW⟩ : ∃ T lo h, Hid (wayP 40 0 n i true = (T, lo, h)) := ⟨_, _, _, rfl⟩
  rw [HW.out] at HCW HLN hl ⊢
  have RP := hide hP
  obtain ⟨c, HC⟩ : ∃ n, Hid (T.length = n) := ⟨_, rfl⟩
  simp only [HC.out] at hl HCW HLN
  have HPL := hide hl
  rw [hl] at RP ⊢
  simp only
  have hz := zeroW
  obtain ⟨Z, HZ⟩ : ∃ Z, Hid (Wz = Z) := ⟨_, rfl⟩
  rw [HZ.out] at hz
  have hzl : Z.length = 195 := by rw [← HZ.out]; rfl
  have hze : ¬ Z = [] := fun h => by rw [h] at hzl; simp at hzl
  clear hP hT hl
  obtain ⟨N0, -⟩ : ∃ n : Nat, True := ⟨9, trivial⟩
  refine (callsIn_wide (n := N0)).1 ?_
  change CallsIn _ _ _ _ #[.int .i64 (n : Int), .int .i64 (i : Int), .agg (By x.1).toArray, .slice pa c cp] _ _
  refine callsIn_of_wp_marks Tryd.func16 rfl trivial ?_ rfl
  simp only [Tryd.ntmps16, List.size_toArray, List.length_cons, List.length_nil, Nat.reduceAdd, Nat.reduceSub, Array.replicate_succ, Array.replicate_zero, List.push_toArray, List.append_toArray, List.nil_append, List.cons_append]
  gi_wp2_with fail
  obtain ⟨w0, hw0⟩ : ∃ z, z = ((w.alloc (.cells (By x.1).toArray 30 (0, 0))).alloc (.cells [.slice pa c cp].toArray 22 (0, 0))).alloc (.cells (By zh.1).toArray 30 (0, 0)) := ⟨_, rfl⟩
  change Fence.wide.fn _ ∧ _ ∧ CallsIn _ _ _ _ _ (((w.alloc (.cells (By x.1).toArray 30 (0, 0))).alloc (.cells [.slice pa c cp].toArray 22 (0, 0))).alloc (.cells (By zh.1).toArray 30 (0, 0))) _
  rw [← hw0, HNw.out]
  obtain ⟨b0, b1, b2, ln⟩ := boxes9 HNw hw0
  have B0 := hide b0
  have B1 := hide b1
  have B2 := hide b2
  have LN := hide ln
  clear hw0 b0 b1 b2 ln
  refine wide_call (HCW.out w0) ?_
  rintro e w1 ⟨⟨A, rfl, hA, hAT⟩, hb1⟩
  have HAT : Hid (A.take c = T) := hAT
  have HA := hide hA
  obtain ⟨Y, HY⟩ : ∃ Y, Hid (WC lo hh A c = Y) := ⟨_, rfl⟩
  have hyl : Y.length = 195 := by rw [← HY.out]; exact WC_len hA
  have HYO : Hid (∀ u ∈ Y, u.oneCell' = true) := (show ∀ u ∈ Y, u.oneCell' = true by rw [← HY.out]; exact WC_one _ _ _ _)
  have HYC : Hid (Y[194]? = some (.int .i64 (c : Int))) := (show _ = _ by rw [← HY.out]; exact WC_count hA)
  have BN := Blk.new w1 50 Z
  obtain ⟨D, HD⟩ : ∃ D, Hid (w1.heap.size = D) := ⟨_, rfl⟩
  rw [HD.out] at BN
  have hND : w0.heap.size ≤ D := by rw [← HD.out]; exact hb1.size
  have P0 := hide (B0.out.kept hb1)
  have P1 := hide (B1.out.kept hb1)
  have P2 := hide (B2.out.kept hb1)
  have L1 : Hid (Below N w w1) := LN.out.trans (hb1.mono (by have := B2.out.lt; omega))
  have hlt2 := B2.out.lt
  clear hb1 hA hAT
  simp only [HY.out]
  have BE := fun (W : World) => Blk.new W 30 (By zh.1)
  have HBE := hide BE
  clear BE
  gi_wp2_with (first
    | (rw [HD.out]; refine wpListIn_store_blk rfl 50 _ _ rfl D Z Y 50 rfl rfl BN (by rw [hyl, hzl]) (by rw [hyl]; exact Tryd.sizeW) HYO.out ?_; intro w2 hb2 hu2; have c0 : w2.cell? ⟨D, 194, none⟩ = some (.int .i64 (c : Int)) := hb2.cell HYC.out; have c1 : w2.cell? ⟨N + 1, 0, none⟩ = some (.slice pa c cp) := ((P1.out.alloc _).but hu2 (by omega)).cell (j := 0) rfl; have hr0 : w2.rangeAt N 0 (By x.1) := ((P0.out.alloc _).but hu2 (by omega)).range0)
    | (refine wpListIn_load_row9 rfl 30 _ rfl N 0 rfl (By x.1) _ hr0 Tryd.underlying30 rfl (Tryd.sizeH x) ?_)
    | (refine wpListIn_store_blk rfl 30 _ _ rfl w2.heap.size (By zh.1) (By x.1) 30 rfl rfl (HBE.out w2) (by rw [By_len, By_len]) (Tryd.sizeH x) (By_one _) ?_; intro w3 hb3 hu3)
    | fail)
  have L2 : Hid (Below N w w2) := (L1.out.trans ((Below.refl _ _).alloc (by rw [HD.out]; omega) _)).trans (hu2.below (by omega) (by simp [HD.out]; omega))
  obtain ⟨E, HEw⟩ : ∃ E, Hid (w2.heap.size = E) := ⟨_, rfl⟩
  rw [HEw.out] at hb3 hu3 ⊢
  have hDE : D < E := by rw [← HEw.out]; exact hb2.lt
  have L3 : Hid (Below N w w3) := (L2.out.trans ((Below.refl _ _).alloc (by rw [HEw.out]; omega) _)).trans (hu3.below (by omega) (by simp [HEw.out]; omega))
  have BD3 : Blk w3 D 50 (WC lo hh A c) := by rw [HY.out]; exact (hb2.alloc _).but hu3 (by omega)
  have BP3 : Blk w3 (N + 1) 22 [.slice pa c cp] := (((P1.out.alloc _).but hu2 (by omega)).alloc _).but hu3 (by omega)
  have BR3 : Blk w3 (N + 1 + 1) 30 (By zh.1) := (((P2.out.alloc _).but hu2 (by omega)).alloc _).but hu3 (by omega)
  refine wide_call (up_any D w3) ?_
  rintro e w4 ⟨rfl, hw4⟩
  obtain ⟨U, HU⟩ : ∃ U, Hid (w3.heap.size = U) := ⟨_, rfl⟩
  rw [HU.out]
  have hb4 : Below w3.heap.size w3 w4 := by rw [hw4]; exact (Below.refl _ _).alloc (Nat.le_refl _) _
  have BU : Hid (Blk w4 U 66 [.pointer (some ⟨D, 0, none⟩)]) := (show Blk _ _ _ _ by rw [hw4, ← HU.out]; exact Blk.new w3 66 [.pointer (some ⟨D, 0, none⟩)])
  have S4 : Hid (w4.heap.size = U + 1) := (show _ = _ by rw [hw4]; simp [HU.out])
  have hEU : E < U := by rw [← HU.out]; exact hb3.lt
  have BD4 := hide (BD3.kept hb4)
  have BP4 := hide (BP3.kept hb4)
  have BR4 := hide (BR3.kept hb4)
  have BX4 := hide (hb3.kept hb4)
  have L4 : Hid (Below N w w4) := L3.out.trans (hb4.mono (by rw [HU.out]; omega))
  have L4w : Hid (Below w.heap.size w w4) := (show Below _ _ _ by rw [HNw.out]; exact L4.out)
  have RP4 := hide (RP.out.kept L4w.out)
  have T4 : Hid (Tabs w4) := HT.out.kept (L4.out.mono HNT.out)
  have hs4 := S4.out
  have HTR : Hid (T.reverse.length = c) := (show _ = _ by rw [List.length_reverse]; exact HC.out)
  clear hw4 hb4 BD3 BP3 BR3 hb3 hu3 hb2 hu2 c0 c1 hr0 BN
  gi_wp2_with fail
  refine wp_ranged4 (n := N0) (gf := 39) (lb := #[.pointer (some ⟨U, 0, none⟩)]) rfl (enters_of Tryd.func39 (by kernel_rfl) rfl) (encs := tbV) (fun _ => rfl) (R := upR (A.take c).reverse) (S := fun xs => xs.length = (A.take c).reverse.length) (CI w4 N E T.reverse x p) (fun _ _ _ _ => False) ?ip (fun _ _ _ _ _ _ _ _ _ _ h => h) ?ib (fun _ _ _ _ _ h _ => h) ?h0 (G := fun k => k = E)
    (up1_hands U D lo hh c A HA.out (by have := HLN.out; omega) w4 BU.out BD4.out ?c1 ?c2 ?c3)
    (fun x_ h => { tmps := #[.int .i64 (n : Int), .int .i64 (i : Int), .agg (By x.1).toArray, .slice pa c cp, undef, undef, .pointer (some ⟨N, 0, none⟩), .pointer (some ⟨N + 1, 0, none⟩), .pointer (some ⟨N + 1 + 1, 0, none⟩), .bool false, .pointer (some ⟨D, 0, none⟩), .pointer (some ⟨E, 0, none⟩), .int .i64 (x_.1 : Int), .pointer (some ⟨h, 0, none⟩), .int .i64 (i : Int), .bool false, .bool false, .int .i64 (i : Int), .int .i64 (n : Int), .bool false, .bool false, .bool false, .int .i64 (n : Int), .bool false, .bool false, undef, .int .i64 (n : Int), .int .i64 (i : Int), .agg Y.toArray, .slice pa c cp, .int .i64 (c : Int), .pointer (some ⟨D, 194, none⟩), .int .i64 (c : Int), .bool false, undef, HV x, .func (.func 39) #[] #[.pointer (some ⟨U, 0, none⟩)], .int .i64 (x_.1 : Int), .agg (TE.c x_.2).toArray, undef, undef, undef, undef, undef, undef, undef, undef], defers := [] }) (fun x h X => Blk X h 47 (TE.c x.2)) ?ap ?assign ?body ?done (fun _ _ _ _ _ _ _ h _ => h.elim)
  case c1 => rintro k h; omega
  case c2 => intro h; omega
  case c3 => intro h; omega
  case ip =>
    intro B pre X k o0 o hk hX hn hI
    exact hI.chg (chg_put (G := fun j => j = k) rfl o) (fun j hj e => by omega) (by omega) (by omega)
  case ib =>
    intro B pre X Y hI hb
    exact hI.chg (G := fun _ => False) (Chg.of_below hb) (fun _ _ h => h) (by omega) (by omega)
  case h0 =>
    intro X hX hlt
    exact ⟨by simpa [climbW_nil] using BX4.out.kept hX, BR4.out.kept hX, Chg.of_below hX, hlt⟩
  case ap =>
    intro x h X k o0 o hk hX hn hB
    exact hB.put10 hX hn
  case assign =>
    intro m l' x X K' hle hK
    have BW := Blk.new X 47 (TE.c Tz)
    simp only [tbV]
    gi_wp2_with (first
      | (refine wpListIn_store_blk rfl 47 _ _ rfl X.heap.size (TE.c Tz) (TE.c x.2) 47 rfl rfl BW rfl Tryd.sizeTn (TE.one _) ?_; intro w5 hb5 hu5)
      | fail)
    exact hK w5 (((Below.refl _ _).alloc (Nat.le_refl _) _).trans (hu5.below (Nat.le_refl _) (by simp))) hb5
  case body =>
    rintro m l' B pre ⟨r, t⟩ h X hwB hBh hle hI hR hA
    obtain ⟨hR1, hR2⟩ := hR
    simp only at hR1 hR2 hA
    subst hR1
    rw [HAT.out] at hR2
    obtain ⟨r, HRL⟩ : ∃ r, Hid (pre.length = r) := ⟨_, rfl⟩
    have ix := hI.x
    rw [HRL.out] at hR2 ix ⊢
    have hrT : r < T.reverse.length := (List.getElem?_eq_some_iff.1 hR2).1
    have hrc : r < c := by rw [← HTR.out]; exact hrT
    have hrp : r < p.length := by rw [HPL.out]; exact hrc
    have hRt : T.reverse[r] = t := by rw [List.getElem?_eq_getElem hrT] at hR2; exact Option.some.inj hR2
    have HST := hide (climbW_step (F := T.reverse) (p := p) hrT hrp x)
    rw [hRt] at HST
    obtain ⟨b, off, rfl, hlb, hx9⟩ := (RP4.out.chg hI.c (by
      intro b' hb' h
      have hbl := RP.out.inB_lt hb'
      rw [HNw.out] at hbl
      rcases h with h | h <;> omega)).nth (by omega)
    have hrk : X.rangeAt b (off + r * 32) (By p[r].1) := hx9 r hrp
    have hlb9 := hlb
    generalize p[r] = z at hrk HST
    generalize climbW (T.reverse.take r) x (p.take r) = y at ix HST
    have IX := hide ix
    have IR := hide hI.r
    have IC := hide hI.c
    have HAf := hide hA
    have B1r := hide (BP4.out.chg hI.c (by rintro (h | h) <;> omega))
    have TW : Hid (Tabs X) := T4.out.kept (hI.c.below (by have := HNT.out; omega) (fun k hk h => by have := HNT.out; rcases h with h | h <;> omega))
    have hrci : (r : Int) < (c : Int) := by omega
    clear hI hA hR2 hx9 ix hRt hlb
    gi_wp2_with fail
    refine wpIn_region_tails op_in Tryd.mixed (by decide +kernel) (KS (fun i_ => match i_ with | 0 => .val (.agg (TE.c t).toArray) | 1 => .val (HV y) | 2 => .val (.slice (some ⟨b, off, none⟩) c cp) | 3 => .val (.int .i64 (r : Int)) | 4 => .val (.pointer (some ⟨b, off + r * 32, none⟩)) | 5 => .val (HV z) | 6 => .val (HV (jn t y z)) | _ => .free)) 47 rfl (by decide +kernel) 7 (by decide) (by decide +kernel) (KS_mono _) ?_ ?_
    · refine AllFrom.cons ⟨rfl, fun a' w' hg hk hd => ?_⟩ (AllFrom.cons ⟨rfl, fun a' w' hg hk hd => ?_⟩ (AllFrom.cons ⟨rfl, fun a' w' hg hk hd => ?_⟩ (AllFrom.cons ⟨rfl, fun a' w' hg hk hd => ?_⟩ (AllFrom.cons ⟨rfl, fun a' w' hg hk hd => ?_⟩ (AllFrom.cons ⟨rfl, fun a' w' hg hk hd => ?_⟩ (AllFrom.cons ⟨rfl, fun a' w' hg hk hd => ?_⟩ AllFrom.nil))))))
      · skip
        intro Q
        have e13 : a'.eval (.tmp 13) = .pointer (some ⟨h, 0, none⟩) := hk.at 13 (by decide +kernel)
        exact wp_load_row 47 _ rfl _ _ e13 (TE.c t) _ ((HAf.out.kept hg).range0) Tryd.underlying47 rfl (Tryd.sizeTn) (KS_mkv rfl rfl)
      · skip
        intro Q
        have e11 : a'.eval (.tmp 11) = .pointer (some ⟨E, 0, none⟩) := hk.at 11 (by decide +kernel)
        exact wp_load_row 30 _ rfl _ _ e11 (By (y).1) _ ((IX.out.kept hg).range0) Tryd.underlying30 rfl (Tryd.sizeH _) (KS_mkv rfl rfl)
      · skip
        intro Q
        have e7 : a'.eval (.tmp 7) = .pointer (some ⟨N + 1, 0, none⟩) := hk.at 7 (by decide +kernel)
        have hc := (B1r.out.kept hg).cell (j := 0) rfl
        clear hd hk
        exact wp_value (.slice (some ⟨b, off, none⟩) c cp) (by simp only [execOp, e7]; go_simp) (KS_mkv rfl rfl)
      · skip
        intro Q
        have e12 : a'.eval (.tmp 12) = .int .i64 (r : Int) := hk.at 12 (by decide +kernel)
        exact wp_value _ (by simp only [execOp, e12]; rfl) (KS_mkv rfl rfl)
      · skip
        intro Q
        have e41 : a'.eval (.tmp 41) = .slice (some ⟨b, off, none⟩) c cp := KS_val (hd.val 2 41 (by decide +kernel)) rfl
        have e42 : a'.eval (.tmp 42) = .int .i64 (r : Int) := KS_val (hd.val 3 42 (by decide +kernel)) rfl
        clear hd hk
        exact wp_value (.pointer (some ⟨b, off + r * 32, none⟩)) (by simp only [execOp, e41, e42]; go_simp) (KS_mkv rfl rfl)
      · skip
        intro Q
        have e43 : a'.eval (.tmp 43) = .pointer (some ⟨b, off + r * 32, none⟩) := KS_val (hd.val 4 43 (by decide +kernel)) rfl
        exact wp_load_row 30 _ rfl _ _ e43 (By (z).1) _ (rangeAt_kept9 hrk hlb9 hg) Tryd.underlying30 rfl (Tryd.sizeH _) (KS_mkv rfl rfl)
      · skip
        intro Q
        have e39 : a'.eval (.tmp 39) = .agg (TE.c t).toArray := KS_val (hd.val 0 39 (by decide +kernel)) rfl
        have e40 : a'.eval (.tmp 40) = HV y := KS_val (hd.val 1 40 (by decide +kernel)) rfl
        have e44 : a'.eval (.tmp 44) = HV z := KS_val (hd.val 5 44 (by decide +kernel)) rfl
        refine wp_call 31 _ (run_enter 31 _ _ rfl (by kernel_rfl)) ?_
        simp only [List.map_toArray, List.map_nil, List.map_cons, e39, e40, e44]
        refine (join_any t y z _ (TW.out.gr hg)).mono ?_
        rintro e w5 ⟨rfl, hb5⟩
        exact ⟨_, rfl, KS_mkv rfl rfl, hb5⟩
    · intro a' w5 hsz hdf hk hall hg
      have e45 : a'.eval (.tmp 45) = HV (jn t y z) := KS_val (hall 6 _ 45 (by decide) rfl rfl) rfl
      have e11 : a'.eval (.tmp 11) = .pointer (some ⟨E, 0, none⟩) := hk.at 11 (by decide +kernel)
      refine ⟨rfl, op_in (fun c h => by cases h) (wp_store_blk 30 _ _ rfl E (By y.1) (By (jn t y z).1) 30 e11 e45 (IX.out.kept hg) (by rw [By_len, By_len]) (Tryd.sizeH _) (By_one _) ?_)⟩
      intro w6 hb6 hu6
      refine ⟨_, rfl, ?_⟩
      have hc6 : Chg (fun k => k = E) X w6 := (Chg.of_below hg).trans (Chg.of_but hu6 rfl)
      refine ⟨keeps_chg hc6 (fun k o hk ho => ?_), hc6.mono (fun i _ h => .inl h), ⟨?_, ?_, IC.out.then hc6 (fun i _ h => .inl h), hwB⟩⟩
      · subst hk
        have := IX.out.symm.trans ho
        cases this
        rfl
      · rw [List.length_append, List.length_singleton, HRL.out, HST.out]
        exact hb6
      · exact (IR.out.kept hg).but hu6 (by omega)
  case done =>
    rintro Dd B xs X hDd hDB hS hI hd
    have ix := hI.x
    rw [HAT.out] at hS
    rw [hS, List.take_length, List.take_of_length_le (by rw [HPL.out, HTR.out]; exact Nat.le_refl _)] at ix
    obtain ⟨y, HXy⟩ : ∃ y, Hid (climbW T.reverse x p = y) := ⟨_, rfl⟩
    rw [HXy.out] at ix
    have IX := hide ix
    have IR := hide hI.r
    have ic := hI.c
    clear ix hI
    gi_wp2_with (first
      | (refine wpListIn_load_row9 rfl 30 _ rfl E 0 rfl (By y.1) _ IX.out.range0 Tryd.underlying30 rfl (Tryd.sizeH y) ?_)
      | (refine wpListIn_store_blk rfl 30 _ _ rfl (N + 1 + 1) (By zh.1) (By y.1) 30 rfl rfl IR.out (by rw [By_len, By_len]) (Tryd.sizeH y) (By_one _) ?_; intro w6 hb6 hu6)
      | fail)
    have hD6 : w6.heap[Dd]? = some (.deferred (some [])) := (hu6.block Dd ((Array.getElem?_eq_some_iff.1 hd).1) (by omega)).trans hd
    refine ⟨by simp, .inl ⟨_, _, rfl, run_takeDeferred hD6, ?_⟩⟩
    have hp := chg_put (G := fun k => k = Dd) (W := w6) (l := Dd) rfl (.deferred none)
    refine ⟨_, results_peaks rfl _ _ (N + 1 + 1) 30 (By y.1) (.bool true) rfl rfl (hb6.chg hp (by omega)) Tryd.underlying30 rfl (Tryd.sizeH y), by rw [HXy.out]; rfl, ?_⟩
    rw [HNw.out]
    have h5 : Chg (fun k => N ≤ k) w4 X := ic.mono (fun i _ h => by rcases h with h | h <;> omega)
    have h6 : Chg (fun k => N ≤ k) X w6 := Chg.of_but hu6 (by show N ≤ N + 1 + 1; omega)
    have h7 := (h5.trans h6).trans (hp.mono (fun i _ h => by subst h; show N ≤ i; omega))
    exact L4.out.trans (h7.below (by omega) (fun k hk h => by omega))
theorem climb_any (n i : Int) (x : Hs) (pv : Value) (p : List Hs) (w : World) (hT : Tabs w) (hP : RdG HE w pv p) :
    Calls Tryd.prog 16 #[.int .i64 n, .int .i64 i, HV x, pv] w fun e w' => e = .returned (.tuple #[HV (climbC n i x p).1, .bool (climbC n i x p).2]) ∧ Below w.heap.size w w' := by
  unfold climbC
  by_cases h : 0 ≤ i ∧ i < n ∧ n ≤ 1099511627776
  · rw [if_pos h]
    obtain ⟨k, rfl⟩ : ∃ k : Nat, i = (k : Int) := ⟨i.toNat, by omega⟩
    obtain ⟨m, rfl⟩ : ∃ m : Nat, n = (m : Int) := ⟨n.toNat, by omega⟩
    rw [Int.toNat_natCast, Int.toNat_natCast]
    by_cases hl : p.length = (wayP 40 0 m k true).1.length
    · rw [if_pos hl]
      exact climb_some m k x pv p (by omega) (by omega) hl w hT hP
    · rw [if_neg hl]
      exact climb_other m k x pv p (by omega) (by omega) hl w hT hP
  · rw [if_neg h]
    exact climb_none n i x pv p h w hP
#print axioms climb_any
end Go.Proofs.YtfclmjfbcmjfbaaDoor
