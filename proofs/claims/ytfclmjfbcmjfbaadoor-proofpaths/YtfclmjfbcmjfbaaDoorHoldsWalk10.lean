/-
  indenturelaw10.ProofHolds: the walk.
-/
import Derived.Test.YtfclmjfbcmjfbaaDoorPfZ
import Derived.Test.YtfclmjfbcmjfbaaDoorGR10
namespace Go.Proofs.YtfclmjfbcmjfbaaDoor
open Go.RowKit
theorem wp_append_grow {P : Program} {w w1 : World} {o : Oper} {a : Act} {S : World → Value → Prop} {Q : Exit → Act → World → Prop} {s x : Operand} {t tx : TypeId} {v xv v' : Value} (hv : a.eval s = v) (hx : a.eval x = xv)
    (hr : (Builtin.append_ #[t, tx] o.type #[v, xv]).run P w = .ok v' w1) (hg : Below w.heap.size w w1) (hS : S w1 v') (ho : o.op = .call { callee := .builtin .append, args := #[s, x], argTypes := #[t, tx] } := by rfl) :
    o.wp P a w (fun a' w' => ∃ v, a' = a.put o.dst v ∧ S w' v ∧ Gr w w') Q := wp_append10 s x t tx ho hv hx hr ⟨v', rfl, hS, hg⟩
/-- What is told of leaves is accepted. -/
theorem holds_path (L : List Hs) (k : Nat) (hk : k < L.length) (h1 : L.length ≤ 60) : (climbC (L.length : Int) (k : Int) L[k] (pathW L (k : Int))) = (root nd em L, true) := by
  have hp : pathW L (k : Int) = (wayP 40 0 L.length k true).1.reverse.map (rt L) := by
    unfold pathW
    rw [if_pos (by omega), Int.toNat_natCast]
  unfold climbC
  rw [if_pos (by omega), Int.toNat_natCast, Int.toNat_natCast, hp, if_pos (by simp), climb_path L 40 0 L.length k hk (Nat.le_refl _) (Nat.zero_le _) (by omega), seg_all]
theorem holds_longer (L : List Hs) (k : Nat) (hk : k < L.length) (h1 : L.length ≤ 60) (x : Hs) : (climbC (L.length : Int) (k : Int) L[k] (pathW L (k : Int) ++ [x])).2 = false := by
  have hp : pathW L (k : Int) = (wayP 40 0 L.length k true).1.reverse.map (rt L) := by
    unfold pathW
    rw [if_pos (by omega), Int.toNat_natCast]
  unfold climbC
  rw [if_pos (by omega), Int.toNat_natCast, Int.toNat_natCast, hp, if_neg (by simp)]
theorem path_short (L : List Hs) (k : Nat) (hk : k < L.length) (h1 : L.length ≤ 60) : (pathW L (k : Int)).length ≤ 6 := by
  unfold pathW
  rw [if_pos (by omega), Int.toNat_natCast, List.length_map, List.length_reverse]
  exact way_len 40 6 0 L.length k true (Nat.zero_le _) hk (by omega)
theorem holds_grown (L : List Hs) (j n : Nat) (h0 : 1 ≤ j) (hj : j ≤ n) (hn : n ≤ L.length) (h1 : n ≤ 60) : checksC (root nd em (L.take j)) (root nd em (L.take n)) (j : Int) (n : Int) (grownC (L.take n) (j : Int)) = true := by
  have hl : (L.take n).length = n := by rw [List.length_take]; omega
  obtain ⟨M, hM⟩ : ∃ M, M = L.take n := ⟨_, rfl⟩
  have hjt : L.take j = seg M 0 j := by
    rw [hM, seg, List.take_take, Nat.min_eq_left hj, List.drop_zero]
  rw [hjt, ← hM]
  rw [← hM] at hl
  have hall : M = seg M 0 n := by rw [← hl]; exact (seg_all M).symm
  unfold checksC grownC
  rw [if_pos (by omega), if_pos (by omega), Int.toNat_natCast, Int.toNat_natCast, hl]
  obtain ⟨T, lo, h, hw⟩ : ∃ T lo h, wayP 40 0 n (j - 1) false = (T, lo, h) := ⟨_, _, _, rfl⟩
  have he := (way_end 40 0 n (j - 1) false (Nat.zero_le _) (by omega) (by omega)).1
  have hb := both_grown M 40 0 n j (by omega) hj (by omega) (by omega)
  rw [hw] at he hb ⊢
  simp only at he hb
  have hhj : h = j := by omega
  subst hhj
  unfold grownW
  simp only
  by_cases h0 : 0 < lo
  · rw [if_pos h0, List.singleton_append, tw_aside h0, if_pos (by simp), hb]
    unfold twB
    rw [← hall]
    simp
  · have hlo : lo = 0 := by omega
    subst hlo
    rw [if_neg h0, List.nil_append, tw_plain h0, if_pos (by simp), hb]
    unfold twB
    rw [← hall]
    simp
set_option maxHeartbeats 8000000 in
set_option maxRecDepth 100000 in
theorem proofHolds_any (L : List Hs) (v : Value) (i m : Nat) (w : World) (hT : Tabs w) (hL : RdG HE w v L) :
    Calls Tryd.prog 6 #[v, .int .u64 (i : Int), .int .u64 (m : Int)] w fun e w' => e = .returned (.bool true) ∧ Below w.heap.size w w' := by
  obtain ⟨N, HNw⟩ : ∃ N, Hid (w.heap.size = N) := ⟨_, rfl⟩
  have HNT : Hid (2 ≤ N) := (show 2 ≤ N by rw [← HNw.out]; exact hT.size)
  have HT := hide hT
  have RL := hide hL
  have CL := light_any v L w hL
  obtain ⟨p, cp, rfl⟩ := hL.slice
  have hcp := hL.cap
  obtain ⟨n, HN⟩ : ∃ n, Hid (L.length = n) := ⟨_, rfl⟩
  rw [HN.out] at RL hcp CL ⊢
  clear hT hL
  by_cases hn : n ≤ 60
  · rw [decide_eq_true hn] at CL
    have HCL := hide CL
    clear CL
    by_cases h0 : n = 0
    · subst h0
      go_enter Tryd.func6, Tryd.ntmps6
      go_wp2_with fail
      refine HCL.out.mono ?_
      rintro e w1 ⟨rfl, hw1⟩
      subst w1
      go_wp2_with fail
      refine (lives_any w HT.out).mono ?_
      rintro e w2 ⟨rfl, hb2⟩
      go_wp2_with fail
      go_ret
      exact ⟨rfl, hb2⟩
    have q0 : ((n : Int) == 0) = false := by simp; omega
    obtain ⟨k, HK⟩ : ∃ k, Hid (i % n = k) := ⟨_, rfl⟩
    obtain ⟨j, HJ⟩ : ∃ j, Hid (1 + m % n = j) := ⟨_, rfl⟩
    have hkn : k < n := by rw [← HK.out]; exact Nat.mod_lt _ (by omega)
    have hjn : 1 ≤ j ∧ j ≤ n := by have := Nat.mod_lt m (show 0 < n by omega); have := HJ.out; omega
    have hik : (i : Int) % (n : Int) = (k : Int) := by rw [← HK.out]; simp
    obtain ⟨j1, HJ1⟩ : ∃ j1, Hid (m % n = j1) := ⟨_, rfl⟩
    have him : (m : Int) % (n : Int) = (j1 : Int) := by rw [← HJ1.out]; simp
    have hj1 : (1 : Int) + (j1 : Int) = (j : Int) := by have := HJ.out; have := HJ1.out; omega
    have hj2 : j1 < n := by have := HJ.out; have := HJ1.out; omega
    have hwk : wrap64 (k : Int) = (k : Int) := by unfold wrap64; omega
    have hwj : wrap64 (j1 : Int) = (j1 : Int) := by unfold wrap64; omega
    have hqk : (k : Int) < (n : Int) := by omega
    obtain ⟨b, off, rfl, hlb, hx9⟩ := RL.out.nth (by omega)
    have hkL : k < L.length := by rw [HN.out]; exact hkn
    have hry : w.rangeAt b (off + k * 32) (By L[k].1) := hx9 k hkL
    have hbN : b < N := by rw [← HNw.out]; exact hlb
    have HCK0 := hide (holds_path L k hkL (by rw [HN.out]; exact hn))
    have HCN0 := hide (holds_longer L k hkL (by rw [HN.out]; exact hn) (root nd em L))
    have HPS := hide (path_short L k hkL (by rw [HN.out]; exact hn))
    have HCS0 := hide (holds_grown L j L.length hjn.1 (by rw [HN.out]; exact hjn.2) (Nat.le_refl _) (by rw [HN.out]; exact hn))
    rw [List.take_length] at HCS0
    rw [HN.out] at HCK0 HCN0 HCS0
    obtain ⟨x0, HX0⟩ : ∃ x, Hid (root nd em L = x) := ⟨_, rfl⟩
    obtain ⟨x1, HX1⟩ : ∃ x, Hid (root nd em (L.take j) = x) := ⟨_, rfl⟩
    rw [HX0.out] at HCK0 HCN0 HCS0
    rw [HX1.out] at HCS0
    generalize L[k] = y at hry HCK0 HCN0
    obtain ⟨Pp, HPp⟩ : ∃ P, Hid (pathW L (k : Int) = P) := ⟨_, rfl⟩
    obtain ⟨Gg, HGg⟩ : ∃ P, Hid (grownC L (j : Int) = P) := ⟨_, rfl⟩
    rw [HPp.out] at HCK0 HCN0 HPS
    rw [HGg.out] at HCS0
    have HCK : Hid (((climbC (n : Int) (k : Int) y Pp).2 && decide ((climbC (n : Int) (k : Int) y Pp).1 = x0)) = true) := (show _ = _ by rw [HCK0.out]; simp)
    have HCN : Hid (((climbC (n : Int) (k : Int) y (Pp ++ [x0])).2 && decide ((climbC (n : Int) (k : Int) y (Pp ++ [x0])).1 = x0)) = false) := (show _ = _ by rw [HCN0.out]; simp)
    have HCS := HCS0
    obtain ⟨hs1, hs1r⟩ := slice_G_to (E := HE) (P := Tryd.prog) Tryd.underlying22 Tryd.size30 (some ⟨b, off, none⟩) n cp j hjn.2 hcp
    have HS1 := hide hs1r
    clear hx9 hs1r
    go_enter Tryd.func6, Tryd.ntmps6
    go_wp2_with fail
    refine HCL.out.mono ?_
    rintro e w1 ⟨rfl, hw1⟩
    subst w1
    have CR := nroot_any L _ w RL.out
    rw [HX0.out] at CR
    have HCR := hide CR
    clear CR
    go_wp2_with fail
    refine HCR.out.mono ?_
    rintro e w2 ⟨rfl, hb2⟩
    obtain ⟨E, HEw⟩ : ∃ E, Hid (w2.heap.size = E) := ⟨_, rfl⟩
    have BN := Blk.new w2 30 (By zh.1)
    rw [HEw.out] at BN
    have hNE : N ≤ E := by rw [← HEw.out, ← HNw.out]; exact hb2.size
    have L2 : Hid (Below N w w2) := (show Below N w w2 by rw [← HNw.out]; exact hb2)
    clear hb2
    go_wp2_with (first
      | (rw [HEw.out]; refine wpList_store_blk rfl 30 _ _ rfl E (By zh.1) (By x0.1) 30 rfl rfl BN (by rw [By_len, By_len]) (Tryd.sizeH x0) (By_one _) ?_; intro w3 hb3 hu3)
      | fail)
    have L3 : Hid (Below N w w3) := (L2.out.trans ((Below.refl _ _).alloc (by rw [HEw.out]; exact hNE) _)).trans (hu3.below hNE (by simp [HEw.out]; omega))
    have BX3 := hide hb3
    have S3 : Hid (N ≤ w3.heap.size) := (show N ≤ w3.heap.size by have := hb3.lt; omega)
    have RL3 := hide (RL.out.kept (show Below w.heap.size w w3 by rw [HNw.out]; exact L3.out))
    have T3 : Hid (Tabs w3) := HT.out.kept (L3.out.mono HNT.out)
    clear hb3 hu3 BN
    have CP := path_any _ L (k : Int) (by rw [HN.out]; omega) w3 T3.out RL3.out
    rw [HN.out, HPp.out, decide_eq_true (by omega : (0 : Int) ≤ (k : Int) ∧ (k : Int) < (n : Int))] at CP
    refine CP.mono ?_
    clear CP
    rintro e w5 ⟨⟨pv, rfl, ho5⟩, hb5⟩
    obtain ⟨pa, pc, hpv⟩ := ho5.rd.slice
    obtain ⟨np, HNp⟩ : ∃ np, Hid (Pp.length = np) := ⟨_, rfl⟩
    have RPp := hide ho5.rd
    rw [HNp.out] at hpv
    rw [hpv] at RPp
    subst hpv
    have HPn : Hid (Pp.length ≤ 6) := HPS
    have L5 : Hid (Below N w w5) := L3.out.trans (hb5.mono S3.out)
    have BX := hide (BX3.out.kept hb5)
    have T5 : Hid (Tabs w5) := HT.out.kept (L5.out.mono HNT.out)
    have S5 : Hid (N ≤ w5.heap.size) := Nat.le_trans S3.out hb5.size
    have hry0 := hry
    replace hry : w5.rangeAt b (off + k * 32) (By y.1) := rangeAt_kept9 hry0 hlb (show Below w.heap.size w w5 by rw [HNw.out]; exact L5.out)
    have HRY0 := hide hry0
    have HLB := hide hlb
    replace hlb : b < w5.heap.size := Nat.lt_of_lt_of_le hbN S5.out
    clear hb5 ho5 hry0
    go_upto_region 6 with fail
    refine wp_region_inv Tryd.mixed (KS (fun i_ => match i_ with | 0 | 12 => .val (.bool true) | 1 | 2 | 13 | 14 => .val (.bool false) | 3 => .val (HV x0) | 4 | 7 => .val (.slice (some ⟨b, off, none⟩) n cp) | 5 => .val (.int .i64 (n : Int)) | 6 | 8 => .val (.int .i64 (k : Int)) | 9 => .val (.pointer (some ⟨b, off + k * 32, none⟩)) | 10 => .val (HV y) | 11 => .val (.slice pa np pc) | _ => .free)) 99 rfl (by decide +kernel) (KS_mono _) ?_ ?_
    · refine AllFrom.cons (fun a' w' hg hk hd => ?_) (AllFrom.cons (fun a' w' hg hk hd => ?_) (AllFrom.cons (fun a' w' hg hk hd => ?_) (AllFrom.cons (fun a' w' hg hk hd => ?_) (AllFrom.cons (fun a' w' hg hk hd => ?_) (AllFrom.cons (fun a' w' hg hk hd => ?_) (AllFrom.cons (fun a' w' hg hk hd => ?_) (AllFrom.cons (fun a' w' hg hk hd => ?_) (AllFrom.cons (fun a' w' hg hk hd => ?_) (AllFrom.cons (fun a' w' hg hk hd => ?_) (AllFrom.cons (fun a' w' hg hk hd => ?_) (AllFrom.cons (fun a' w' hg hk hd => ?_) (AllFrom.cons (fun a' w' hg hk hd => ?_) (AllFrom.cons (fun a' w' hg hk hd => ?_) (AllFrom.cons (fun a' w' hg hk hd => ?_) AllFrom.nil))))))))))))))
      · skip
        intro Q
        have e10 : a'.eval (.tmp 10) = .bool true := hk.at 10 (by decide +kernel)
        exact wp_value _ (by simp only [execOp, e10]; rfl) (KS_mkv rfl rfl)
      · skip
        intro Q
        have e37 : a'.eval (.tmp 37) = .bool true := KS_val (hd.val 0 37 (by decide +kernel)) rfl
        clear hd hk
        exact wp_value (.bool false) (by simp only [execOp, e37]; go_simp) (KS_mkv rfl rfl)
      · skip
        intro Q
        have e38 : a'.eval (.tmp 38) = .bool false := KS_val (hd.val 1 38 (by decide +kernel)) rfl
        exact wp_value _ (by simp only [execOp, e38]; rfl) (KS_mkv rfl rfl)
      · skip
        have eg : a'.eval (.tmp 39) = .bool false := KS_val (hd.val 2 39 (by decide +kernel)) rfl
        refine ⟨39, false, rfl, eg, fun _ Q => ?_, fun h => absurd rfl h⟩
        have e8 : a'.eval (.tmp 8) = .pointer (some ⟨E, 0, none⟩) := hk.at 8 (by decide +kernel)
        exact wp_load_row 30 _ rfl _ _ e8 (By (x0).1) _ ((BX.out.kept hg).range0) Tryd.underlying30 rfl (Tryd.sizeH _) (KS_mkv rfl rfl)
      · skip
        have eg : a'.eval (.tmp 39) = .bool false := KS_val (hd.val 2 39 (by decide +kernel)) rfl
        refine ⟨39, false, rfl, eg, fun _ Q => ?_, fun h => absurd rfl h⟩
        have e0 : a'.eval (.tmp 0) = .slice (some ⟨b, off, none⟩) n cp := hk.at 0 (by decide +kernel)
        exact wp_value _ (by simp only [execOp, e0]; rfl) (KS_mkv rfl rfl)
      · skip
        have eg : a'.eval (.tmp 39) = .bool false := KS_val (hd.val 2 39 (by decide +kernel)) rfl
        refine ⟨39, false, rfl, eg, fun _ Q => ?_, fun h => absurd rfl h⟩
        have e41 : a'.eval (.tmp 41) = .slice (some ⟨b, off, none⟩) n cp := KS_val (hd.val 4 41 (by decide +kernel)) rfl
        clear hd hk
        exact wp_value (.int .i64 (n : Int)) (by simp only [execOp, resolve, invoke, builtin, Sem.run_bind, Sem.run_pure, Result.andThen_ok, List.map_toArray, List.map_cons, List.map_nil, e41]; go_simp) (KS_mkv rfl rfl)
      · skip
        have eg : a'.eval (.tmp 39) = .bool false := KS_val (hd.val 2 39 (by decide +kernel)) rfl
        refine ⟨39, false, rfl, eg, fun _ Q => ?_, fun h => absurd rfl h⟩
        have e7 : a'.eval (.tmp 7) = .int .i64 (k : Int) := hk.at 7 (by decide +kernel)
        exact wp_value _ (by simp only [execOp, e7]; rfl) (KS_mkv rfl rfl)
      · skip
        have eg : a'.eval (.tmp 39) = .bool false := KS_val (hd.val 2 39 (by decide +kernel)) rfl
        refine ⟨39, false, rfl, eg, fun _ Q => ?_, fun h => absurd rfl h⟩
        have e0 : a'.eval (.tmp 0) = .slice (some ⟨b, off, none⟩) n cp := hk.at 0 (by decide +kernel)
        exact wp_value _ (by simp only [execOp, e0]; rfl) (KS_mkv rfl rfl)
      · skip
        have eg : a'.eval (.tmp 39) = .bool false := KS_val (hd.val 2 39 (by decide +kernel)) rfl
        refine ⟨39, false, rfl, eg, fun _ Q => ?_, fun h => absurd rfl h⟩
        have e7 : a'.eval (.tmp 7) = .int .i64 (k : Int) := hk.at 7 (by decide +kernel)
        exact wp_value _ (by simp only [execOp, e7]; rfl) (KS_mkv rfl rfl)
      · skip
        have eg : a'.eval (.tmp 39) = .bool false := KS_val (hd.val 2 39 (by decide +kernel)) rfl
        refine ⟨39, false, rfl, eg, fun _ Q => ?_, fun h => absurd rfl h⟩
        have e44 : a'.eval (.tmp 44) = .slice (some ⟨b, off, none⟩) n cp := KS_val (hd.val 7 44 (by decide +kernel)) rfl
        have e45 : a'.eval (.tmp 45) = .int .i64 (k : Int) := KS_val (hd.val 8 45 (by decide +kernel)) rfl
        clear hd hk
        exact wp_value (.pointer (some ⟨b, off + k * 32, none⟩)) (by simp only [execOp, e44, e45]; go_simp) (KS_mkv rfl rfl)
      · skip
        have eg : a'.eval (.tmp 39) = .bool false := KS_val (hd.val 2 39 (by decide +kernel)) rfl
        refine ⟨39, false, rfl, eg, fun _ Q => ?_, fun h => absurd rfl h⟩
        have e46 : a'.eval (.tmp 46) = .pointer (some ⟨b, off + k * 32, none⟩) := KS_val (hd.val 9 46 (by decide +kernel)) rfl
        exact wp_load_row 30 _ rfl _ _ e46 (By (y).1) _ (rangeAt_kept9 hry hlb hg) Tryd.underlying30 rfl (Tryd.sizeH _) (KS_mkv rfl rfl)
      · skip
        have eg : a'.eval (.tmp 39) = .bool false := KS_val (hd.val 2 39 (by decide +kernel)) rfl
        refine ⟨39, false, rfl, eg, fun _ Q => ?_, fun h => absurd rfl h⟩
        have e9 : a'.eval (.tmp 9) = .slice pa np pc := hk.at 9 (by decide +kernel)
        exact wp_value _ (by simp only [execOp, e9]; rfl) (KS_mkv rfl rfl)
      · skip
        have eg : a'.eval (.tmp 39) = .bool false := KS_val (hd.val 2 39 (by decide +kernel)) rfl
        refine ⟨39, false, rfl, eg, fun _ Q => ?_, fun h => absurd rfl h⟩
        have e40 : a'.eval (.tmp 40) = HV x0 := KS_val (hd.val 3 40 (by decide +kernel)) rfl
        have e42 : a'.eval (.tmp 42) = .int .i64 (n : Int) := KS_val (hd.val 5 42 (by decide +kernel)) rfl
        have e43 : a'.eval (.tmp 43) = .int .i64 (k : Int) := KS_val (hd.val 6 43 (by decide +kernel)) rfl
        have e47 : a'.eval (.tmp 47) = HV y := KS_val (hd.val 10 47 (by decide +kernel)) rfl
        have e48 : a'.eval (.tmp 48) = .slice pa np pc := KS_val (hd.val 11 48 (by decide +kernel)) rfl
        refine wp_call 18 _ (run_enter 18 _ _ rfl (by kernel_rfl)) ?_
        simp only [List.map_toArray, List.map_nil, List.map_cons, e40, e42, e43, e47, e48]
        have CC := check_any x0 (n : Int) (k : Int) y _ _ _ (T5.out.gr hg) (RPp.out.kept hg)
        rw [HCK.out] at CC
        refine (CC).mono ?_
        rintro e w5 ⟨rfl, hb5⟩
        exact ⟨_, rfl, KS_mkv rfl rfl, hb5⟩
      · skip
        have eg : a'.eval (.tmp 39) = .bool false := KS_val (hd.val 2 39 (by decide +kernel)) rfl
        refine ⟨39, false, rfl, eg, fun _ Q => ?_, fun h => absurd rfl h⟩
        have e49 : a'.eval (.tmp 49) = .bool true := KS_val (hd.val 12 49 (by decide +kernel)) rfl
        clear hd hk
        exact wp_value (.bool false) (by simp only [execOp, e49]; go_simp) (KS_mkv rfl rfl)
      · skip
        intro Q
        have e39 : a'.eval (.tmp 39) = .bool false := KS_val (hd.val 2 39 (by decide +kernel)) rfl
        have e50 : a'.eval (.tmp 50) = .bool false := KS_val (hd.val 13 50 (by decide +kernel)) rfl
        clear hd hk
        exact wp_value (.bool false) (by simp only [execOp, e39, e50]; go_simp) (KS_mkv rfl rfl)
    intro a' w6 hsz hdf hk hall hg
    have e37 : a'.eval (.tmp 37) = .bool true := KS_val (hall 0 _ 37 rfl rfl) rfl
    have e38 : a'.eval (.tmp 38) = .bool false := KS_val (hall 1 _ 38 rfl rfl) rfl
    have e39 : a'.eval (.tmp 39) = .bool false := KS_val (hall 2 _ 39 rfl rfl) rfl
    have e40 : a'.eval (.tmp 40) = HV x0 := KS_val (hall 3 _ 40 rfl rfl) rfl
    have e41 : a'.eval (.tmp 41) = .slice (some ⟨b, off, none⟩) n cp := KS_val (hall 4 _ 41 rfl rfl) rfl
    have e42 : a'.eval (.tmp 42) = .int .i64 (n : Int) := KS_val (hall 5 _ 42 rfl rfl) rfl
    have e43 : a'.eval (.tmp 43) = .int .i64 (k : Int) := KS_val (hall 6 _ 43 rfl rfl) rfl
    have e44 : a'.eval (.tmp 44) = .slice (some ⟨b, off, none⟩) n cp := KS_val (hall 7 _ 44 rfl rfl) rfl
    have e45 : a'.eval (.tmp 45) = .int .i64 (k : Int) := KS_val (hall 8 _ 45 rfl rfl) rfl
    have e46 : a'.eval (.tmp 46) = .pointer (some ⟨b, off + k * 32, none⟩) := KS_val (hall 9 _ 46 rfl rfl) rfl
    have e47 : a'.eval (.tmp 47) = HV y := KS_val (hall 10 _ 47 rfl rfl) rfl
    have e48 : a'.eval (.tmp 48) = .slice pa np pc := KS_val (hall 11 _ 48 rfl rfl) rfl
    have e49 : a'.eval (.tmp 49) = .bool true := KS_val (hall 12 _ 49 rfl rfl) rfl
    have e50 : a'.eval (.tmp 50) = .bool false := KS_val (hall 13 _ 50 rfl rfl) rfl
    have e51 : a'.eval (.tmp 51) = .bool false := KS_val (hall 14 _ 51 rfl rfl) rfl
    have ha := act_puts 99 rfl hsz hdf hk [37, 38, 39, 40, 41, 42, 43, 44, 45, 46, 47, 48, 49, 50, 51] (by decide +kernel)
    simp only [puts, List.foldl_cons, List.foldl_nil, e37, e38, e39, e40, e41, e42, e43, e44, e45, e46, e47, e48, e49, e50, e51] at ha
    simp only [Act.put, List.setIfInBounds_toArray, List.set_cons_succ, List.set_cons_zero] at ha
    clear hall hk hsz hdf e37 e38 e39 e40 e41 e42 e43 e44 e45 e46 e47 e48 e49 e50 e51
    subst ha
    have L6 : Hid (Below N w w6) := L5.out.trans (Below.mono hg S5.out)
    have BX6 := hide (BX.out.kept hg)
    have RPp6 := hide (RPp.out.kept hg)
    have S6 : Hid (N ≤ w6.heap.size) := Nat.le_trans S5.out hg.size
    have L6w : Hid (Below w.heap.size w w6) := (show Below _ _ _ by rw [HNw.out]; exact L6.out)
    have RL6 := hide (RL.out.kept L6w.out)
    have T6 : Hid (Tabs w6) := HT.out.kept (L6.out.mono HNT.out)
    clear hg hry hlb
    have CG := grown_any _ L (j : Int) (by rw [HN.out]; omega) w6 T6.out RL6.out
    rw [HN.out, HGg.out, decide_eq_true (by omega : (1 : Int) ≤ (j : Int) ∧ (j : Int) ≤ (n : Int))] at CG
    have HCG := hide CG
    clear CG
    go_wp2_with fail
    refine HCG.out.mono ?_
    rintro e w7 ⟨⟨gv, rfl, ho7⟩, hb7⟩
    obtain ⟨ga, gc, hgv⟩ := ho7.rd.slice
    obtain ⟨ng, HNg⟩ : ∃ ng, Hid (Gg.length = ng) := ⟨_, rfl⟩
    have RG7 := hide ho7.rd
    rw [HNg.out] at hgv
    rw [hgv] at RG7
    subst hgv
    have BX7 := hide (BX6.out.kept hb7)
    have L7 : Hid (Below N w w7) := L6.out.trans (hb7.mono S6.out)
    have S7 : Hid (N ≤ w7.heap.size) := Nat.le_trans S6.out hb7.size
    have T7 : Hid (Tabs w7) := HT.out.kept (L7.out.mono HNT.out)
    have L7w : Hid (Below w.heap.size w w7) := (show Below _ _ _ by rw [HNw.out]; exact L7.out)
    have RT7 := hide (HS1.out w7 L (RL.out.kept L7w.out))
    have RPp7 := hide (RPp6.out.kept hb7)
    clear hb7 ho7
    go_upto_region 10 with fail
    refine wp_region_inv Tryd.mixed (KS (fun i_ => match i_ with | 0 | 12 => .val (.bool true) | 1 | 2 | 13 | 14 => .val (.bool false) | 3 | 9 => .val (.slice (some ⟨b, off, none⟩) n cp) | 4 | 8 => .val (.int .i64 (j : Int)) | 5 => .val (.slice (some ⟨b, off, none⟩) j cp) | 6 => .val (HV x1) | 7 => .val (HV x0) | 10 => .val (.int .i64 (n : Int)) | 11 => .val (.slice ga ng gc) | _ => .free)) 99 rfl (by decide +kernel) (KS_mono _) ?_ ?_
    · refine AllFrom.cons (fun a' w' hg hk hd => ?_) (AllFrom.cons (fun a' w' hg hk hd => ?_) (AllFrom.cons (fun a' w' hg hk hd => ?_) (AllFrom.cons (fun a' w' hg hk hd => ?_) (AllFrom.cons (fun a' w' hg hk hd => ?_) (AllFrom.cons (fun a' w' hg hk hd => ?_) (AllFrom.cons (fun a' w' hg hk hd => ?_) (AllFrom.cons (fun a' w' hg hk hd => ?_) (AllFrom.cons (fun a' w' hg hk hd => ?_) (AllFrom.cons (fun a' w' hg hk hd => ?_) (AllFrom.cons (fun a' w' hg hk hd => ?_) (AllFrom.cons (fun a' w' hg hk hd => ?_) (AllFrom.cons (fun a' w' hg hk hd => ?_) (AllFrom.cons (fun a' w' hg hk hd => ?_) (AllFrom.cons (fun a' w' hg hk hd => ?_) AllFrom.nil))))))))))))))
      · skip
        intro Q
        have e13 : a'.eval (.tmp 13) = .bool true := hk.at 13 (by decide +kernel)
        exact wp_value _ (by simp only [execOp, e13]; rfl) (KS_mkv rfl rfl)
      · skip
        intro Q
        have e65 : a'.eval (.tmp 65) = .bool true := KS_val (hd.val 0 65 (by decide +kernel)) rfl
        clear hd hk
        exact wp_value (.bool false) (by simp only [execOp, e65]; go_simp) (KS_mkv rfl rfl)
      · skip
        intro Q
        have e66 : a'.eval (.tmp 66) = .bool false := KS_val (hd.val 1 66 (by decide +kernel)) rfl
        exact wp_value _ (by simp only [execOp, e66]; rfl) (KS_mkv rfl rfl)
      · skip
        have eg : a'.eval (.tmp 67) = .bool false := KS_val (hd.val 2 67 (by decide +kernel)) rfl
        refine ⟨67, false, rfl, eg, fun _ Q => ?_, fun h => absurd rfl h⟩
        have e0 : a'.eval (.tmp 0) = .slice (some ⟨b, off, none⟩) n cp := hk.at 0 (by decide +kernel)
        exact wp_value _ (by simp only [execOp, e0]; rfl) (KS_mkv rfl rfl)
      · skip
        have eg : a'.eval (.tmp 67) = .bool false := KS_val (hd.val 2 67 (by decide +kernel)) rfl
        refine ⟨67, false, rfl, eg, fun _ Q => ?_, fun h => absurd rfl h⟩
        have e11 : a'.eval (.tmp 11) = .int .i64 (j : Int) := hk.at 11 (by decide +kernel)
        exact wp_value _ (by simp only [execOp, e11]; rfl) (KS_mkv rfl rfl)
      · skip
        have eg : a'.eval (.tmp 67) = .bool false := KS_val (hd.val 2 67 (by decide +kernel)) rfl
        refine ⟨67, false, rfl, eg, fun _ Q => ?_, fun h => absurd rfl h⟩
        have e68 : a'.eval (.tmp 68) = .slice (some ⟨b, off, none⟩) n cp := KS_val (hd.val 3 68 (by decide +kernel)) rfl
        have e69 : a'.eval (.tmp 69) = .int .i64 (j : Int) := KS_val (hd.val 4 69 (by decide +kernel)) rfl
        exact wp_value _ (by simp only [execOp, e68, e69, hs1, Sem.run_bind, Result.andThen_ok, Option.map_none, Option.map_some]; rfl) (KS_mkv rfl rfl)
      · skip
        have eg : a'.eval (.tmp 67) = .bool false := KS_val (hd.val 2 67 (by decide +kernel)) rfl
        refine ⟨67, false, rfl, eg, fun _ Q => ?_, fun h => absurd rfl h⟩
        have e70 : a'.eval (.tmp 70) = .slice (some ⟨b, off, none⟩) j cp := KS_val (hd.val 5 70 (by decide +kernel)) rfl
        refine wp_call 22 _ (run_enter 22 _ _ rfl (by kernel_rfl)) ?_
        simp only [List.map_toArray, List.map_nil, List.map_cons, e70]
        have CC := nroot_any (L.take j) _ _ (RT7.out.kept hg)
        rw [HX1.out] at CC
        refine (CC).mono ?_
        rintro e w5 ⟨rfl, hb5⟩
        exact ⟨_, rfl, KS_mkv rfl rfl, hb5⟩
      · skip
        have eg : a'.eval (.tmp 67) = .bool false := KS_val (hd.val 2 67 (by decide +kernel)) rfl
        refine ⟨67, false, rfl, eg, fun _ Q => ?_, fun h => absurd rfl h⟩
        have e8 : a'.eval (.tmp 8) = .pointer (some ⟨E, 0, none⟩) := hk.at 8 (by decide +kernel)
        exact wp_load_row 30 _ rfl _ _ e8 (By (x0).1) _ ((BX7.out.kept hg).range0) Tryd.underlying30 rfl (Tryd.sizeH _) (KS_mkv rfl rfl)
      · skip
        have eg : a'.eval (.tmp 67) = .bool false := KS_val (hd.val 2 67 (by decide +kernel)) rfl
        refine ⟨67, false, rfl, eg, fun _ Q => ?_, fun h => absurd rfl h⟩
        have e11 : a'.eval (.tmp 11) = .int .i64 (j : Int) := hk.at 11 (by decide +kernel)
        exact wp_value _ (by simp only [execOp, e11]; rfl) (KS_mkv rfl rfl)
      · skip
        have eg : a'.eval (.tmp 67) = .bool false := KS_val (hd.val 2 67 (by decide +kernel)) rfl
        refine ⟨67, false, rfl, eg, fun _ Q => ?_, fun h => absurd rfl h⟩
        have e0 : a'.eval (.tmp 0) = .slice (some ⟨b, off, none⟩) n cp := hk.at 0 (by decide +kernel)
        exact wp_value _ (by simp only [execOp, e0]; rfl) (KS_mkv rfl rfl)
      · skip
        have eg : a'.eval (.tmp 67) = .bool false := KS_val (hd.val 2 67 (by decide +kernel)) rfl
        refine ⟨67, false, rfl, eg, fun _ Q => ?_, fun h => absurd rfl h⟩
        have e74 : a'.eval (.tmp 74) = .slice (some ⟨b, off, none⟩) n cp := KS_val (hd.val 9 74 (by decide +kernel)) rfl
        clear hd hk
        exact wp_value (.int .i64 (n : Int)) (by simp only [execOp, resolve, invoke, builtin, Sem.run_bind, Sem.run_pure, Result.andThen_ok, List.map_toArray, List.map_cons, List.map_nil, e74]; go_simp) (KS_mkv rfl rfl)
      · skip
        have eg : a'.eval (.tmp 67) = .bool false := KS_val (hd.val 2 67 (by decide +kernel)) rfl
        refine ⟨67, false, rfl, eg, fun _ Q => ?_, fun h => absurd rfl h⟩
        have e12 : a'.eval (.tmp 12) = .slice ga ng gc := hk.at 12 (by decide +kernel)
        exact wp_value _ (by simp only [execOp, e12]; rfl) (KS_mkv rfl rfl)
      · skip
        have eg : a'.eval (.tmp 67) = .bool false := KS_val (hd.val 2 67 (by decide +kernel)) rfl
        refine ⟨67, false, rfl, eg, fun _ Q => ?_, fun h => absurd rfl h⟩
        have e71 : a'.eval (.tmp 71) = HV x1 := KS_val (hd.val 6 71 (by decide +kernel)) rfl
        have e72 : a'.eval (.tmp 72) = HV x0 := KS_val (hd.val 7 72 (by decide +kernel)) rfl
        have e73 : a'.eval (.tmp 73) = .int .i64 (j : Int) := KS_val (hd.val 8 73 (by decide +kernel)) rfl
        have e75 : a'.eval (.tmp 75) = .int .i64 (n : Int) := KS_val (hd.val 10 75 (by decide +kernel)) rfl
        have e76 : a'.eval (.tmp 76) = .slice ga ng gc := KS_val (hd.val 11 76 (by decide +kernel)) rfl
        refine wp_call 20 _ (run_enter 20 _ _ rfl (by kernel_rfl)) ?_
        simp only [List.map_toArray, List.map_nil, List.map_cons, e71, e72, e73, e75, e76]
        have CC := checks_any x1 x0 (j : Int) (n : Int) _ _ _ (T7.out.gr hg) (RG7.out.kept hg)
        rw [HCS.out] at CC
        refine (CC).mono ?_
        rintro e w5 ⟨rfl, hb5⟩
        exact ⟨_, rfl, KS_mkv rfl rfl, hb5⟩
      · skip
        have eg : a'.eval (.tmp 67) = .bool false := KS_val (hd.val 2 67 (by decide +kernel)) rfl
        refine ⟨67, false, rfl, eg, fun _ Q => ?_, fun h => absurd rfl h⟩
        have e77 : a'.eval (.tmp 77) = .bool true := KS_val (hd.val 12 77 (by decide +kernel)) rfl
        clear hd hk
        exact wp_value (.bool false) (by simp only [execOp, e77]; go_simp) (KS_mkv rfl rfl)
      · skip
        intro Q
        have e67 : a'.eval (.tmp 67) = .bool false := KS_val (hd.val 2 67 (by decide +kernel)) rfl
        have e78 : a'.eval (.tmp 78) = .bool false := KS_val (hd.val 13 78 (by decide +kernel)) rfl
        clear hd hk
        exact wp_value (.bool false) (by simp only [execOp, e67, e78]; go_simp) (KS_mkv rfl rfl)
    intro a' w9 hsz hdf hk hall hg
    have e65 : a'.eval (.tmp 65) = .bool true := KS_val (hall 0 _ 65 rfl rfl) rfl
    have e66 : a'.eval (.tmp 66) = .bool false := KS_val (hall 1 _ 66 rfl rfl) rfl
    have e67 : a'.eval (.tmp 67) = .bool false := KS_val (hall 2 _ 67 rfl rfl) rfl
    have e68 : a'.eval (.tmp 68) = .slice (some ⟨b, off, none⟩) n cp := KS_val (hall 3 _ 68 rfl rfl) rfl
    have e69 : a'.eval (.tmp 69) = .int .i64 (j : Int) := KS_val (hall 4 _ 69 rfl rfl) rfl
    have e70 : a'.eval (.tmp 70) = .slice (some ⟨b, off, none⟩) j cp := KS_val (hall 5 _ 70 rfl rfl) rfl
    have e71 : a'.eval (.tmp 71) = HV x1 := KS_val (hall 6 _ 71 rfl rfl) rfl
    have e72 : a'.eval (.tmp 72) = HV x0 := KS_val (hall 7 _ 72 rfl rfl) rfl
    have e73 : a'.eval (.tmp 73) = .int .i64 (j : Int) := KS_val (hall 8 _ 73 rfl rfl) rfl
    have e74 : a'.eval (.tmp 74) = .slice (some ⟨b, off, none⟩) n cp := KS_val (hall 9 _ 74 rfl rfl) rfl
    have e75 : a'.eval (.tmp 75) = .int .i64 (n : Int) := KS_val (hall 10 _ 75 rfl rfl) rfl
    have e76 : a'.eval (.tmp 76) = .slice ga ng gc := KS_val (hall 11 _ 76 rfl rfl) rfl
    have e77 : a'.eval (.tmp 77) = .bool true := KS_val (hall 12 _ 77 rfl rfl) rfl
    have e78 : a'.eval (.tmp 78) = .bool false := KS_val (hall 13 _ 78 rfl rfl) rfl
    have e79 : a'.eval (.tmp 79) = .bool false := KS_val (hall 14 _ 79 rfl rfl) rfl
    have ha := act_puts 99 rfl hsz hdf hk [65, 66, 67, 68, 69, 70, 71, 72, 73, 74, 75, 76, 77, 78, 79] (by decide +kernel)
    simp only [puts, List.foldl_cons, List.foldl_nil, e65, e66, e67, e68, e69, e70, e71, e72, e73, e74, e75, e76, e77, e78, e79] at ha
    simp only [Act.put, List.setIfInBounds_toArray, List.set_cons_succ, List.set_cons_zero] at ha
    clear hall hk hsz hdf e65 e66 e67 e68 e69 e70 e71 e72 e73 e74 e75 e76 e77 e78 e79
    subst ha
    have L9 : Hid (Below N w w9) := L7.out.trans (Below.mono hg S7.out)
    have BX9 := hide (BX7.out.kept hg)
    have RP9 := hide (RPp7.out.kept hg)
    have S9 : Hid (N ≤ w9.heap.size) := Nat.le_trans S7.out hg.size
    have T9 : Hid (Tabs w9) := HT.out.kept (L9.out.mono HNT.out)
    have hry9 : w9.rangeAt b (off + k * 32) (By y.1) := rangeAt_kept9 HRY0.out HLB.out (show Below w.heap.size w w9 by rw [HNw.out]; exact L9.out)
    have hlb9 : b < w9.heap.size := Nat.lt_of_lt_of_le hbN S9.out
    obtain ⟨M, HMw⟩ : ∃ M, Hid (w9.heap.size = M) := ⟨_, rfl⟩
    clear hg
    go_upto_region 12 with fail
    refine wp_region_fresh Tryd.mixed (KS (fun i_ => match i_ with | 0 | 11 => .val (HV x0) | 1 | 4 => .val (.slice (some ⟨b, off, none⟩) n cp) | 2 => .val (.int .i64 (n : Int)) | 3 | 5 => .val (.int .i64 (k : Int)) | 6 => .val (.pointer (some ⟨b, off + k * 32, none⟩)) | 7 => .val (HV y) | 8 => .of (fun w v_ => ∃ g, v_ = .slice (some ⟨g, 0, none⟩) 0 0 ∧ OwnG HE w M 30 v_ ([])) (fun _ _ _ hg h => by obtain ⟨g, h1, h2⟩ := h; exact ⟨g, h1, OwnG.kept h2 hg⟩) | 9 => .val (.slice pa np pc) | 10 => .of (fun w v_ => OwnG HE w M 30 v_ (Pp)) (fun _ _ _ hg h => OwnG.kept h hg) | 12 => .of (fun w v_ => RdG HE w v_ [x0]) (fun _ _ _ hg h => RdG.kept h hg) | 13 => .of (fun w v_ => RdG HE w v_ (Pp ++ [x0])) (fun _ _ _ hg h => RdG.kept h hg) | 14 => .val (.bool false) | 15 | 16 | 17 | 18 | 19 => .val (.bool true) | _ => .free)) (fun i_ => i_ == 8 || i_ == 10 || i_ == 12) 13 99 rfl (by decide +kernel) (KS_mono _) (fun i_ h1 h2 w1 w2 x_ _ h_ => (show Kn.isVal ((fun i_ => match i_ with | 0 | 11 => .val (HV x0) | 1 | 4 => .val (.slice (some ⟨b, off, none⟩) n cp) | 2 => .val (.int .i64 (n : Int)) | 3 | 5 => .val (.int .i64 (k : Int)) | 6 => .val (.pointer (some ⟨b, off + k * 32, none⟩)) | 7 => .val (HV y) | 8 => .of (fun w v_ => ∃ g, v_ = .slice (some ⟨g, 0, none⟩) 0 0 ∧ OwnG HE w M 30 v_ ([])) (fun _ _ _ hg h => by obtain ⟨g, h1, h2⟩ := h; exact ⟨g, h1, OwnG.kept h2 hg⟩) | 9 => .val (.slice pa np pc) | 10 => .of (fun w v_ => OwnG HE w M 30 v_ (Pp)) (fun _ _ _ hg h => OwnG.kept h hg) | 12 => .of (fun w v_ => RdG HE w v_ [x0]) (fun _ _ _ hg h => RdG.kept h hg) | 13 => .of (fun w v_ => RdG HE w v_ (Pp ++ [x0])) (fun _ _ _ hg h => RdG.kept h hg) | 14 => .val (.bool false) | 15 | 16 | 17 | 18 | 19 => .val (.bool true) | _ => .free) i_) by dsimp only; split <;> first | exact (fun _ _ _ h => h) | exact absurd rfl h2 | exact absurd h1 (by decide)) w1 w2 x_ h_) ?_ ?_
    · refine AllFrom.cons (fun a' w' hg hk hd => ?_) (AllFrom.cons (fun a' w' hg hk hd => ?_) (AllFrom.cons (fun a' w' hg hk hd => ?_) (AllFrom.cons (fun a' w' hg hk hd => ?_) (AllFrom.cons (fun a' w' hg hk hd => ?_) (AllFrom.cons (fun a' w' hg hk hd => ?_) (AllFrom.cons (fun a' w' hg hk hd => ?_) (AllFrom.cons (fun a' w' hg hk hd => ?_) (AllFrom.cons (fun a' w' hg hk hd => ?_) (AllFrom.cons (fun a' w' hg hk hd => ?_) (AllFrom.cons (fun a' w' hg hk hd => ?_) (AllFrom.cons (fun a' w' hg hk hd => ?_) (AllFrom.cons (fun a' w' hg hk hd => ?_) (AllFrom.cons (fun a' w' hg hk hd => ?_) (AllFrom.cons (fun a' w' hg hk hd => ?_) (AllFrom.cons (fun a' w' hg hk hd => ?_) (AllFrom.cons (fun a' w' hg hk hd => ?_) (AllFrom.cons (fun a' w' hg hk hd => ?_) (AllFrom.cons (fun a' w' hg hk hd => ?_) (AllFrom.cons (fun a' w' hg hk hd => ?_) AllFrom.nil)))))))))))))))))))
      · skip
        refine ⟨fun h => absurd h (by decide), fun _ => ?_⟩
        intro Q
        have e8 : a'.eval (.tmp 8) = .pointer (some ⟨E, 0, none⟩) := hk.at 8 (by decide +kernel)
        exact wp_load_row 30 _ rfl _ _ e8 (By (x0).1) _ ((BX9.out.kept hg).range0) Tryd.underlying30 rfl (Tryd.sizeH _) (KS_mkv rfl rfl)
      · skip
        refine ⟨fun h => absurd h (by decide), fun _ => ?_⟩
        intro Q
        have e0 : a'.eval (.tmp 0) = .slice (some ⟨b, off, none⟩) n cp := hk.at 0 (by decide +kernel)
        exact wp_value _ (by simp only [execOp, e0]; rfl) (KS_mkv rfl rfl)
      · skip
        refine ⟨fun h => absurd h (by decide), fun _ => ?_⟩
        intro Q
        have e81 : a'.eval (.tmp 81) = .slice (some ⟨b, off, none⟩) n cp := KS_val (hd.val 1 81 (by decide +kernel)) rfl
        clear hd hk
        exact wp_value (.int .i64 (n : Int)) (by simp only [execOp, resolve, invoke, builtin, Sem.run_bind, Sem.run_pure, Result.andThen_ok, List.map_toArray, List.map_cons, List.map_nil, e81]; go_simp) (KS_mkv rfl rfl)
      · skip
        refine ⟨fun h => absurd h (by decide), fun _ => ?_⟩
        intro Q
        have e7 : a'.eval (.tmp 7) = .int .i64 (k : Int) := hk.at 7 (by decide +kernel)
        exact wp_value _ (by simp only [execOp, e7]; rfl) (KS_mkv rfl rfl)
      · skip
        refine ⟨fun h => absurd h (by decide), fun _ => ?_⟩
        intro Q
        have e0 : a'.eval (.tmp 0) = .slice (some ⟨b, off, none⟩) n cp := hk.at 0 (by decide +kernel)
        exact wp_value _ (by simp only [execOp, e0]; rfl) (KS_mkv rfl rfl)
      · skip
        refine ⟨fun h => absurd h (by decide), fun _ => ?_⟩
        intro Q
        have e7 : a'.eval (.tmp 7) = .int .i64 (k : Int) := hk.at 7 (by decide +kernel)
        exact wp_value _ (by simp only [execOp, e7]; rfl) (KS_mkv rfl rfl)
      · skip
        refine ⟨fun h => absurd h (by decide), fun _ => ?_⟩
        intro Q
        have e84 : a'.eval (.tmp 84) = .slice (some ⟨b, off, none⟩) n cp := KS_val (hd.val 4 84 (by decide +kernel)) rfl
        have e85 : a'.eval (.tmp 85) = .int .i64 (k : Int) := KS_val (hd.val 5 85 (by decide +kernel)) rfl
        clear hd hk
        exact wp_value (.pointer (some ⟨b, off + k * 32, none⟩)) (by simp only [execOp, e84, e85]; go_simp) (KS_mkv rfl rfl)
      · skip
        refine ⟨fun h => absurd h (by decide), fun _ => ?_⟩
        intro Q
        have e86 : a'.eval (.tmp 86) = .pointer (some ⟨b, off + k * 32, none⟩) := KS_val (hd.val 6 86 (by decide +kernel)) rfl
        exact wp_load_row 30 _ rfl _ _ e86 (By (y).1) _ (rangeAt_kept9 hry9 hlb9 hg) Tryd.underlying30 rfl (Tryd.sizeH _) (KS_mkv rfl rfl)
      · skip
        refine ⟨fun h => absurd h (by decide), fun _ => ?_⟩
        intro Q
        have hb0 := build0H w'
        exact wp_grow _ _ (by simp only [execOp, List.map_toArray, List.map_nil, hb0, Sem.run_bind, Sem.run_pure, Result.andThen_ok]) ((Below.refl _ _).alloc (Nat.le_refl _) _) (KS_mko rfl ⟨_, rfl, ownG_none w' M 30 (by have := hg.size; have := HMw.out; omega)⟩)
      · skip
        refine ⟨fun h => absurd h (by decide), fun _ => ?_⟩
        intro Q
        have e9 : a'.eval (.tmp 9) = .slice pa np pc := hk.at 9 (by decide +kernel)
        exact wp_value _ (by simp only [execOp, e9]; rfl) (KS_mkv rfl rfl)
      · skip
        refine ⟨fun h => absurd h (by decide), fun _ => ?_⟩
        intro Q
        have r88 := KS_of (hd.val 8 88 (by decide +kernel)) rfl
        have e89 : a'.eval (.tmp 89) = .slice pa np pc := KS_val (hd.val 9 89 (by decide +kernel)) rfl
        obtain ⟨g, f88, ho8⟩ := r88
        rw [f88] at ho8
        obtain ⟨v2, w6, hr6, O6, G6⟩ := run_append_own w' M 22 22 22 g ho8 _ Pp (RP9.out.kept hg) (by have := HPn.out; omega) Tryd.underlying22 Tryd.underlying22
        skip
        exact wp_append_grow f88 e89 hr6 G6 (KS_mko rfl O6)
      · skip
        refine ⟨fun h => absurd h (by decide), fun _ => ?_⟩
        intro Q
        have e8 : a'.eval (.tmp 8) = .pointer (some ⟨E, 0, none⟩) := hk.at 8 (by decide +kernel)
        exact wp_load_row 30 _ rfl _ _ e8 (By (x0).1) _ ((BX9.out.kept hg).range0) Tryd.underlying30 rfl (Tryd.sizeH _) (KS_mkv rfl rfl)
      · skip
        refine ⟨fun h => absurd h (by decide), fun _ => ?_⟩
        intro Q
        have e91 : a'.eval (.tmp 91) = HV x0 := KS_val (hd.val 11 91 (by decide +kernel)) rfl
        obtain ⟨w9, hr9, hg9, hrd9⟩ := hash_new w' x0
        exact wp_grow _ w9 (by simp only [execOp, List.map_toArray, List.map_cons, List.map_nil, e91, hr9, Sem.run_bind, Sem.run_pure, Result.andThen_ok]) hg9 (KS_mko rfl hrd9)
      · skip
        refine ⟨fun _ => ⟨rfl, fun Q => ?_⟩, fun h => absurd rfl h⟩
        have r90 := KS_of (hd.val 10 90 (by decide +kernel)) rfl
        have r92 := KS_of (hd.val 12 92 (by decide +kernel)) rfl
        obtain ⟨v2, w6, hr6, O6, G6, H6⟩ := append_own r90 r92 (by have := HPn.out; simp; omega) (by have := hg.size; have := HMw.out; omega)
        refine wp_append10 _ _ _ _ rfl rfl rfl hr6 ⟨v2, rfl, KS_mko rfl O6.rd, ?_⟩
        have hc6 : Chg (fun k => M ≤ k) w' w6 := Chg.of_grown G6 (fun k hk _ => (r90.block hk).1)
        rw [HMw.out]
        exact hc6.below (by have := hg.size; have := HMw.out; omega) (fun k hk h => by omega)
      · skip
        refine ⟨fun h => absurd h (by decide), fun _ => ?_⟩
        intro Q
        have e80 : a'.eval (.tmp 80) = HV x0 := KS_val (hd.val 0 80 (by decide +kernel)) rfl
        have e82 : a'.eval (.tmp 82) = .int .i64 (n : Int) := KS_val (hd.val 2 82 (by decide +kernel)) rfl
        have e83 : a'.eval (.tmp 83) = .int .i64 (k : Int) := KS_val (hd.val 3 83 (by decide +kernel)) rfl
        have e87 : a'.eval (.tmp 87) = HV y := KS_val (hd.val 7 87 (by decide +kernel)) rfl
        have r93 := KS_of (hd.val 13 93 (by decide +kernel)) rfl
        refine wp_call 18 _ (run_enter 18 _ _ rfl (by kernel_rfl)) ?_
        simp only [List.map_toArray, List.map_nil, List.map_cons, e80, e82, e83, e87]
        have CC := check_any x0 (n : Int) (k : Int) y _ _ _ (T9.out.gr hg) r93
        rw [HCN.out] at CC
        refine (CC).mono ?_
        rintro e w5 ⟨rfl, hb5⟩
        exact ⟨_, rfl, KS_mkv rfl rfl, hb5⟩
      · skip
        refine ⟨fun h => absurd h (by decide), fun _ => ?_⟩
        intro Q
        have e94 : a'.eval (.tmp 94) = .bool false := KS_val (hd.val 14 94 (by decide +kernel)) rfl
        clear hd hk
        exact wp_value (.bool true) (by simp only [execOp, e94]; go_simp) (KS_mkv rfl rfl)
      · skip
        refine ⟨fun h => absurd h (by decide), fun _ => ?_⟩
        intro Q
        have e95 : a'.eval (.tmp 95) = .bool true := KS_val (hd.val 15 95 (by decide +kernel)) rfl
        exact wp_value _ (by simp only [execOp, e95]; rfl) (KS_mkv rfl rfl)
      · skip
        refine ⟨fun h => absurd h (by decide), fun _ => ?_⟩
        have eg : a'.eval (.tmp 96) = .bool true := KS_val (hd.val 16 96 (by decide +kernel)) rfl
        refine ⟨96, true, rfl, eg, fun _ Q => ?_, fun h => absurd rfl h⟩
        refine wp_call 10 _ (run_enter 10 _ _ rfl (by kernel_rfl)) ?_
        simp only [List.map_toArray, List.map_nil]
        refine (lives_any _ (T9.out.gr hg)).mono ?_
        rintro e w5 ⟨rfl, hb5⟩
        exact ⟨_, rfl, KS_mkv rfl rfl, hb5⟩
      · skip
        refine ⟨fun h => absurd h (by decide), fun _ => ?_⟩
        intro Q
        have e96 : a'.eval (.tmp 96) = .bool true := KS_val (hd.val 16 96 (by decide +kernel)) rfl
        have e97 : a'.eval (.tmp 97) = .bool true := KS_val (hd.val 17 97 (by decide +kernel)) rfl
        clear hd hk
        exact wp_value (.bool true) (by simp only [execOp, e96, e97]; go_simp) (KS_mkv rfl rfl)
      · skip
        refine ⟨fun h => absurd h (by decide), fun _ => ?_⟩
        intro Q
        have e98 : a'.eval (.tmp 98) = .bool true := KS_val (hd.val 18 98 (by decide +kernel)) rfl
        exact wp_value _ (by simp only [execOp, e98]; rfl) (KS_mkv rfl rfl)
    intro a' w10 hsz hdf hk hall hg
    have e6 : a'.eval (.tmp 6) = .bool true := KS_val (hall 19 _ 6 rfl rfl rfl) rfl
    have hd0 : a'.defers = [] := hdf
    have L10 : Below N w w10 := L9.out.trans (Below.mono hg S9.out)
    clear hall hk hsz hdf
    go_wp2_with fail
    refine bodyPost_ret (results_tmp rfl _ _ _) hd0 ⟨?_, by rw [HNw.out]; exact L10⟩
    have : a'.tmps.getD 6 undef = .bool true := e6
    rw [this]
  · rw [decide_eq_false hn] at CL
    have HCL := hide CL
    clear CL
    go_enter Tryd.func6, Tryd.ntmps6
    go_wp2_with fail
    refine HCL.out.mono ?_
    rintro e w1 ⟨rfl, hw1⟩
    subst w1
    go_wp2_with fail
    refine (lives_any w HT.out).mono ?_
    rintro e w2 ⟨rfl, hb2⟩
    go_wp2_with fail
    go_ret
    exact ⟨rfl, hb2⟩
#print axioms proofHolds_any
end Go.Proofs.YtfclmjfbcmjfbaaDoor
