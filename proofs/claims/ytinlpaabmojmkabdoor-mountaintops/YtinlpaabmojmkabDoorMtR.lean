/-
  mountain.Root and indentureref09.Root: what the calls do.
-/
import Derived.Test.YtinlpaabmojmkabDoorMtH
namespace Go.Proofs.YtinlpaabmojmkabDoor
open Go.RowKit
set_option maxHeartbeats 2000000 in
set_option maxRecDepth 100000 in
theorem root_any (l : List Hs) (v : Value) (w : World) (hT : Tabs w) (hr : RdG HE w v l) : Calls Tryd.prog 8 #[v] w fun e w' => e = .returned (HV (root nd em l)) ∧ Below w.heap.size w w' := by
  obtain ⟨m, hm⟩ : ∃ m, l.length = m := ⟨_, rfl⟩
  induction m using Nat.strongRecOn generalizing l v w with
  | _ m ih =>
  have HR := hide hr
  have hcap := hr.cap'
  obtain ⟨a, cp, rfl⟩ := hr.slice
  have hcp := hr.cap
  rw [hm] at HR hcap hcp ⊢
  have HM := hide hm
  have IH := hide ih
  obtain ⟨N, HN⟩ : ∃ N, Hid (w.heap.size = N) := ⟨_, rfl⟩
  have HT := hide hT
  have HNT : Hid (2 ≤ N) := (show _ by rw [← HN.out]; exact HT.out.size)
  clear hT
  clear hr hm ih
  go_enter Tryd.func8, Tryd.ntmps8
  go_upto_region 1 with fail
  obtain ⟨w0, hw0⟩ : ∃ z, z = w.alloc (.cells (By (List.replicate 32 0)).toArray 30 (0, 0)) := ⟨_, rfl⟩
  change Code.wp _ _ _ _ (w.alloc (.cells (By (List.replicate 32 0)).toArray 30 (0, 0)))
  rw [← hw0, HN.out]
  obtain ⟨b0, l0, s0⟩ := room_hash HN hw0
  have O0 := hide b0
  have L0 := hide l0
  have HS0 := hide s0
  have R0 : Hid (RdG HE w0 (.slice a m cp) l) := HR.out.kept (by rw [HN.out]; exact l0)
  clear hw0 b0 l0 s0
  by_cases h0 : m = 0
  · subst h0
    have HL : Hid (root nd em l = em) := (show _ = _ by rw [List.eq_nil_of_length_eq_zero HM.out, root_nil])
    go_wp2_with fail
    refine (hempty_any _ (HT.out.kept (L0.out.mono HNT.out))).mono ?_
    rintro e w1 ⟨rfl, hb1⟩
    have O1 := hide (O0.out.kept hb1)
    have L1 : Hid (Below N w w1) := L0.out.trans (hb1.mono (Nat.le_of_lt O0.out.lt))
    clear hb1
    go_wp2_with (first
      | (refine wpList_store_blk rfl 30 _ _ rfl N (By zh.1) (By em.1) 30 rfl rfl O1.out (by rw [By_len, By_len]) (Tryd.sizeH em) (By_one _) ?_; intro w2 hb2 hu2)
      | fail)
    refine bodyPost_ret (ret_hash rfl _ _ N em rfl hb2) rfl ⟨by rw [HL.out], ?_⟩
    rw [HN.out]
    exact L1.out.trans (hu2.below (Nat.le_refl _) (by have := O1.out.lt; omega))
  · by_cases h1 : m = 1
    · subst h1
      obtain ⟨b, off, rfl, hlb, hx⟩ := R0.out.nth (by omega)
      have hl0 : 0 < l.length := by rw [HM.out]; decide
      have hr0 : w0.rangeAt b off (By l[0].1) := by have := hx 0 hl0; simpa [HE] using this
      have HL : Hid (root nd em l = l[0]) := (show _ = _ by
        match l, HM.out with
        | [x], _ => exact root_one nd em x)
      generalize l[0] = x at *
      clear hx
      go_wp2_with (first
        | (refine wpList_load_mid rfl 30 _ rfl b off rfl (By x.1) _ hr0 Tryd.underlying30 rfl (Tryd.sizeH x) ?_)
        | (refine wpList_store_blk rfl 30 _ _ rfl N (By zh.1) (By x.1) 30 rfl rfl O0.out (by rw [By_len, By_len]) (Tryd.sizeH x) (By_one _) ?_; intro w2 hb2 hu2)
        | fail)
      refine bodyPost_ret (ret_hash rfl _ _ N x rfl hb2) rfl ⟨by rw [HL.out], ?_⟩
      rw [HN.out]
      exact L0.out.trans (hu2.below (Nat.le_refl _) (by have := O0.out.lt; omega))
    · have h2 : 2 ≤ m := by omega
      have HL : Hid (root nd em l = nd (root nd em (l.take (spl m))) (root nd em (l.drop (spl m)))) := (show _ = _ by rw [root_split nd em (by rw [HM.out]; exact h2), HM.out])
      have hk1 := spl_lt h2
      have hk0 := spl_pos h2
      have hm63 : (m : Int) ≤ 9223372036854775807 := by omega
      have C1 := hide (fun w => split_any (m : Int) hm63 w)
      rw [show ((m : Int)).toNat = m by omega] at C1
      generalize spl m = k at *
      obtain ⟨hs1, hs1r⟩ := slice_G_to (E := HE) (P := Tryd.prog) Tryd.underlying22 Tryd.size30 a m cp k (by omega) (by omega)
      obtain ⟨a2, hs2, -, hs2r⟩ := slice_G (E := HE) (P := Tryd.prog) Tryd.underlying22 Tryd.size30 a m cp k (by omega) (by omega)
      have RT := hide (hs1r _ _ R0.out)
      have RD := hide (hs2r _ _ R0.out)
      have HTL : Hid ((l.take k).length = k) := (show _ = _ by rw [List.length_take, HM.out]; omega)
      have HDL : Hid ((l.drop k).length = m - k) := (show _ = _ by rw [List.length_drop, HM.out])
      clear hs1r hs2r
      have q0 : ¬ (m : Int) = 0 := by omega
      have q1 : ¬ (m : Int) = 1 := by omega
      go_upto_region 7 with (first
        | (go_at_call 9; refine (C1.out _).mono ?_; rintro e w' ⟨rfl, rfl⟩)
        | fail)
      have T0 := hide (HT.out.kept (L0.out.mono HNT.out))
      refine wp_region_tail Tryd.mixed (KS (fun i_ => match i_ with | 0 | 4 => .val (.slice a m cp) | 1 | 5 => .val (.int .i64 (k : Int)) | 2 => .val (.slice a k cp) | 3 => .val (HV (root nd em (l.take k))) | 6 => .val (.slice a2 (m - k) (cp - k)) | 7 => .val (HV (root nd em (l.drop k))) | 8 => .val (HV (nd (root nd em (l.take k)) (root nd em (l.drop k)))) | _ => .free)) 26 rfl (by decide +kernel) 9 _ rfl (by decide +kernel) (KS_mono _) ?_ ?_
      · refine AllFrom.cons (fun a' w' hg hk hd => ?_) (AllFrom.cons (fun a' w' hg hk hd => ?_) (AllFrom.cons (fun a' w' hg hk hd => ?_) (AllFrom.cons (fun a' w' hg hk hd => ?_) (AllFrom.cons (fun a' w' hg hk hd => ?_) (AllFrom.cons (fun a' w' hg hk hd => ?_) (AllFrom.cons (fun a' w' hg hk hd => ?_) (AllFrom.cons (fun a' w' hg hk hd => ?_) (AllFrom.cons (fun a' w' hg hk hd => ?_) AllFrom.nil))))))))
        · skip
          intro Q
          have e0 : a'.eval (.tmp 0) = .slice a m cp := hk.at 0 (by decide +kernel)
          exact wp_value _ (by simp only [execOp, e0]; rfl) (KS_mkv rfl rfl)
        · skip
          intro Q
          have e3 : a'.eval (.tmp 3) = .int .i64 (k : Int) := hk.at 3 (by decide +kernel)
          exact wp_value _ (by simp only [execOp, e3]; rfl) (KS_mkv rfl rfl)
        · skip
          intro Q
          have e17 : a'.eval (.tmp 17) = .slice a m cp := KS_val (hd.val 0 17 (by decide +kernel)) rfl
          have e18 : a'.eval (.tmp 18) = .int .i64 (k : Int) := KS_val (hd.val 1 18 (by decide +kernel)) rfl
          exact wp_value _ (by simp only [execOp, e17, e18, hs1, Sem.run_bind, Result.andThen_ok, Option.map_none, Option.map_some]; rfl) (KS_mkv rfl rfl)
        · skip
          intro Q
          have e19 : a'.eval (.tmp 19) = .slice a k cp := KS_val (hd.val 2 19 (by decide +kernel)) rfl
          refine wp_call 8 _ (run_enter 8 _ _ rfl (by kernel_rfl)) ?_
          simp only [List.map_toArray, List.map_nil, List.map_cons, e19]
          refine (IH.out k (by omega) (l.take k) _ _ (T0.out.gr hg) (RT.out.kept hg) HTL.out).mono ?_
          rintro e w5 ⟨rfl, hb5⟩
          exact ⟨_, rfl, KS_mkv rfl rfl, hb5⟩
        · skip
          intro Q
          have e0 : a'.eval (.tmp 0) = .slice a m cp := hk.at 0 (by decide +kernel)
          exact wp_value _ (by simp only [execOp, e0]; rfl) (KS_mkv rfl rfl)
        · skip
          intro Q
          have e3 : a'.eval (.tmp 3) = .int .i64 (k : Int) := hk.at 3 (by decide +kernel)
          exact wp_value _ (by simp only [execOp, e3]; rfl) (KS_mkv rfl rfl)
        · skip
          intro Q
          have e21 : a'.eval (.tmp 21) = .slice a m cp := KS_val (hd.val 4 21 (by decide +kernel)) rfl
          have e22 : a'.eval (.tmp 22) = .int .i64 (k : Int) := KS_val (hd.val 5 22 (by decide +kernel)) rfl
          exact wp_value _ (by simp only [execOp, e21, e22, hs2, Sem.run_bind, Result.andThen_ok, Option.map_none, Option.map_some]; rfl) (KS_mkv rfl rfl)
        · skip
          intro Q
          have e23 : a'.eval (.tmp 23) = .slice a2 (m - k) (cp - k) := KS_val (hd.val 6 23 (by decide +kernel)) rfl
          refine wp_call 8 _ (run_enter 8 _ _ rfl (by kernel_rfl)) ?_
          simp only [List.map_toArray, List.map_nil, List.map_cons, e23]
          refine (IH.out (m - k) (by omega) (l.drop k) _ _ (T0.out.gr hg) (RD.out.kept hg) HDL.out).mono ?_
          rintro e w5 ⟨rfl, hb5⟩
          exact ⟨_, rfl, KS_mkv rfl rfl, hb5⟩
        · skip
          intro Q
          have e20 : a'.eval (.tmp 20) = HV (root nd em (l.take k)) := KS_val (hd.val 3 20 (by decide +kernel)) rfl
          have e24 : a'.eval (.tmp 24) = HV (root nd em (l.drop k)) := KS_val (hd.val 7 24 (by decide +kernel)) rfl
          refine wp_call 12 _ (run_enter 12 _ _ rfl (by kernel_rfl)) ?_
          simp only [List.map_toArray, List.map_nil, List.map_cons, e20, e24]
          refine (hnode_any _ _ _ (T0.out.gr hg)).mono ?_
          rintro e w5 ⟨rfl, hb5⟩
          exact ⟨_, rfl, KS_mkv rfl rfl, hb5⟩
      · intro a' w' hsz hdf hk hall hg
        have ev : a'.eval (.tmp 25) = HV (nd (root nd em (l.take k)) (root nd em (l.drop k))) := KS_val (hall 8 _ 25 (by decide) rfl rfl) rfl
        have ep : a'.eval (.tmp 2) = .pointer (some ⟨N, 0, none⟩) := hk.at 2 (by decide +kernel)
        have O1 := O0.out.kept hg
        have L1 : Below N w w' := L0.out.trans (Below.mono hg (Nat.le_of_lt O0.out.lt))
        rw [← HL.out] at ev
        refine wp_store_blk 30 _ _ rfl N (By zh.1) (By (root nd em l).1) 30 ep ev O1 (by rw [By_len, By_len]) (Tryd.sizeH _) (By_one _) ?_
        intro w2 hb2 hu2
        go_wp2
        refine bodyPost_ret (ret_hash rfl _ _ N (root nd em l) ?_ hb2) ?_ ⟨rfl, ?_⟩
        · exact ep
        · exact hdf
        · rw [HN.out]
          exact L1.trans (hu2.below (Nat.le_refl _) (by have := O1.lt; omega))
end Go.Proofs.YtinlpaabmojmkabDoor
