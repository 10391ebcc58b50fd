/-
  indenturelaw10.ProofJoins: the walk.
-/
import Derived.Test.YtfclmjfbcmjfbaaDoorHoldsWalk10
namespace Go.Proofs.YtfclmjfbcmjfbaaDoor
open Go.RowKit
theorem wrap64_nat {k : Nat} (h : k ≤ 1000) : wrap64 (k : Int) = (k : Int) := by
  unfold wrap64
  omega
theorem u64_nat {k : Nat} (h : k ≤ 1000) : IntKind.u64.wrap (k : Int) = (k : Int) := by
  rw [IntKind.wrap_u64]
  omega
theorem joins_arith {n x d yb y : Nat} (hx : x ≤ n) (h1 : n - x + 1 = d) (h2 : yb < d) (h3 : x + yb = y) : 1 ≤ d ∧ x ≤ y ∧ y ≤ n ∧ (n : Int) - (x : Int) + 1 = (d : Int) ∧ (x : Int) + (yb : Int) = (y : Int) ∧ ¬ (d : Int) = 0 ∧ d ≤ n + 1 := by omega
set_option maxHeartbeats 8000000 in
set_option maxRecDepth 100000 in
theorem proofJoins_any (L : List Hs) (v : Value) (ia ib : Nat) (w : World) (hT : Tabs w) (hL : RdG HE w v L) :
    Calls Tryd.prog 7 #[v, .int .u64 (ia : Int), .int .u64 (ib : Int)] w fun e w' => e = .returned (.bool true) ∧ Below w.heap.size w w' := by
  obtain ⟨N, HNw⟩ : ∃ N, Hid (w.heap.size = N) := ⟨_, rfl⟩
  have HNT : Hid (2 ≤ N) := (show 2 ≤ N by rw [← HNw.out]; exact hT.size)
  have HT := hide hT
  have RL := hide hL
  have CL := light_any v L w hL
  obtain ⟨p, cp, rfl⟩ := hL.slice
  have hcp := hL.cap
  obtain ⟨n, HN⟩ : ∃ n, Hid (L.length = n) := ⟨_, rfl⟩
  rw [HN.out] at RL hcp CL ⊢
  clear hT hL
  by_cases hn : n ≤ 60
  · rw [decide_eq_true hn] at CL
    have HCL := hide CL
    clear CL
    by_cases h0 : n < 2
    · have q0 : (n : Int) < 2 := by omega
      go_enter Tryd.func7, Tryd.ntmps7
      go_wp2_with fail
      refine HCL.out.mono ?_
      rintro e w1 ⟨rfl, hw1⟩
      subst w1
      go_wp2_with fail
      refine (lives_any w HT.out).mono ?_
      rintro e w2 ⟨rfl, hb2⟩
      go_wp2_with fail
      go_ret
      exact ⟨rfl, hb2⟩
    have q0 : ¬ (n : Int) < 2 := by omega
    obtain ⟨x, HX⟩ : ∃ k, Hid (1 + ia % n = k) := ⟨_, rfl⟩
    obtain ⟨xa, HXA⟩ : ∃ k, Hid (ia % n = k) := ⟨_, rfl⟩
    have hxn : 1 ≤ x ∧ x ≤ n := by have := Nat.mod_lt ia (show 0 < n by omega); have := HX.out; omega
    have hxa : xa < n := by rw [← HXA.out]; exact Nat.mod_lt _ (by omega)
    have h1 : (ia : Int) % (n : Int) = (xa : Int) := by rw [← HXA.out]; simp
    have h2 : wrap64 (xa : Int) = (xa : Int) := wrap64_nat (by omega)
    have h3 : (1 : Int) + (xa : Int) = (x : Int) := by have := HX.out; have := HXA.out; omega
    obtain ⟨d, HDd⟩ : ∃ d, Hid (n - x + 1 = d) := ⟨_, rfl⟩
    obtain ⟨yb, HYB⟩ : ∃ k, Hid (ib % d = k) := ⟨_, rfl⟩
    obtain ⟨y, HY⟩ : ∃ k, Hid (x + yb = k) := ⟨_, rfl⟩
    have hyb : yb < d := by rw [← HYB.out]; exact Nat.mod_lt _ (by rw [← HDd.out]; exact Nat.succ_pos _)
    obtain ⟨hd1, hy1, hy2, h4, h7, hd0, hdn⟩ := joins_arith hxn.2 HDd.out hyb HY.out
    have hyn : x ≤ y ∧ y ≤ n := ⟨hy1, hy2⟩
    have h5 : (ib : Int) % (d : Int) = (yb : Int) := by rw [← HYB.out]; simp
    have hyb1 : yb ≤ 1000 := Nat.le_trans (Nat.le_of_lt hyb) (Nat.le_trans hdn (Nat.le_trans (Nat.succ_le_succ hn) (by decide)))
    have h6 : wrap64 (yb : Int) = (yb : Int) := wrap64_nat hyb1
    have hwd : IntKind.u64.wrap (d : Int) = (d : Int) := u64_nat (Nat.le_trans hdn (Nat.le_trans (Nat.succ_le_succ hn) (by decide)))
    clear hy1 hy2 hyb1
    have hn0 : 0 < n := Nat.lt_of_lt_of_le hxn.1 hxn.2
    have hy60 : y ≤ 60 := Nat.le_trans hyn.2 hn
    have hy1 : 1 ≤ y := Nat.le_trans hxn.1 hyn.1
    have E1 := hide h1
    have E5 := hide h5
    clear h1 h5
    obtain ⟨b, off, rfl, hlb, -⟩ := RL.out.nth hn0
    have HC1 := hide (holds_grown L x y hxn.1 hyn.1 (by rw [HN.out]; exact hyn.2) hy60)
    have HC2 := hide (holds_grown L y L.length hy1 (by rw [HN.out]; exact hyn.2) (Nat.le_refl _) (by rw [HN.out]; exact hn))
    have HC3 := hide (holds_grown L x L.length hxn.1 (by rw [HN.out]; exact hxn.2) (Nat.le_refl _) (by rw [HN.out]; exact hn))
    rw [List.take_length, HN.out] at HC2 HC3
    obtain ⟨x0, HX0⟩ : ∃ x, Hid (root nd em L = x) := ⟨_, rfl⟩
    obtain ⟨x1, HX1⟩ : ∃ z, Hid (root nd em (L.take x) = z) := ⟨_, rfl⟩
    obtain ⟨x2, HX2⟩ : ∃ z, Hid (root nd em (L.take y) = z) := ⟨_, rfl⟩
    obtain ⟨G1, HG1⟩ : ∃ P, Hid (grownC (L.take y) (x : Int) = P) := ⟨_, rfl⟩
    obtain ⟨G2, HG2⟩ : ∃ P, Hid (grownC L (y : Int) = P) := ⟨_, rfl⟩
    obtain ⟨G3, HG3⟩ : ∃ P, Hid (grownC L (x : Int) = P) := ⟨_, rfl⟩
    rw [HX1.out, HX2.out, HG1.out] at HC1
    rw [HX2.out, HX0.out, HG2.out] at HC2
    rw [HX1.out, HX0.out, HG3.out] at HC3
    have HTY : Hid ((L.take y).length = y) := (show _ = _ by rw [List.length_take, HN.out]; omega)
    obtain ⟨hsx, hsxr⟩ := slice_G_to (E := HE) (P := Tryd.prog) Tryd.underlying22 Tryd.size30 (some ⟨b, off, none⟩) n cp x hxn.2 hcp
    obtain ⟨hsy, hsyr⟩ := slice_G_to (E := HE) (P := Tryd.prog) Tryd.underlying22 Tryd.size30 (some ⟨b, off, none⟩) n cp y hyn.2 hcp
    have HSX := hide hsxr
    have HSY := hide hsyr
    have Lw : Hid (Below N w w) := Below.refl _ _
    have Sw : Hid (N ≤ w.heap.size) := (show N ≤ w.heap.size by rw [HNw.out]; exact Nat.le_refl _)
    have Tw := HT
    have RYw := hide (hsyr w L RL.out)
    clear hsxr hsyr hlb
    go_enter Tryd.func7, Tryd.ntmps7
    go_wp2_with fail
    refine HCL.out.mono ?_
    rintro e w1 ⟨rfl, hw1⟩
    subst w1
    have h1 := E1.out
    go_upto_region 4 with fail
    clear h1
    have h5 := E5.out
    go_upto_region 5 with fail
    clear h5
    have CG := grown_any _ (L.take y) (x : Int) (by rw [HTY.out]; omega) w Tw.out RYw.out
    rw [HTY.out, HG1.out, decide_eq_true (by omega : (1 : Int) ≤ (x : Int) ∧ (x : Int) ≤ (y : Int))] at CG
    have HCG := hide CG
    clear CG
    go_wp2_with fail
    refine HCG.out.mono ?_
    clear HCG
    rintro e w5 ⟨⟨gv, rfl, ho⟩, hb⟩
    obtain ⟨g1, k1, hgv⟩ := ho.rd.slice
    obtain ⟨lG1, HLG1⟩ : ∃ ng, Hid ((G1 : List Hs).length = ng) := ⟨_, rfl⟩
    have RG10 := hide ho.rd
    rw [HLG1.out] at hgv
    rw [hgv] at RG10
    subst hgv
    have Lw5 : Hid (Below N w w5) := Lw.out.trans (hb.mono Sw.out)
    have Sw5 : Hid (N ≤ w5.heap.size) := Nat.le_trans Sw.out hb.size
    have Tw5 : Hid (Tabs w5) := HT.out.kept (Lw5.out.mono HNT.out)
    have Gw5 : Hid (Below w.heap.size w w5) := hb
    have RLw5 := hide (RL.out.kept (show Below w.heap.size w w5 by rw [HNw.out]; exact Lw5.out))
    clear hb ho
    have CG := grown_any _ (L) (y : Int) (by rw [HN.out]; omega) w5 Tw5.out RLw5.out
    rw [HN.out, HG2.out, decide_eq_true (by omega : (1 : Int) ≤ (y : Int) ∧ (y : Int) ≤ (n : Int))] at CG
    have HCG := hide CG
    clear CG
    go_wp2_with fail
    refine HCG.out.mono ?_
    clear HCG
    rintro e w6 ⟨⟨gv, rfl, ho⟩, hb⟩
    obtain ⟨g2, k2, hgv⟩ := ho.rd.slice
    obtain ⟨lG2, HLG2⟩ : ∃ ng, Hid ((G2 : List Hs).length = ng) := ⟨_, rfl⟩
    have RG20 := hide ho.rd
    rw [HLG2.out] at hgv
    rw [hgv] at RG20
    subst hgv
    have Lw6 : Hid (Below N w w6) := Lw5.out.trans (hb.mono Sw5.out)
    have Sw6 : Hid (N ≤ w6.heap.size) := Nat.le_trans Sw5.out hb.size
    have Tw6 : Hid (Tabs w6) := HT.out.kept (Lw6.out.mono HNT.out)
    have Gw6 : Hid (Below w5.heap.size w5 w6) := hb
    have RLw6 := hide (RL.out.kept (show Below w.heap.size w w6 by rw [HNw.out]; exact Lw6.out))
    clear hb ho
    have CG := grown_any _ (L) (x : Int) (by rw [HN.out]; omega) w6 Tw6.out RLw6.out
    rw [HN.out, HG3.out, decide_eq_true (by omega : (1 : Int) ≤ (x : Int) ∧ (x : Int) ≤ (n : Int))] at CG
    have HCG := hide CG
    clear CG
    go_wp2_with fail
    refine HCG.out.mono ?_
    clear HCG
    rintro e w7 ⟨⟨gv, rfl, ho⟩, hb⟩
    obtain ⟨g3, k3, hgv⟩ := ho.rd.slice
    obtain ⟨lG3, HLG3⟩ : ∃ ng, Hid ((G3 : List Hs).length = ng) := ⟨_, rfl⟩
    have RG30 := hide ho.rd
    rw [HLG3.out] at hgv
    rw [hgv] at RG30
    subst hgv
    have Lw7 : Hid (Below N w w7) := Lw6.out.trans (hb.mono Sw6.out)
    have Sw7 : Hid (N ≤ w7.heap.size) := Nat.le_trans Sw6.out hb.size
    have Tw7 : Hid (Tabs w7) := HT.out.kept (Lw7.out.mono HNT.out)
    have Gw7 : Hid (Below w6.heap.size w6 w7) := hb
    have RLw7 := hide (RL.out.kept (show Below w.heap.size w w7 by rw [HNw.out]; exact Lw7.out))
    clear hb ho
    have RX7 := hide (HSX.out w7 L RLw7.out)
    have RY7 := hide (HSY.out w7 L RLw7.out)
    have RL7 := RLw7
    have RG17 : Hid (RdG HE w7 (.slice g1 lG1 k1) G1) := (RG10.out.kept Gw6.out).kept Gw7.out
    have RG27 : Hid (RdG HE w7 (.slice g2 lG2 k2) G2) := RG20.out.kept Gw7.out
    have RG37 := RG30
    go_upto_region 8 with fail
    refine wp_region_cells Tryd.mixed (KS (fun i_ => match i_ with | 0 | 4 | 8 => .val (.slice (some ⟨b, off, none⟩) n cp) | 1 => .val (.int .i64 (x : Int)) | 2 => .val (.slice (some ⟨b, off, none⟩) x cp) | 3 => .val (HV x1) | 5 => .val (.int .i64 (y : Int)) | 6 => .val (.slice (some ⟨b, off, none⟩) y cp) | 7 => .val (HV x2) | 9 => .val (HV x0) | _ => .free)) [⟨10, 15, 13, 30, By zh.1, By x1.1⟩, ⟨11, 16, 14, 30, By zh.1, By x2.1⟩, ⟨12, 17, 15, 30, By zh.1, By x0.1⟩] 111 rfl (by decide +kernel) (KS_mono_val _ (fun i => by split <;> exact fun _ _ _ h => h)) (by intro c hc c' hc' e; simp only [List.mem_cons, List.not_mem_nil, or_false] at hc hc'; rcases hc with rfl | rfl | rfl <;> rcases hc' with rfl | rfl | rfl <;> first | rfl | (simp at e)) (by intro c hc c' hc' e; simp only [List.mem_cons, List.not_mem_nil, or_false] at hc hc'; rcases hc with rfl | rfl | rfl <;> rcases hc' with rfl | rfl | rfl <;> first | rfl | (simp at e)) (by intro c hc; simp only [List.mem_cons, List.not_mem_nil, or_false] at hc; rcases hc with rfl | rfl | rfl <;> rfl) ?_ ?_
    · refine AllFrom.cons ?_ (AllFrom.cons ?_ (AllFrom.cons ?_ (AllFrom.cons ?_ (AllFrom.cons ?_ (AllFrom.cons ?_ (AllFrom.cons ?_ (AllFrom.cons ?_ (AllFrom.cons ?_ (AllFrom.cons ?_ (AllFrom.cons ?_ (AllFrom.cons ?_ (AllFrom.cons ?_ (AllFrom.cons ?_ (AllFrom.cons ?_ (AllFrom.cons ?_ AllFrom.nil)))))))))))))))
      · skip
        refine .val rfl (notI rfl) (notS rfl) (fun a' w' hb hk hd Q => ?_)
        have e0 : a'.eval (.tmp 0) = .slice (some ⟨b, off, none⟩) n cp := hk.at 0 (by decide +kernel)
        exact wp_value _ (by simp only [execOp, e0]; rfl) (KS_mkv rfl rfl)
      · skip
        refine .val rfl (notI rfl) (notS rfl) (fun a' w' hb hk hd Q => ?_)
        have e7 : a'.eval (.tmp 7) = .int .i64 (x : Int) := hk.at 7 (by decide +kernel)
        exact wp_value _ (by simp only [execOp, e7]; rfl) (KS_mkv rfl rfl)
      · skip
        refine .val rfl (notI rfl) (notS rfl) (fun a' w' hb hk hd Q => ?_)
        have e65 : a'.eval (.tmp 65) = .slice (some ⟨b, off, none⟩) n cp := KS_val (hd 0 65 (by decide +kernel) (notI rfl)) rfl
        have e66 : a'.eval (.tmp 66) = .int .i64 (x : Int) := KS_val (hd 1 66 (by decide +kernel) (notI rfl)) rfl
        exact wp_value _ (by simp only [execOp, e65, e66, hsx, Sem.run_bind, Result.andThen_ok, Option.map_none, Option.map_some]; rfl) (KS_mkv rfl rfl)
      · skip
        refine .val rfl (notI rfl) (notS rfl) (fun a' w' hb hk hd Q => ?_)
        have e67 : a'.eval (.tmp 67) = .slice (some ⟨b, off, none⟩) x cp := KS_val (hd 2 67 (by decide +kernel) (notI rfl)) rfl
        have CC := nroot_any (L.take x) _ w' (RX7.out.kept (show Below w7.heap.size w7 w' from hb))
        rw [HX1.out] at CC
        refine wp_call 22 _ (run_enter 22 _ _ rfl (by kernel_rfl)) ?_
        simp only [List.map_toArray, List.map_nil, List.map_cons, e67]
        refine CC.mono ?_
        rintro e w5 ⟨rfl, hb5⟩
        exact ⟨_, rfl, KS_mkv rfl rfl, hb5⟩
      · skip
        refine .val rfl (notI rfl) (notS rfl) (fun a' w' hb hk hd Q => ?_)
        have e0 : a'.eval (.tmp 0) = .slice (some ⟨b, off, none⟩) n cp := hk.at 0 (by decide +kernel)
        exact wp_value _ (by simp only [execOp, e0]; rfl) (KS_mkv rfl rfl)
      · skip
        refine .val rfl (notI rfl) (notS rfl) (fun a' w' hb hk hd Q => ?_)
        have e8 : a'.eval (.tmp 8) = .int .i64 (y : Int) := hk.at 8 (by decide +kernel)
        exact wp_value _ (by simp only [execOp, e8]; rfl) (KS_mkv rfl rfl)
      · skip
        refine .val rfl (notI rfl) (notS rfl) (fun a' w' hb hk hd Q => ?_)
        have e69 : a'.eval (.tmp 69) = .slice (some ⟨b, off, none⟩) n cp := KS_val (hd 4 69 (by decide +kernel) (notI rfl)) rfl
        have e70 : a'.eval (.tmp 70) = .int .i64 (y : Int) := KS_val (hd 5 70 (by decide +kernel) (notI rfl)) rfl
        exact wp_value _ (by simp only [execOp, e69, e70, hsy, Sem.run_bind, Result.andThen_ok, Option.map_none, Option.map_some]; rfl) (KS_mkv rfl rfl)
      · skip
        refine .val rfl (notI rfl) (notS rfl) (fun a' w' hb hk hd Q => ?_)
        have e71 : a'.eval (.tmp 71) = .slice (some ⟨b, off, none⟩) y cp := KS_val (hd 6 71 (by decide +kernel) (notI rfl)) rfl
        have CC := nroot_any (L.take y) _ w' (RY7.out.kept (show Below w7.heap.size w7 w' from hb))
        rw [HX2.out] at CC
        refine wp_call 22 _ (run_enter 22 _ _ rfl (by kernel_rfl)) ?_
        simp only [List.map_toArray, List.map_nil, List.map_cons, e71]
        refine CC.mono ?_
        rintro e w5 ⟨rfl, hb5⟩
        exact ⟨_, rfl, KS_mkv rfl rfl, hb5⟩
      · skip
        refine .val rfl (notI rfl) (notS rfl) (fun a' w' hb hk hd Q => ?_)
        have e0 : a'.eval (.tmp 0) = .slice (some ⟨b, off, none⟩) n cp := hk.at 0 (by decide +kernel)
        exact wp_value _ (by simp only [execOp, e0]; rfl) (KS_mkv rfl rfl)
      · skip
        refine .val rfl (notI rfl) (notS rfl) (fun a' w' hb hk hd Q => ?_)
        have e73 : a'.eval (.tmp 73) = .slice (some ⟨b, off, none⟩) n cp := KS_val (hd 8 73 (by decide +kernel) (notI rfl)) rfl
        have CC := nroot_any (L) _ w' (RL7.out.kept (show Below w7.heap.size w7 w' from hb))
        rw [HX0.out] at CC
        refine wp_call 22 _ (run_enter 22 _ _ rfl (by kernel_rfl)) ?_
        simp only [List.map_toArray, List.map_nil, List.map_cons, e73]
        refine CC.mono ?_
        rintro e w5 ⟨rfl, hb5⟩
        exact ⟨_, rfl, KS_mkv rfl rfl, hb5⟩
      · skip
        refine .new rfl _ (List.Mem.head _) rfl (notS rfl) rfl (fun a' w' => ?_)
        simp only [execOp]; go_simp; rfl
      · skip
        refine .new rfl _ (List.Mem.tail _ (List.Mem.head _)) rfl (notS rfl) rfl (fun a' w' => ?_)
        simp only [execOp]; go_simp; rfl
      · skip
        refine .new rfl _ (List.Mem.tail _ (List.Mem.tail _ (List.Mem.head _))) rfl (notS rfl) rfl (fun a' w' => ?_)
        simp only [execOp]; go_simp; rfl
      · skip
        refine .put rfl _ (List.Mem.head _) (notI rfl) rfl rfl (.tmp 68) rfl (by kernel_rfl) (fun a' w' hb hk hd => ?_) (by rw [By_len, By_len]) (Tryd.sizeH x1) (By_one _)
        have e68 : a'.eval (.tmp 68) = HV x1 := KS_val (hd 3 68 (by decide +kernel) (notI rfl)) rfl
        exact e68
      · skip
        refine .put rfl _ (List.Mem.tail _ (List.Mem.head _)) (notI rfl) rfl rfl (.tmp 72) rfl (by kernel_rfl) (fun a' w' hb hk hd => ?_) (by rw [By_len, By_len]) (Tryd.sizeH x2) (By_one _)
        have e72 : a'.eval (.tmp 72) = HV x2 := KS_val (hd 7 72 (by decide +kernel) (notI rfl)) rfl
        exact e72
      · skip
        refine .put rfl _ (List.Mem.tail _ (List.Mem.tail _ (List.Mem.head _))) (notI rfl) rfl rfl (.tmp 74) rfl (by kernel_rfl) (fun a' w' hb hk hd => ?_) (by rw [By_len, By_len]) (Tryd.sizeH x0) (By_one _)
        have e74 : a'.eval (.tmp 74) = HV x0 := KS_val (hd 9 74 (by decide +kernel) (notI rfl)) rfl
        exact e74
    intro a' w8 hsz hdf hk hall hb8 hBB
    obtain ⟨BF, hB1, -⟩ := hBB
    obtain ⟨E15, hl15, BA⟩ := hB1 _ (List.Mem.head _) (show (10 : Nat) < 16 by decide) (show (13 : Nat) < 16 by decide)
    obtain ⟨E16, hl16, BB⟩ := hB1 _ (List.Mem.tail _ (List.Mem.head _)) (show (11 : Nat) < 16 by decide) (show (14 : Nat) < 16 by decide)
    obtain ⟨E17, hl17, BC⟩ := hB1 _ (List.Mem.tail _ (List.Mem.tail _ (List.Mem.head _))) (show (12 : Nat) < 16 by decide) (show (15 : Nat) < 16 by decide)
    simp only at E15 E16 E17 BA BB BC
    clear hB1 hl15 hl16 hl17
    generalize BF 10 = ea at E15 BA
    generalize BF 11 = eb at E16 BB
    generalize BF 12 = ec at E17 BC
    have e65 : a'.eval (.tmp 65) = .slice (some ⟨b, off, none⟩) n cp := KS_val (hall 0 _ 65 rfl (notI rfl) rfl) rfl
    have e66 : a'.eval (.tmp 66) = .int .i64 (x : Int) := KS_val (hall 1 _ 66 rfl (notI rfl) rfl) rfl
    have e67 : a'.eval (.tmp 67) = .slice (some ⟨b, off, none⟩) x cp := KS_val (hall 2 _ 67 rfl (notI rfl) rfl) rfl
    have e68 : a'.eval (.tmp 68) = HV x1 := KS_val (hall 3 _ 68 rfl (notI rfl) rfl) rfl
    have e69 : a'.eval (.tmp 69) = .slice (some ⟨b, off, none⟩) n cp := KS_val (hall 4 _ 69 rfl (notI rfl) rfl) rfl
    have e70 : a'.eval (.tmp 70) = .int .i64 (y : Int) := KS_val (hall 5 _ 70 rfl (notI rfl) rfl) rfl
    have e71 : a'.eval (.tmp 71) = .slice (some ⟨b, off, none⟩) y cp := KS_val (hall 6 _ 71 rfl (notI rfl) rfl) rfl
    have e72 : a'.eval (.tmp 72) = HV x2 := KS_val (hall 7 _ 72 rfl (notI rfl) rfl) rfl
    have e73 : a'.eval (.tmp 73) = .slice (some ⟨b, off, none⟩) n cp := KS_val (hall 8 _ 73 rfl (notI rfl) rfl) rfl
    have e74 : a'.eval (.tmp 74) = HV x0 := KS_val (hall 9 _ 74 rfl (notI rfl) rfl) rfl
    have ha := act_puts 111 rfl hsz hdf hk [65, 66, 67, 68, 69, 70, 71, 72, 73, 74, 15, 16, 17] (by decide +kernel)
    simp only [puts, List.foldl_cons, List.foldl_nil, e65, e66, e67, e68, e69, e70, e71, e72, e73, e74, E15, E16, E17] at ha
    simp only [Act.put, List.setIfInBounds_toArray, List.set_cons_succ, List.set_cons_zero] at ha
    clear hall hk hsz hdf e65 e66 e67 e68 e69 e70 e71 e72 e73 e74 E15 E16 E17
    subst ha
    have BA8 := hide BA
    have BB8 := hide BB
    have BC8 := hide BC
    have L8 : Hid (Below N w w8) := Lw7.out.trans (Below.mono hb8 Sw7.out)
    have S8 : Hid (N ≤ w8.heap.size) := Nat.le_trans Sw7.out hb8.size
    have T8 : Hid (Tabs w8) := HT.out.kept (L8.out.mono HNT.out)
    have R18 := hide (RG17.out.kept hb8)
    have R28 := hide (RG27.out.kept hb8)
    have R38 := hide (RG37.out.kept hb8)
    have ra : w8.rangeAt ea 0 (By x1.1) := BA.range0
    have rb : w8.rangeAt eb 0 (By x2.1) := BB.range0
    clear hb8 BA BB BC
    go_wp2_with (first
      | (refine wpList_load_w9 (by rfl) 30 _ rfl ea 0 rfl (By x1.1) _ ra Tryd.underlying30 rfl (Tryd.sizeH x1) ?_)
      | (refine wpList_load_w9 (by rfl) 30 _ rfl eb 0 rfl (By x2.1) _ rb Tryd.underlying30 rfl (Tryd.sizeH x2) ?_)
      | fail)
    have C1 := checks_any x1 x2 (x : Int) (y : Int) _ G1 w8 T8.out R18.out
    rw [HC1.out] at C1
    refine C1.mono ?_
    clear C1
    rintro e w9 ⟨rfl, hb9⟩
    have rb9 : w9.rangeAt eb 0 (By x2.1) := (BB8.out.kept hb9).range0
    have rc9 : w9.rangeAt ec 0 (By x0.1) := (BC8.out.kept hb9).range0
    have BA9 := hide (BA8.out.kept hb9)
    have BC9 := hide (BC8.out.kept hb9)
    have L9 : Hid (Below N w w9) := L8.out.trans (hb9.mono S8.out)
    have S9 : Hid (N ≤ w9.heap.size) := Nat.le_trans S8.out hb9.size
    have T9 : Hid (Tabs w9) := HT.out.kept (L9.out.mono HNT.out)
    have R29 := hide (R28.out.kept hb9)
    have R39 := hide (R38.out.kept hb9)
    clear hb9 ra rb
    go_wp2_with (first
      | (refine wpList_load_w9 (by rfl) 30 _ rfl eb 0 rfl (By x2.1) _ rb9 Tryd.underlying30 rfl (Tryd.sizeH x2) ?_)
      | (refine wpList_load_w9 (by rfl) 30 _ rfl ec 0 rfl (By x0.1) _ rc9 Tryd.underlying30 rfl (Tryd.sizeH x0) ?_)
      | fail)
    have C2 := checks_any x2 x0 (y : Int) (n : Int) _ G2 w9 T9.out R29.out
    rw [HC2.out] at C2
    refine C2.mono ?_
    clear C2
    rintro e w10 ⟨rfl, hb10⟩
    have ra0 : w10.rangeAt ea 0 (By x1.1) := (BA9.out.kept hb10).range0
    have rc0 : w10.rangeAt ec 0 (By x0.1) := (BC9.out.kept hb10).range0
    have L10 : Hid (Below N w w10) := L9.out.trans (hb10.mono S9.out)
    have S10 : Hid (N ≤ w10.heap.size) := Nat.le_trans S9.out hb10.size
    have T10 : Hid (Tabs w10) := HT.out.kept (L10.out.mono HNT.out)
    have R30 := hide (R39.out.kept hb10)
    clear hb10 rb9 rc9
    go_wp2_with (first
      | (refine wpList_load_w9 (by rfl) 30 _ rfl ea 0 rfl (By x1.1) _ ra0 Tryd.underlying30 rfl (Tryd.sizeH x1) ?_)
      | (refine wpList_load_w9 (by rfl) 30 _ rfl ec 0 rfl (By x0.1) _ rc0 Tryd.underlying30 rfl (Tryd.sizeH x0) ?_)
      | fail)
    have C3 := checks_any x1 x0 (x : Int) (n : Int) _ G3 w10 T10.out R30.out
    rw [HC3.out] at C3
    refine C3.mono ?_
    clear C3
    rintro e w11 ⟨rfl, hb11⟩
    have L11 : Hid (Below N w w11) := L10.out.trans (hb11.mono S10.out)
    have S11 : Hid (N ≤ w11.heap.size) := Nat.le_trans S10.out hb11.size
    clear hb11 ra0 rc0
    go_wp2_with fail
    refine (lives_any w11 (HT.out.kept (L11.out.mono HNT.out))).mono ?_
    rintro e w12 ⟨rfl, hb12⟩
    go_wp2_with fail
    go_ret
    exact ⟨rfl, by rw [HNw.out]; exact L11.out.trans (hb12.mono S11.out)⟩
  · rw [decide_eq_false hn] at CL
    have HCL := hide CL
    clear CL
    go_enter Tryd.func7, Tryd.ntmps7
    go_wp2_with fail
    refine HCL.out.mono ?_
    rintro e w1 ⟨rfl, hw1⟩
    subst w1
    go_wp2_with fail
    refine (lives_any w HT.out).mono ?_
    rintro e w2 ⟨rfl, hb2⟩
    go_wp2_with fail
    go_ret
    exact ⟨rfl, hb2⟩
#print axioms proofJoins_any
end Go.Proofs.YtfclmjfbcmjfbaaDoor
