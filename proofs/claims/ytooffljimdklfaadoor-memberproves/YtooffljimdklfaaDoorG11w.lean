/-
  Texts that ride together: TrJ TrW TrG TrD TrT.
-/
import Derived.Test.YtooffljimdklfaaDoorG11n
import Derived.Test.YtooffljimdklfaaDoorG11p
/-
  trie.fork: what the call does.
-/
namespace Go.Proofs.YtooffljimdklfaaDoor
open Go.RowKit
theorem pv_no {ps : List Nat} {i : Nat} (h : i ∉ ps) (j : Nat) : ¬ ps[j]? = some i := fun e => h (List.mem_of_getElem? e)
theorem pv_at {ps : List Nat} {i m j : Nat} (hn : ps.Nodup) (hm : ps[m]? = some i) (hj : ps[j]? = some i) : j = m := (List.getElem?_inj (List.getElem?_eq_some_iff.1 hj).1 hn).1 (hj.trans hm.symm)
theorem wp_same {P : Program} {o : Oper} {a : Act} {w : World} {C : World → Prop} {Q : Exit → Act → World → Prop} (v : Value) (hrun : (execOp a.eval o).run P w = .ok (.value v) w) (hC : C w) : o.wp P a w (fun a' w' => a' = a.put o.dst v ∧ C w') Q := by
  unfold Oper.wp
  rw [hrun]
  exact ⟨rfl, hC⟩
/-- A pointer stored into a block. -/
theorem wp_store_ptr {w : World} {o : Oper} {a : Act} {K : Act → World → Prop} {Q : Exit → Act → World → Prop} (x y : Operand) (ho : o.op = .store 58 x y) (b j : Nat) (T : TypeId) (cs : List Value) (p : Option Addr)
    (hx : a.eval x = .pointer (some ⟨b, j, none⟩)) (hy : a.eval y = .pointer p) (hB : Blk w b T cs) {u : Value} (hc : w.cell? ⟨b, j, none⟩ = some u) (h : ∀ w', Blk w' b T (cs.set j (.pointer p)) → But b w w' → K (a.put o.dst undef) w') : o.wp Tryd.prog a w K Q := by
  have hf := hB.frozen j
  have hrun : (execOp a.eval o).run Tryd.prog w = .ok .skip (w.setCell ⟨b, j, none⟩ (.pointer p)) := by
    simp only [execOp, ho, hx, hy]
    go_simp
  unfold Oper.wp
  rw [hrun]
  exact h _ (hB.set j (.pointer p)) (But.setCell b w j _)
/-- The least key below a node stands in it. -/
theorem Nd.first {B0 : Nat} {w : World} {b : Nat} {L : List It} (h : Nd B0 w b L) : ∃ k : Hs, L.head?.map (·.1) = some k ∧ w.rangeAt b 1 (By k.1) := by
  obtain ⟨-, i, k, v, l, r, d, hh, hB, -, h1⟩ := Nd.iff.1 h
  refine ⟨k, ?_, NC.key hB⟩
  rcases h1 with ⟨rfl, _⟩ | ⟨A, B, bl, br, hF, hk, _⟩
  · rfl
  · obtain ⟨a, A', rfl⟩ := List.exists_cons_of_ne_nil hF.hA
    rw [hF.eq]
    exact hk
set_option maxHeartbeats 2000000 in
set_option maxRecDepth 100000 in
theorem kfork0_any {B0 : Nat} {i : Nat} {L A B : List It} {bl br : Nat} (w : World) (hF : Forks L i A B) (hA : Nd B0 w bl A) (hB : Nd B0 w br B) (hB0 : B0 ≤ w.heap.size) :
    Calls Tryd.prog 60 #[.int .i64 (i : Int), .int .i64 0, PT bl, PT br] w fun e w' => ∃ b, e = .returned (PT b) ∧ w.heap.size ≤ b ∧ Nd B0 w' b L ∧ Below w.heap.size w w' := by
    obtain ⟨N, HN⟩ : ∃ N, Hid (w.heap.size = N) := ⟨_, rfl⟩
    have hlA : bl < N := by rw [← HN.out]; exact hA.lt
    have hlB : br < N := by rw [← HN.out]; exact hB.lt
    rw [HN.out] at hB0 ⊢
    have HA := hide hA
    have HB := hide hB
    clear hA hB
    go_enter Tryd.func60, Tryd.ntmps60
    go_upto_region 2 with (first
      | (refine wpList_build_fork rfl _ rfl (i : Int) rfl ?_)
      | fail)
    obtain ⟨w1, hw1⟩ : ∃ z, z = w.alloc (.cells (NC (i : Int) zh zh (.pointer none) (.pointer none) 0 0 zh).toArray 101 (0, 0)) := ⟨_, rfl⟩
    change Code.wp _ _ _ _ (w.alloc (.cells (NC (i : Int) zh zh (.pointer none) (.pointer none) 0 0 zh).toArray 101 (0, 0)))
    rw [← hw1, HN.out]
    obtain ⟨D, HD⟩ : ∃ D, Hid (N = D) := ⟨_, rfl⟩
    have hND : N ≤ D := Nat.le_of_eq HD.out
    have BD : Hid (Blk w1 D 101 (NC (i : Int) zh zh (.pointer none) (.pointer none) 0 0 zh)) := (show Blk _ _ _ _ by rw [hw1, ← HD.out, ← HN.out]; exact Blk.new w 101 _)
    have L1 : Hid (Below N w w1) := (show Below _ _ _ by rw [hw1, ← HN.out]; exact (Below.refl _ _).alloc (Nat.le_refl _) _)
    clear hw1
    have hDN : Hid (D = N) := HD.out.symm
    generalize hDD : (⟨N, 0, none⟩ : Addr) = AD
    rw [HD.out] at hDD
    subst hDD
    refine pivots_by (jl_wp Tryd.mixed) (fun i_ => match i_ with | 0 | 2 | 7 | 11 => .pointer (some ⟨D, 0, none⟩) | 1 | 3 => .int .i64 0 | 4 => .int .i64 1 | 5 => PT bl | 6 => PT br | 8 | 9 | 12 => .pointer (some ⟨D, 65, none⟩) | 10 => undef | _ => undef) (fun b_ w' => Blk w' D 101 (NC i zh zh (if b_ = 1 then PT bl else .pointer none) (.pointer none) 0 0 zh) ∧ Below N w w') [10] 38 rfl (by decide +kernel) 13 (by decide) (by decide) (by decide) (by decide +kernel) (by decide +kernel) ?_ ?_ ?_
    · intro w' hh hg
      exact ⟨by simpa using BD.out.kept hg, L1.out.trans (hg.mono (Nat.le_trans hND (Nat.le_of_lt BD.out.lt)))⟩
    · refine AllFrom.cons ⟨rfl, ?_, ?_⟩ (AllFrom.cons ⟨rfl, ?_, ?_⟩ (AllFrom.cons ⟨rfl, ?_, ?_⟩ (AllFrom.cons ⟨rfl, ?_, ?_⟩ (AllFrom.cons ⟨rfl, ?_, ?_⟩ (AllFrom.cons ⟨rfl, ?_, ?_⟩ (AllFrom.cons ⟨rfl, ?_, ?_⟩ (AllFrom.cons ⟨rfl, ?_, ?_⟩ (AllFrom.cons ⟨rfl, ?_, ?_⟩ (AllFrom.cons ⟨rfl, ?_, ?_⟩ (AllFrom.cons ⟨rfl, ?_, ?_⟩ (AllFrom.cons ⟨rfl, ?_, ?_⟩ (AllFrom.cons ⟨rfl, ?_, ?_⟩ AllFrom.nil))))))))))))
      · intro _ a' b' w' hC hk hd Q
        have e9 : a'.eval (.tmp 9) = .pointer (some ⟨D, 0, none⟩) := hk.at 9 (by decide +kernel)
        exact wp_same _ (by simp only [execOp, e9]; rfl) hC
      · intro j hj; exact absurd hj (pv_no (by decide) _)
      · intro _ a' b' w' hC hk hd Q
        have e1 : a'.eval (.tmp 1) = .int .i64 0 := hk.at 1 (by decide +kernel)
        exact wp_same _ (by simp only [execOp, e1]; rfl) hC
      · intro j hj; exact absurd hj (pv_no (by decide) _)
      · intro _ a' b' w' hC hk hd Q
        have e9 : a'.eval (.tmp 9) = .pointer (some ⟨D, 0, none⟩) := hk.at 9 (by decide +kernel)
        exact wp_same _ (by simp only [execOp, e9]; rfl) hC
      · intro j hj; exact absurd hj (pv_no (by decide) _)
      · intro _ a' b' w' hC hk hd Q
        have e1 : a'.eval (.tmp 1) = .int .i64 0 := hk.at 1 (by decide +kernel)
        exact wp_same _ (by simp only [execOp, e1]; rfl) hC
      · intro j hj; exact absurd hj (pv_no (by decide) _)
      · intro _ a' b' w' hC hk hd Q
        have e16 : a'.eval (.tmp 16) = .int .i64 0 := hd 3 16 (by decide +kernel)
        exact wp_same _ (by clear hd hk hC; simp only [execOp, e16]; go_simp; first | done | rfl | decide) hC
      · intro j hj; exact absurd hj (pv_no (by decide) _)
      · intro _ a' b' w' hC hk hd Q
        have e2 : a'.eval (.tmp 2) = PT bl := hk.at 2 (by decide +kernel)
        exact wp_same _ (by simp only [execOp, e2]; rfl) hC
      · intro j hj; exact absurd hj (pv_no (by decide) _)
      · intro _ a' b' w' hC hk hd Q
        have e3 : a'.eval (.tmp 3) = PT br := hk.at 3 (by decide +kernel)
        exact wp_same _ (by simp only [execOp, e3]; rfl) hC
      · intro j hj; exact absurd hj (pv_no (by decide) _)
      · intro _ a' b' w' hC hk hd Q
        have e13 : a'.eval (.tmp 13) = .pointer (some ⟨D, 0, none⟩) := hd 0 13 (by decide +kernel)
        exact wp_same _ (by clear hd hk hC; simp only [execOp, e13]; go_simp) hC
      · intro j hj; exact absurd hj (pv_no (by decide) _)
      · intro _ a' b' w' hC hk hd Q
        have e20 : a'.eval (.tmp 20) = .pointer (some ⟨D, 0, none⟩) := hd 7 20 (by decide +kernel)
        exact wp_same _ (by clear hd hk hC; simp only [execOp, e20]; go_simp) hC
      · intro j hj; exact absurd hj (pv_no (by decide) _)
      · intro _ a' b' w' hC hk hd Q
        have e14 : a'.eval (.tmp 14) = .int .i64 0 := hd 1 14 (by decide +kernel)
        have e21 : a'.eval (.tmp 21) = .pointer (some ⟨D, 65, none⟩) := hd 8 21 (by decide +kernel)
        exact wp_same _ (by clear hd hk hC; simp only [execOp, e14, e21]; go_simp) hC
      · intro j hj; exact absurd hj (pv_no (by decide) _)
      · intro h; exact absurd (by decide) h
      · intro j hj
        obtain rfl : j = 0 := pv_at (by decide) rfl hj
        refine ⟨rfl, fun a' w' hC hk hd Q => ?_⟩
        have e18 : a'.eval (.tmp 18) = PT bl := hd 5 18 (by decide +kernel)
        have e22 : a'.eval (.tmp 22) = .pointer (some ⟨D, 65, none⟩) := hd 9 22 (by decide +kernel)
        obtain ⟨hC1, hC2⟩ := hC
        simp only [Nat.zero_ne_one, if_false] at hC1
        refine wp_store_ptr _ _ rfl D 65 101 _ _ e22 e18 hC1 (NC.left hC1) ?_
        intro w4 hb4 hu4
        rw [NC.setLeft] at hb4
        exact ⟨rfl, by simpa using hb4, hC2.trans (hu4.below hND (Nat.le_trans hND (Nat.le_of_lt hC1.lt)))⟩
      · intro _ a' b' w' hC hk hd Q
        have e15 : a'.eval (.tmp 15) = .pointer (some ⟨D, 0, none⟩) := hd 2 15 (by decide +kernel)
        exact wp_same _ (by clear hd hk hC; simp only [execOp, e15]; go_simp) hC
      · intro j hj; exact absurd hj (pv_no (by decide) _)
      · intro _ a' b' w' hC hk hd Q
        have e23 : a'.eval (.tmp 23) = .pointer (some ⟨D, 0, none⟩) := hd 11 23 (by decide +kernel)
        exact wp_same _ (by clear hd hk hC; simp only [execOp, e23]; go_simp) hC
      · intro j hj; exact absurd hj (pv_no (by decide) _)
    · intro a' w' hsz hdf hk hall hC
      have e13 : a'.eval (.tmp 13) = .pointer (some ⟨D, 0, none⟩) := hall 0 _ 13 (by decide) rfl rfl
      have e14 : a'.eval (.tmp 14) = .int .i64 0 := hall 1 _ 14 (by decide) rfl rfl
      have e15 : a'.eval (.tmp 15) = .pointer (some ⟨D, 0, none⟩) := hall 2 _ 15 (by decide) rfl rfl
      have e16 : a'.eval (.tmp 16) = .int .i64 0 := hall 3 _ 16 (by decide) rfl rfl
      have e17 : a'.eval (.tmp 17) = .int .i64 1 := hall 4 _ 17 (by decide) rfl rfl
      have e18 : a'.eval (.tmp 18) = PT bl := hall 5 _ 18 (by decide) rfl rfl
      have e19 : a'.eval (.tmp 19) = PT br := hall 6 _ 19 (by decide) rfl rfl
      have e20 : a'.eval (.tmp 20) = .pointer (some ⟨D, 0, none⟩) := hall 7 _ 20 (by decide) rfl rfl
      have e21 : a'.eval (.tmp 21) = .pointer (some ⟨D, 65, none⟩) := hall 8 _ 21 (by decide) rfl rfl
      have e22 : a'.eval (.tmp 22) = .pointer (some ⟨D, 65, none⟩) := hall 9 _ 22 (by decide) rfl rfl
      have e23 : a'.eval (.tmp 23) = .pointer (some ⟨D, 0, none⟩) := hall 11 _ 23 (by decide) rfl rfl
      have e24 : a'.eval (.tmp 24) = .pointer (some ⟨D, 65, none⟩) := hall 12 _ 24 (by decide) rfl rfl
      obtain ⟨z25, e25⟩ : ∃ v, a'.eval (.tmp 25) = v := ⟨_, rfl⟩
      obtain ⟨hC1, hC2⟩ := hC
      simp only [List.length_cons, List.length_nil, Nat.zero_add, if_true] at hC1
      refine ⟨rfl, ?_⟩
      refine Oper.wp_mono ?_ (wp_same (C := fun x => x = w') (.pointer (some ⟨D, 66, none⟩)) (by simp only [execOp, e24, e17]; go_simp) rfl)
      rintro a2 w2 ⟨rfl, rfl⟩
      refine ⟨_, rfl, rfl, ?_⟩
      refine wp_store_ptr (.tmp 25) (.tmp 19) rfl D 66 101 _ _ (by rw [eval_put_same (by rw [hsz]; simp)]) (by rw [eval_put_other (by decide)]; exact e19) hC1 (NC.right hC1) ?_
      intro w5 hb5 hu5
      refine ⟨_, rfl, ?_⟩
      rw [NC.setRight] at hb5
      have B5 := hide hb5
      have L5 : Hid (Below N w w5) := hC2.trans (hu5.below hND (Nat.le_trans hND (Nat.le_of_lt hC1.lt)))
      clear hb5 hu5 hC1 hC2
      have ha := act_puts 38 rfl hsz hdf hk.all [13, 14, 15, 16, 17, 18, 19, 20, 21, 22, 23, 24, 25] (by decide +kernel)
      simp only [puts, List.foldl_cons, List.foldl_nil, e13, e14, e15, e16, e17, e18, e19, e20, e21, e22, e23, e24, e25] at ha
      simp only [Act.put, List.setIfInBounds_toArray, List.set_cons_succ, List.set_cons_zero] at ha
      show Exit.then _ _ Exit.normal { tmps := (a'.tmps.setIfInBounds 25 _), defers := a'.defers } w5
      subst ha
      have NA := hide (HA.out.kept (L5.out.mono (by rw [HN.out]; exact Nat.le_refl _)))
      have NB := hide (HB.out.kept (L5.out.mono (by rw [HN.out]; exact Nat.le_refl _)))
      obtain ⟨ck, HK, hkey⟩ := NA.out.first
      have cl : w5.cell? ⟨D, 65, none⟩ = some (PT bl) := NC.left B5.out
      clear hall hk hsz hdf e13 e14 e15 e16 e17 e18 e19 e20 e21 e22 e23 e24 e25
      go_wp2_with (first
        | (refine wpList_load_mid rfl 24 _ rfl bl 1 rfl (By ck.1) _ hkey Tryd.underlying24 rfl (Tryd.sizeH ck) ?_)
        | (refine wpList_store_mid rfl 24 _ _ rfl D 1 (By ck.1).toArray rfl rfl (by rw [List.size_toArray, By_len]; exact B5.out.there 1 32 (by rw [NC_length]; decide)) (by simpa using Tryd.sizeH ck) (all_one (By_one _)) ?_)
        | fail)
      have B6 : Blk (w5.setCells D 1 (By ck.1)) D 101 (NC i ck zh (PT bl) (PT br) 0 0 zh) := by
        have := B5.out.over (By ck.1) 1 (by rw [By_len, NC_length]; decide)
        rwa [NC.setKey] at this
      have L6 : Below N w (w5.setCells D 1 (By ck.1)) := L5.out.trans (by exact (But.setCells D _ 1 w5).below hND (Nat.le_trans hND (Nat.le_of_lt B5.out.lt)))
      go_ret
      refine ⟨D, rfl, hND, Nd.iff.2 ⟨by omega, i, ck, zh, _, _, 0, zh, B6, .inl rfl, .inr ⟨A, B, bl, br, hF, HK, by omega, by omega, rfl, rfl, HA.out.kept (L6.mono (by rw [HN.out]; exact Nat.le_refl _)), HB.out.kept (L6.mono (by rw [HN.out]; exact Nat.le_refl _))⟩⟩, L6⟩
set_option maxHeartbeats 2000000 in
set_option maxRecDepth 100000 in
theorem kfork1_any {B0 : Nat} {i : Nat} {L A B : List It} {bl br : Nat} (w : World) (hF : Forks L i A B) (hA : Nd B0 w bl A) (hB : Nd B0 w br B) (hB0 : B0 ≤ w.heap.size) :
    Calls Tryd.prog 60 #[.int .i64 (i : Int), .int .i64 1, PT br, PT bl] w fun e w' => ∃ b, e = .returned (PT b) ∧ w.heap.size ≤ b ∧ Nd B0 w' b L ∧ Below w.heap.size w w' := by
    obtain ⟨N, HN⟩ : ∃ N, Hid (w.heap.size = N) := ⟨_, rfl⟩
    have hlA : bl < N := by rw [← HN.out]; exact hA.lt
    have hlB : br < N := by rw [← HN.out]; exact hB.lt
    rw [HN.out] at hB0 ⊢
    have HA := hide hA
    have HB := hide hB
    clear hA hB
    go_enter Tryd.func60, Tryd.ntmps60
    go_upto_region 2 with (first
      | (refine wpList_build_fork rfl _ rfl (i : Int) rfl ?_)
      | fail)
    obtain ⟨w1, hw1⟩ : ∃ z, z = w.alloc (.cells (NC (i : Int) zh zh (.pointer none) (.pointer none) 0 0 zh).toArray 101 (0, 0)) := ⟨_, rfl⟩
    change Code.wp _ _ _ _ (w.alloc (.cells (NC (i : Int) zh zh (.pointer none) (.pointer none) 0 0 zh).toArray 101 (0, 0)))
    rw [← hw1, HN.out]
    obtain ⟨D, HD⟩ : ∃ D, Hid (N = D) := ⟨_, rfl⟩
    have hND : N ≤ D := Nat.le_of_eq HD.out
    have BD : Hid (Blk w1 D 101 (NC (i : Int) zh zh (.pointer none) (.pointer none) 0 0 zh)) := (show Blk _ _ _ _ by rw [hw1, ← HD.out, ← HN.out]; exact Blk.new w 101 _)
    have L1 : Hid (Below N w w1) := (show Below _ _ _ by rw [hw1, ← HN.out]; exact (Below.refl _ _).alloc (Nat.le_refl _) _)
    clear hw1
    have hDN : Hid (D = N) := HD.out.symm
    generalize hDD : (⟨N, 0, none⟩ : Addr) = AD
    rw [HD.out] at hDD
    subst hDD
    refine pivots_by (jl_wp Tryd.mixed) (fun i_ => match i_ with | 0 | 2 | 7 | 11 => .pointer (some ⟨D, 0, none⟩) | 1 | 3 => .int .i64 1 | 4 => .int .i64 0 | 5 => PT br | 6 => PT bl | 8 | 12 => .pointer (some ⟨D, 65, none⟩) | 9 => .pointer (some ⟨D, 66, none⟩) | 10 => undef | _ => undef) (fun b_ w' => Blk w' D 101 (NC i zh zh (.pointer none) (if b_ = 1 then PT br else .pointer none) 0 0 zh) ∧ Below N w w') [10] 38 rfl (by decide +kernel) 13 (by decide) (by decide) (by decide) (by decide +kernel) (by decide +kernel) ?_ ?_ ?_
    · intro w' hh hg
      exact ⟨by simpa using BD.out.kept hg, L1.out.trans (hg.mono (Nat.le_trans hND (Nat.le_of_lt BD.out.lt)))⟩
    · refine AllFrom.cons ⟨rfl, ?_, ?_⟩ (AllFrom.cons ⟨rfl, ?_, ?_⟩ (AllFrom.cons ⟨rfl, ?_, ?_⟩ (AllFrom.cons ⟨rfl, ?_, ?_⟩ (AllFrom.cons ⟨rfl, ?_, ?_⟩ (AllFrom.cons ⟨rfl, ?_, ?_⟩ (AllFrom.cons ⟨rfl, ?_, ?_⟩ (AllFrom.cons ⟨rfl, ?_, ?_⟩ (AllFrom.cons ⟨rfl, ?_, ?_⟩ (AllFrom.cons ⟨rfl, ?_, ?_⟩ (AllFrom.cons ⟨rfl, ?_, ?_⟩ (AllFrom.cons ⟨rfl, ?_, ?_⟩ (AllFrom.cons ⟨rfl, ?_, ?_⟩ AllFrom.nil))))))))))))
      · intro _ a' b' w' hC hk hd Q
        have e9 : a'.eval (.tmp 9) = .pointer (some ⟨D, 0, none⟩) := hk.at 9 (by decide +kernel)
        exact wp_same _ (by simp only [execOp, e9]; rfl) hC
      · intro j hj; exact absurd hj (pv_no (by decide) _)
      · intro _ a' b' w' hC hk hd Q
        have e1 : a'.eval (.tmp 1) = .int .i64 1 := hk.at 1 (by decide +kernel)
        exact wp_same _ (by simp only [execOp, e1]; rfl) hC
      · intro j hj; exact absurd hj (pv_no (by decide) _)
      · intro _ a' b' w' hC hk hd Q
        have e9 : a'.eval (.tmp 9) = .pointer (some ⟨D, 0, none⟩) := hk.at 9 (by decide +kernel)
        exact wp_same _ (by simp only [execOp, e9]; rfl) hC
      · intro j hj; exact absurd hj (pv_no (by decide) _)
      · intro _ a' b' w' hC hk hd Q
        have e1 : a'.eval (.tmp 1) = .int .i64 1 := hk.at 1 (by decide +kernel)
        exact wp_same _ (by simp only [execOp, e1]; rfl) hC
      · intro j hj; exact absurd hj (pv_no (by decide) _)
      · intro _ a' b' w' hC hk hd Q
        have e16 : a'.eval (.tmp 16) = .int .i64 1 := hd 3 16 (by decide +kernel)
        exact wp_same _ (by clear hd hk hC; simp only [execOp, e16]; go_simp; first | done | rfl | decide) hC
      · intro j hj; exact absurd hj (pv_no (by decide) _)
      · intro _ a' b' w' hC hk hd Q
        have e2 : a'.eval (.tmp 2) = PT br := hk.at 2 (by decide +kernel)
        exact wp_same _ (by simp only [execOp, e2]; rfl) hC
      · intro j hj; exact absurd hj (pv_no (by decide) _)
      · intro _ a' b' w' hC hk hd Q
        have e3 : a'.eval (.tmp 3) = PT bl := hk.at 3 (by decide +kernel)
        exact wp_same _ (by simp only [execOp, e3]; rfl) hC
      · intro j hj; exact absurd hj (pv_no (by decide) _)
      · intro _ a' b' w' hC hk hd Q
        have e13 : a'.eval (.tmp 13) = .pointer (some ⟨D, 0, none⟩) := hd 0 13 (by decide +kernel)
        exact wp_same _ (by clear hd hk hC; simp only [execOp, e13]; go_simp) hC
      · intro j hj; exact absurd hj (pv_no (by decide) _)
      · intro _ a' b' w' hC hk hd Q
        have e20 : a'.eval (.tmp 20) = .pointer (some ⟨D, 0, none⟩) := hd 7 20 (by decide +kernel)
        exact wp_same _ (by clear hd hk hC; simp only [execOp, e20]; go_simp) hC
      · intro j hj; exact absurd hj (pv_no (by decide) _)
      · intro _ a' b' w' hC hk hd Q
        have e14 : a'.eval (.tmp 14) = .int .i64 1 := hd 1 14 (by decide +kernel)
        have e21 : a'.eval (.tmp 21) = .pointer (some ⟨D, 65, none⟩) := hd 8 21 (by decide +kernel)
        exact wp_same _ (by clear hd hk hC; simp only [execOp, e14, e21]; go_simp) hC
      · intro j hj; exact absurd hj (pv_no (by decide) _)
      · intro h; exact absurd (by decide) h
      · intro j hj
        obtain rfl : j = 0 := pv_at (by decide) rfl hj
        refine ⟨rfl, fun a' w' hC hk hd Q => ?_⟩
        have e18 : a'.eval (.tmp 18) = PT br := hd 5 18 (by decide +kernel)
        have e22 : a'.eval (.tmp 22) = .pointer (some ⟨D, 66, none⟩) := hd 9 22 (by decide +kernel)
        obtain ⟨hC1, hC2⟩ := hC
        simp only [Nat.zero_ne_one, if_false] at hC1
        refine wp_store_ptr _ _ rfl D 66 101 _ _ e22 e18 hC1 (NC.right hC1) ?_
        intro w4 hb4 hu4
        rw [NC.setRight] at hb4
        exact ⟨rfl, by simpa using hb4, hC2.trans (hu4.below hND (Nat.le_trans hND (Nat.le_of_lt hC1.lt)))⟩
      · intro _ a' b' w' hC hk hd Q
        have e15 : a'.eval (.tmp 15) = .pointer (some ⟨D, 0, none⟩) := hd 2 15 (by decide +kernel)
        exact wp_same _ (by clear hd hk hC; simp only [execOp, e15]; go_simp) hC
      · intro j hj; exact absurd hj (pv_no (by decide) _)
      · intro _ a' b' w' hC hk hd Q
        have e23 : a'.eval (.tmp 23) = .pointer (some ⟨D, 0, none⟩) := hd 11 23 (by decide +kernel)
        exact wp_same _ (by clear hd hk hC; simp only [execOp, e23]; go_simp) hC
      · intro j hj; exact absurd hj (pv_no (by decide) _)
    · intro a' w' hsz hdf hk hall hC
      have e13 : a'.eval (.tmp 13) = .pointer (some ⟨D, 0, none⟩) := hall 0 _ 13 (by decide) rfl rfl
      have e14 : a'.eval (.tmp 14) = .int .i64 1 := hall 1 _ 14 (by decide) rfl rfl
      have e15 : a'.eval (.tmp 15) = .pointer (some ⟨D, 0, none⟩) := hall 2 _ 15 (by decide) rfl rfl
      have e16 : a'.eval (.tmp 16) = .int .i64 1 := hall 3 _ 16 (by decide) rfl rfl
      have e17 : a'.eval (.tmp 17) = .int .i64 0 := hall 4 _ 17 (by decide) rfl rfl
      have e18 : a'.eval (.tmp 18) = PT br := hall 5 _ 18 (by decide) rfl rfl
      have e19 : a'.eval (.tmp 19) = PT bl := hall 6 _ 19 (by decide) rfl rfl
      have e20 : a'.eval (.tmp 20) = .pointer (some ⟨D, 0, none⟩) := hall 7 _ 20 (by decide) rfl rfl
      have e21 : a'.eval (.tmp 21) = .pointer (some ⟨D, 65, none⟩) := hall 8 _ 21 (by decide) rfl rfl
      have e22 : a'.eval (.tmp 22) = .pointer (some ⟨D, 66, none⟩) := hall 9 _ 22 (by decide) rfl rfl
      have e23 : a'.eval (.tmp 23) = .pointer (some ⟨D, 0, none⟩) := hall 11 _ 23 (by decide) rfl rfl
      have e24 : a'.eval (.tmp 24) = .pointer (some ⟨D, 65, none⟩) := hall 12 _ 24 (by decide) rfl rfl
      obtain ⟨z25, e25⟩ : ∃ v, a'.eval (.tmp 25) = v := ⟨_, rfl⟩
      obtain ⟨hC1, hC2⟩ := hC
      simp only [List.length_cons, List.length_nil, Nat.zero_add, if_true] at hC1
      refine ⟨rfl, ?_⟩
      refine Oper.wp_mono ?_ (wp_same (C := fun x => x = w') (.pointer (some ⟨D, 65, none⟩)) (by simp only [execOp, e24, e17]; go_simp) rfl)
      rintro a2 w2 ⟨rfl, rfl⟩
      refine ⟨_, rfl, rfl, ?_⟩
      refine wp_store_ptr (.tmp 25) (.tmp 19) rfl D 65 101 _ _ (by rw [eval_put_same (by rw [hsz]; simp)]) (by rw [eval_put_other (by decide)]; exact e19) hC1 (NC.left hC1) ?_
      intro w5 hb5 hu5
      refine ⟨_, rfl, ?_⟩
      rw [NC.setLeft] at hb5
      have B5 := hide hb5
      have L5 : Hid (Below N w w5) := hC2.trans (hu5.below hND (Nat.le_trans hND (Nat.le_of_lt hC1.lt)))
      clear hb5 hu5 hC1 hC2
      have ha := act_puts 38 rfl hsz hdf hk.all [13, 14, 15, 16, 17, 18, 19, 20, 21, 22, 23, 24, 25] (by decide +kernel)
      simp only [puts, List.foldl_cons, List.foldl_nil, e13, e14, e15, e16, e17, e18, e19, e20, e21, e22, e23, e24, e25] at ha
      simp only [Act.put, List.setIfInBounds_toArray, List.set_cons_succ, List.set_cons_zero] at ha
      show Exit.then _ _ Exit.normal { tmps := (a'.tmps.setIfInBounds 25 _), defers := a'.defers } w5
      subst ha
      have NA := hide (HA.out.kept (L5.out.mono (by rw [HN.out]; exact Nat.le_refl _)))
      have NB := hide (HB.out.kept (L5.out.mono (by rw [HN.out]; exact Nat.le_refl _)))
      obtain ⟨ck, HK, hkey⟩ := NA.out.first
      have cl : w5.cell? ⟨D, 65, none⟩ = some (PT bl) := NC.left B5.out
      clear hall hk hsz hdf e13 e14 e15 e16 e17 e18 e19 e20 e21 e22 e23 e24 e25
      go_wp2_with (first
        | (refine wpList_load_mid rfl 24 _ rfl bl 1 rfl (By ck.1) _ hkey Tryd.underlying24 rfl (Tryd.sizeH ck) ?_)
        | (refine wpList_store_mid rfl 24 _ _ rfl D 1 (By ck.1).toArray rfl rfl (by rw [List.size_toArray, By_len]; exact B5.out.there 1 32 (by rw [NC_length]; decide)) (by simpa using Tryd.sizeH ck) (all_one (By_one _)) ?_)
        | fail)
      have B6 : Blk (w5.setCells D 1 (By ck.1)) D 101 (NC i ck zh (PT bl) (PT br) 0 0 zh) := by
        have := B5.out.over (By ck.1) 1 (by rw [By_len, NC_length]; decide)
        rwa [NC.setKey] at this
      have L6 : Below N w (w5.setCells D 1 (By ck.1)) := L5.out.trans (by exact (But.setCells D _ 1 w5).below hND (Nat.le_trans hND (Nat.le_of_lt B5.out.lt)))
      go_ret
      refine ⟨D, rfl, hND, Nd.iff.2 ⟨by omega, i, ck, zh, _, _, 0, zh, B6, .inl rfl, .inr ⟨A, B, bl, br, hF, HK, by omega, by omega, rfl, rfl, HA.out.kept (L6.mono (by rw [HN.out]; exact Nat.le_refl _)), HB.out.kept (L6.mono (by rw [HN.out]; exact Nat.le_refl _))⟩⟩, L6⟩
#print axioms kfork0_any
end Go.Proofs.YtooffljimdklfaaDoor

/-
  (*node).with: what the call does.
-/
namespace Go.Proofs.YtooffljimdklfaaDoor
open Go.RowKit
set_option maxHeartbeats 1000000 in
set_option maxRecDepth 100000 in
theorem nwith_nil {B0 : Nat} (k v : Hs) (w : World) (hB0 : B0 ≤ w.heap.size) : Calls Tryd.prog 45 #[.pointer none, HV k, HV v] w fun e w' => ∃ b', e = .returned (PT b') ∧ w.heap.size ≤ b' ∧ Nd B0 w' b' [(k, v)] ∧ Below w.heap.size w w' := by
  obtain ⟨N, HN⟩ : ∃ N, Hid (w.heap.size = N) := ⟨_, rfl⟩
  rw [HN.out] at hB0 ⊢
  go_enter Tryd.func45, Tryd.ntmps45
  unfold HV
  go_upto_region 2 with fail
  obtain ⟨w1, hw1⟩ : ∃ z, z = (w.alloc (.cells (By k.1).toArray 24 (0, 0))).alloc (.cells (By v.1).toArray 24 (0, 0)) := ⟨_, rfl⟩
  change Code.wp _ _ _ _ ((w.alloc (.cells (By k.1).toArray 24 (0, 0))).alloc (.cells (By v.1).toArray 24 (0, 0)))
  rw [← hw1, HN.out]
  have Kw1 : Hid (Blk w1 N 24 (By k.1)) := (show Blk _ _ _ _ by rw [hw1, ← HN.out]; exact (Blk.new w 24 (By k.1)).alloc _)
  have Vw1 : Hid (Blk w1 (N + 1) 24 (By v.1)) := (show Blk _ _ _ _ by rw [hw1, ← HN.out]; have := Blk.new (w.alloc (.cells (By k.1).toArray 24 (0, 0))) 24 (By v.1); simpa using this)
  have Lw1 : Hid (Below N w w1) := (show Below _ _ _ by rw [hw1, ← HN.out]; exact ((Below.refl _ _).alloc (Nat.le_refl _) _).alloc (by simp) _)
  clear hw1
  have ra := Kw1.out.range0
  have rb := Vw1.out.range0
  have C := hide (kitem_any B0 k v w1 (Nat.le_trans hB0 (Nat.le_of_lt Kw1.out.lt)))
  go_wp2_with (first
    | (refine wpList_load_mid rfl 24 _ rfl N 0 rfl (By k.1) _ ra Tryd.underlying24 rfl (Tryd.sizeH k) ?_)
    | (refine wpList_load_mid rfl 24 _ rfl (N + 1) 0 rfl (By v.1) _ rb Tryd.underlying24 rfl (Tryd.sizeH v) ?_)
    | fail)
  refine C.out.mono ?_
  rintro e w5 ⟨b5, rfl, h5, n5, hb5⟩
  have h6 : N ≤ b5 := Nat.le_trans (Nat.le_of_lt Kw1.out.lt) h5
  have L5 : Below N w w5 := Lw1.out.trans (hb5.mono (Nat.le_of_lt Kw1.out.lt))
  clear hb5
  go_wp2
  go_ret
  exact ⟨b5, rfl, h6, n5, L5⟩
theorem Nd.agree {B0 : Nat} {w : World} {b : Nat} {L : List It} {i : Nat} {k v : Hs} {l r : Value} {d m : Int} {h : Hs} (hn : Nd B0 w b L) (hB : Blk w b 101 (NC i k v l r d m h)) : Agree L i ∧ i ≤ 256 ∧ ∃ y, (k, y) ∈ L := by
  obtain ⟨-, i', k', v', l', r', d', hh, hB', -, h1⟩ := Nd.iff.1 hn
  obtain ⟨hi, rfl, rfl, rfl, rfl, _⟩ := NC_inj (hB.inj hB').2
  obtain rfl : i = i' := by exact_mod_cast hi
  rcases h1 with ⟨rfl, rfl, _⟩ | ⟨A, B, bl, br, hF, hk, _⟩
  · refine ⟨fun x hx y hy j _ => ?_, Nat.le_refl _, v, by simp⟩
    simp at hx hy
    rw [hx, hy]
  · refine ⟨hF.same, Nat.le_of_lt hF.lt, ?_⟩
    obtain ⟨⟨ak, av⟩, A', rfl⟩ := List.exists_cons_of_ne_nil hF.hA
    simp only [List.head?_cons, Option.map_some, Option.some.injEq] at hk
    subst hk
    exact ⟨av, hF.inA (by simp)⟩
set_option maxHeartbeats 4000000 in
set_option maxRecDepth 100000 in
theorem nwith_any {B0 : Nat} (k v : Hs) : ∀ (b : Nat) (L : List It) (w : World), Nd B0 w b L → B0 ≤ w.heap.size → Calls Tryd.prog 45 #[PT b, HV k, HV v] w fun e w' => ∃ b', e = .returned (PT b') ∧ w.heap.size ≤ b' ∧ Nd B0 w' b' (putP L k v) ∧ Below w.heap.size w w' := by
  intro b
  induction b using Nat.strongRecOn with
  | _ b ih =>
  intro L w hn hB0
  have IH := hide ih
  obtain ⟨-, i, ky, vl, l, r, d, hh, hB, -, h1⟩ := Nd.iff.1 hn
  obtain ⟨hag, hi, yv, hky⟩ := hn.agree hB
  obtain ⟨N, HN⟩ : ∃ N, Hid (w.heap.size = N) := ⟨_, rfl⟩
  have CA := hide (fun w => kApart_any k ky w)
  have HQ1 := hide (fun j (h : j < apart k ky) => apart_eq h)
  have HQ2 := hide (fun (h : apart k ky < 256) => apart_ne h)
  have HQ3 := hide (apart_all (a := k) (b := ky))
  have hq := apart_le k ky
  generalize apart k ky = q at *
  have hlb : b < N := by rw [← HN.out]; exact hn.lt
  rw [HN.out] at hB0 ⊢
  have HG1 := hide h1
  have HND := hide hn
  have HBK := hide hB
  have HAG := hide hag
  have HKY := hide hky
  clear ih h1 hn hB hag hky
  go_enter Tryd.func45, Tryd.ntmps45
  unfold HV
  go_upto_region 3 with fail
  obtain ⟨w1, hw1⟩ : ∃ z, z = (w.alloc (.cells (By k.1).toArray 24 (0, 0))).alloc (.cells (By v.1).toArray 24 (0, 0)) := ⟨_, rfl⟩
  change Code.wp _ _ _ _ ((w.alloc (.cells (By k.1).toArray 24 (0, 0))).alloc (.cells (By v.1).toArray 24 (0, 0)))
  rw [← hw1, HN.out]
  have Kw1 : Hid (Blk w1 N 24 (By k.1)) := (show Blk _ _ _ _ by rw [hw1, ← HN.out]; exact (Blk.new w 24 (By k.1)).alloc _)
  have Vw1 : Hid (Blk w1 (N + 1) 24 (By v.1)) := (show Blk _ _ _ _ by rw [hw1, ← HN.out]; have := Blk.new (w.alloc (.cells (By k.1).toArray 24 (0, 0))) 24 (By v.1); simpa using this)
  have Lw1 : Hid (Below N w w1) := (show Below _ _ _ by rw [hw1, ← HN.out]; exact ((Below.refl _ _).alloc (Nat.le_refl _) _).alloc (by simp) _)
  clear hw1
  have Dw1 := hide (HBK.out.kept (Lw1.out.mono (Nat.le_of_eq HN.out)))
  have nw1 := hide (HND.out.kept (Lw1.out.mono (Nat.le_of_eq HN.out)))
  have Gw1 : Hid (N ≤ w1.heap.size) := (show _ ≤ _ from Nat.le_of_lt Kw1.out.lt)
  refine wp_region_inv Tryd.mixed (KS (fun i_ => match i_ with | 0 => .val (HV k) | 1 | 2 => .val (.pointer (some ⟨b, 0, none⟩)) | 3 => .val (.pointer (some ⟨b, 1, none⟩)) | 4 => .val (HV ky) | 5 | 6 => .val (.int .i64 (q : Int)) | _ => .free)) 68 rfl (by decide +kernel) (KS_mono _) ?_ ?_
  · refine AllFrom.cons (fun a' w' hg hk hd => ?_) (AllFrom.cons (fun a' w' hg hk hd => ?_) (AllFrom.cons (fun a' w' hg hk hd => ?_) (AllFrom.cons (fun a' w' hg hk hd => ?_) (AllFrom.cons (fun a' w' hg hk hd => ?_) (AllFrom.cons (fun a' w' hg hk hd => ?_) (AllFrom.cons (fun a' w' hg hk hd => ?_) AllFrom.nil))))))
    · skip
      intro Q
      have e4 : a'.eval (.tmp 4) = .pointer (some ⟨N, 0, none⟩) := hk.at 4 (by decide +kernel)
      exact wp_load_row 24 _ rfl _ _ e4 (By (k).1) _ ((Kw1.out.kept hg).range0) Tryd.underlying24 rfl (Tryd.sizeH _) (KS_mkv rfl rfl)
    · skip
      intro Q
      have e0 : a'.eval (.tmp 0) = .pointer (some ⟨b, 0, none⟩) := hk.at 0 (by decide +kernel)
      exact wp_value _ (by simp only [execOp, e0]; rfl) (KS_mkv rfl rfl)
    · skip
      intro Q
      have e15 : a'.eval (.tmp 15) = .pointer (some ⟨b, 0, none⟩) := KS_val (hd.val 1 15 (by decide +kernel)) rfl
      clear hd hk
      exact wp_value (.pointer (some ⟨b, 0, none⟩)) (by simp only [execOp, e15]; go_simp) (KS_mkv rfl rfl)
    · skip
      intro Q
      have e16 : a'.eval (.tmp 16) = .pointer (some ⟨b, 0, none⟩) := KS_val (hd.val 2 16 (by decide +kernel)) rfl
      clear hd hk
      exact wp_value (.pointer (some ⟨b, 1, none⟩)) (by simp only [execOp, e16]; go_simp) (KS_mkv rfl rfl)
    · skip
      intro Q
      have e17 : a'.eval (.tmp 17) = .pointer (some ⟨b, 1, none⟩) := KS_val (hd.val 3 17 (by decide +kernel)) rfl
      exact wp_load_row 24 _ rfl _ _ e17 (By (ky).1) _ (NC.key (Dw1.out.kept hg)) Tryd.underlying24 rfl (Tryd.sizeH _) (KS_mkv rfl rfl)
    · skip
      intro Q
      have e14 : a'.eval (.tmp 14) = HV k := KS_val (hd.val 0 14 (by decide +kernel)) rfl
      have e18 : a'.eval (.tmp 18) = HV ky := KS_val (hd.val 4 18 (by decide +kernel)) rfl
      refine wp_call 59 _ (run_enter 59 _ _ rfl (by kernel_rfl)) ?_
      simp only [List.map_toArray, List.map_nil, List.map_cons, e14, e18]
      refine (CA.out _).mono ?_
      rintro e w5 ⟨rfl, hb5⟩
      exact ⟨_, rfl, KS_mkv rfl rfl, hb5⟩
    · skip
      intro Q
      have e19 : a'.eval (.tmp 19) = .int .i64 (q : Int) := KS_val (hd.val 5 19 (by decide +kernel)) rfl
      exact wp_value _ (by simp only [execOp, e19]; rfl) (KS_mkv rfl rfl)
  · intro a' w3 hsz hdf hk hall hg
    have e14 : a'.eval (.tmp 14) = HV k := KS_val (hall 0 _ 14 rfl rfl) rfl
    have e15 : a'.eval (.tmp 15) = .pointer (some ⟨b, 0, none⟩) := KS_val (hall 1 _ 15 rfl rfl) rfl
    have e16 : a'.eval (.tmp 16) = .pointer (some ⟨b, 0, none⟩) := KS_val (hall 2 _ 16 rfl rfl) rfl
    have e17 : a'.eval (.tmp 17) = .pointer (some ⟨b, 1, none⟩) := KS_val (hall 3 _ 17 rfl rfl) rfl
    have e18 : a'.eval (.tmp 18) = HV ky := KS_val (hall 4 _ 18 rfl rfl) rfl
    have e19 : a'.eval (.tmp 19) = .int .i64 (q : Int) := KS_val (hall 5 _ 19 rfl rfl) rfl
    have e7 : a'.eval (.tmp 7) = .int .i64 (q : Int) := KS_val (hall 6 _ 7 rfl rfl) rfl
    have ha := act_puts 68 rfl hsz hdf hk [14, 15, 16, 17, 18, 19, 7] (by decide +kernel)
    simp only [puts, List.foldl_cons, List.foldl_nil, e14, e15, e16, e17, e18, e19, e7] at ha
    simp only [Act.put, List.setIfInBounds_toArray, List.set_cons_succ, List.set_cons_zero] at ha
    clear hall hk hsz hdf e14 e15 e16 e17 e18 e19 e7
    subst ha
    have Kw3 := hide (Kw1.out.kept hg)
    have Vw3 := hide (Vw1.out.kept hg)
    have Dw3 := hide (Dw1.out.kept hg)
    have nw3 := hide (nw1.out.kept hg)
    have Lw3 : Hid (Below N w w3) := Lw1.out.trans (hg.mono (Nat.le_of_lt Kw1.out.lt))
    have Gw3 : Hid (N ≤ w3.heap.size) := (show _ ≤ _ from Nat.le_of_lt Kw3.out.lt)
    clear hg Kw1 Vw1 Dw1 nw1 Lw1 Gw1
    have cb : w3.cell? ⟨b, 0, none⟩ = some (.int .i64 (i : Int)) := NC.bit Dw3.out
    by_cases hlt : q < i
    · have q1 : (q : Int) < i := by omega
      have q2 : ¬ i ≤ q := by omega
      have hq256 : q < 256 := by omega
      have HFA := hide (forks_apart (v := v) (List.ne_nil_of_mem HKY.out) hq256 (fun x hx y hy j hj => HAG.out x hx y hy j (by omega)) HKY.out HQ1.out (HQ2.out hq256))
      have CB := hide (fun w => kBit_any k (q : Int) w)
      rw [bitZ_nat] at CB
      unfold bitN at CB
      obtain ⟨s, HS⟩ : ∃ s, Hid (bit k q = s) := ⟨_, rfl⟩
      rw [HS.out] at CB HFA
      go_upto_region 5 with fail
      clear cb
      cases s with
      | false =>
        have HF := hide (HFA.out.1 rfl).2
        refine wp_region_inv Tryd.mixed (KS (fun i_ => match i_ with | 0 | 2 => .val (.int .i64 (q : Int)) | 1 | 4 => .val (HV k) | 3 => .val (.int .i64 0) | 5 => .val (HV v) | 6 => .of (fun w v_ => ∃ b_, v_ = PT b_ ∧ N ≤ b_ ∧ Nd B0 w b_ ([(k, v)])) (fun _ _ _ hg ⟨b_, e, h1, h2⟩ => ⟨b_, e, h1, h2.kept hg⟩) | 7 => .val (.pointer (some ⟨b, 0, none⟩)) | 8 | 9 => .of (fun w v_ => ∃ b_, v_ = PT b_ ∧ N ≤ b_ ∧ Nd B0 w b_ (putP L k v)) (fun _ _ _ hg ⟨b_, e, h1, h2⟩ => ⟨b_, e, h1, h2.kept hg⟩) | _ => .free)) 68 rfl (by decide +kernel) (KS_mono _) ?_ ?_
        · refine AllFrom.cons (fun a' w' hg hk hd => ?_) (AllFrom.cons (fun a' w' hg hk hd => ?_) (AllFrom.cons (fun a' w' hg hk hd => ?_) (AllFrom.cons (fun a' w' hg hk hd => ?_) (AllFrom.cons (fun a' w' hg hk hd => ?_) (AllFrom.cons (fun a' w' hg hk hd => ?_) (AllFrom.cons (fun a' w' hg hk hd => ?_) (AllFrom.cons (fun a' w' hg hk hd => ?_) (AllFrom.cons (fun a' w' hg hk hd => ?_) (AllFrom.cons (fun a' w' hg hk hd => ?_) AllFrom.nil)))))))))
          · skip
            intro Q
            have e7 : a'.eval (.tmp 7) = .int .i64 (q : Int) := hk.at 7 (by decide +kernel)
            exact wp_value _ (by simp only [execOp, e7]; rfl) (KS_mkv rfl rfl)
          · skip
            intro Q
            have e4 : a'.eval (.tmp 4) = .pointer (some ⟨N, 0, none⟩) := hk.at 4 (by decide +kernel)
            exact wp_load_row 24 _ rfl _ _ e4 (By (k).1) _ ((Kw3.out.kept hg).range0) Tryd.underlying24 rfl (Tryd.sizeH _) (KS_mkv rfl rfl)
          · skip
            intro Q
            have e7 : a'.eval (.tmp 7) = .int .i64 (q : Int) := hk.at 7 (by decide +kernel)
            exact wp_value _ (by simp only [execOp, e7]; rfl) (KS_mkv rfl rfl)
          · skip
            intro Q
            have e27 : a'.eval (.tmp 27) = HV k := KS_val (hd.val 1 27 (by decide +kernel)) rfl
            have e28 : a'.eval (.tmp 28) = .int .i64 (q : Int) := KS_val (hd.val 2 28 (by decide +kernel)) rfl
            refine wp_call 38 _ (run_enter 38 _ _ rfl (by kernel_rfl)) ?_
            simp only [List.map_toArray, List.map_nil, List.map_cons, e27, e28]
            refine (CB.out _).mono ?_
            rintro e w5 ⟨rfl, hb5⟩
            exact ⟨_, rfl, KS_mkv rfl rfl, hb5⟩
          · skip
            intro Q
            have e4 : a'.eval (.tmp 4) = .pointer (some ⟨N, 0, none⟩) := hk.at 4 (by decide +kernel)
            exact wp_load_row 24 _ rfl _ _ e4 (By (k).1) _ ((Kw3.out.kept hg).range0) Tryd.underlying24 rfl (Tryd.sizeH _) (KS_mkv rfl rfl)
          · skip
            intro Q
            have e5 : a'.eval (.tmp 5) = .pointer (some ⟨N + 1, 0, none⟩) := hk.at 5 (by decide +kernel)
            exact wp_load_row 24 _ rfl _ _ e5 (By (v).1) _ ((Vw3.out.kept hg).range0) Tryd.underlying24 rfl (Tryd.sizeH _) (KS_mkv rfl rfl)
          · skip
            intro Q
            have e30 : a'.eval (.tmp 30) = HV k := KS_val (hd.val 4 30 (by decide +kernel)) rfl
            have e31 : a'.eval (.tmp 31) = HV v := KS_val (hd.val 5 31 (by decide +kernel)) rfl
            refine wp_call 58 _ (run_enter 58 _ _ rfl (by kernel_rfl)) ?_
            simp only [List.map_toArray, List.map_nil, List.map_cons, e30, e31]
            refine (kitem_any B0 _ _ _ (Nat.le_trans hB0 (Nat.le_trans Gw3.out hg.size))).mono ?_
            rintro e w5 ⟨b5, rfl, h5, n5, hb5⟩
            exact ⟨_, rfl, KS_mko rfl ⟨b5, rfl, Nat.le_trans (Nat.le_trans Gw3.out hg.size) h5, n5⟩, hb5⟩
          · skip
            intro Q
            have e0 : a'.eval (.tmp 0) = .pointer (some ⟨b, 0, none⟩) := hk.at 0 (by decide +kernel)
            exact wp_value _ (by simp only [execOp, e0]; rfl) (KS_mkv rfl rfl)
          · skip
            intro Q
            have e26 : a'.eval (.tmp 26) = .int .i64 (q : Int) := KS_val (hd.val 0 26 (by decide +kernel)) rfl
            have e29 : a'.eval (.tmp 29) = .int .i64 0 := KS_val (hd.val 3 29 (by decide +kernel)) rfl
            have r32 := KS_of (hd.val 6 32 (by decide +kernel)) rfl
            have e33 : a'.eval (.tmp 33) = .pointer (some ⟨b, 0, none⟩) := KS_val (hd.val 7 33 (by decide +kernel)) rfl
            refine wp_call 60 _ (run_enter 60 _ _ rfl (by kernel_rfl)) ?_
            simp only [List.map_toArray, List.map_nil, List.map_cons, e26, e29, e33]
            obtain ⟨bi, ei, hbi, hni⟩ := r32
            rw [ei]
            refine (kfork0_any _ HF.out hni (nw3.out.kept hg) (Nat.le_trans hB0 (Nat.le_trans Gw3.out hg.size))).mono ?_
            rintro e w5 ⟨b5, rfl, h5, n5, hb5⟩
            exact ⟨_, rfl, KS_mko rfl ⟨b5, rfl, Nat.le_trans (Nat.le_trans Gw3.out hg.size) h5, n5⟩, hb5⟩
          · skip
            intro Q
            have r34 := KS_of (hd.val 8 34 (by decide +kernel)) rfl
            exact wp_value (a'.eval (.tmp 34)) (by simp only [execOp]; rfl) (KS_mko rfl r34)
        · intro a' w6 hsz hdf hk hall hg
          have e26 : a'.eval (.tmp 26) = .int .i64 (q : Int) := KS_val (hall 0 _ 26 rfl rfl) rfl
          have e27 : a'.eval (.tmp 27) = HV k := KS_val (hall 1 _ 27 rfl rfl) rfl
          have e28 : a'.eval (.tmp 28) = .int .i64 (q : Int) := KS_val (hall 2 _ 28 rfl rfl) rfl
          have e29 : a'.eval (.tmp 29) = .int .i64 0 := KS_val (hall 3 _ 29 rfl rfl) rfl
          have e30 : a'.eval (.tmp 30) = HV k := KS_val (hall 4 _ 30 rfl rfl) rfl
          have e31 : a'.eval (.tmp 31) = HV v := KS_val (hall 5 _ 31 rfl rfl) rfl
          have r32 : (fun w v_ => ∃ b_, v_ = PT b_ ∧ N ≤ b_ ∧ Nd B0 w b_ ([(k, v)])) w6 (a'.eval (.tmp 32)) := KS_of (hall 6 _ 32 rfl rfl) rfl
          obtain ⟨x32, hx32⟩ : ∃ v, a'.eval (.tmp 32) = v := ⟨_, rfl⟩
          rw [hx32] at r32
          have e33 : a'.eval (.tmp 33) = .pointer (some ⟨b, 0, none⟩) := KS_val (hall 7 _ 33 rfl rfl) rfl
          have r34 : (fun w v_ => ∃ b_, v_ = PT b_ ∧ N ≤ b_ ∧ Nd B0 w b_ (putP L k v)) w6 (a'.eval (.tmp 34)) := KS_of (hall 8 _ 34 rfl rfl) rfl
          obtain ⟨x34, hx34⟩ : ∃ v, a'.eval (.tmp 34) = v := ⟨_, rfl⟩
          rw [hx34] at r34
          have r6 : (fun w v_ => ∃ b_, v_ = PT b_ ∧ N ≤ b_ ∧ Nd B0 w b_ (putP L k v)) w6 (a'.eval (.tmp 6)) := KS_of (hall 9 _ 6 rfl rfl) rfl
          obtain ⟨x6, hx6⟩ : ∃ v, a'.eval (.tmp 6) = v := ⟨_, rfl⟩
          rw [hx6] at r6
          have ha := act_puts 68 rfl hsz hdf hk [26, 27, 28, 29, 30, 31, 32, 33, 34, 6] (by decide +kernel)
          simp only [puts, List.foldl_cons, List.foldl_nil, e26, e27, e28, e29, e30, e31, hx32, e33, hx34, hx6] at ha
          simp only [Act.put, List.setIfInBounds_toArray, List.set_cons_succ, List.set_cons_zero] at ha
          clear hall hk hsz hdf e26 e27 e28 e29 e30 e31 hx32 e33 hx34 hx6
          subst ha
          obtain ⟨b9, e9, h9, n9⟩ := r6
          subst e9
          have LZ : Below N w w6 := Lw3.out.trans (hg.mono (Nat.le_of_lt Kw3.out.lt))
          clear hg
          go_wp2
          go_ret
          exact ⟨b9, rfl, h9, n9, LZ⟩
      | true =>
        have HF := hide (HFA.out.2 rfl).2
        refine wp_region_inv Tryd.mixed (KS (fun i_ => match i_ with | 0 | 2 => .val (.int .i64 (q : Int)) | 1 | 4 => .val (HV k) | 3 => .val (.int .i64 1) | 5 => .val (HV v) | 6 => .of (fun w v_ => ∃ b_, v_ = PT b_ ∧ N ≤ b_ ∧ Nd B0 w b_ ([(k, v)])) (fun _ _ _ hg ⟨b_, e, h1, h2⟩ => ⟨b_, e, h1, h2.kept hg⟩) | 7 => .val (.pointer (some ⟨b, 0, none⟩)) | 8 | 9 => .of (fun w v_ => ∃ b_, v_ = PT b_ ∧ N ≤ b_ ∧ Nd B0 w b_ (putP L k v)) (fun _ _ _ hg ⟨b_, e, h1, h2⟩ => ⟨b_, e, h1, h2.kept hg⟩) | _ => .free)) 68 rfl (by decide +kernel) (KS_mono _) ?_ ?_
        · refine AllFrom.cons (fun a' w' hg hk hd => ?_) (AllFrom.cons (fun a' w' hg hk hd => ?_) (AllFrom.cons (fun a' w' hg hk hd => ?_) (AllFrom.cons (fun a' w' hg hk hd => ?_) (AllFrom.cons (fun a' w' hg hk hd => ?_) (AllFrom.cons (fun a' w' hg hk hd => ?_) (AllFrom.cons (fun a' w' hg hk hd => ?_) (AllFrom.cons (fun a' w' hg hk hd => ?_) (AllFrom.cons (fun a' w' hg hk hd => ?_) (AllFrom.cons (fun a' w' hg hk hd => ?_) AllFrom.nil)))))))))
          · skip
            intro Q
            have e7 : a'.eval (.tmp 7) = .int .i64 (q : Int) := hk.at 7 (by decide +kernel)
            exact wp_value _ (by simp only [execOp, e7]; rfl) (KS_mkv rfl rfl)
          · skip
            intro Q
            have e4 : a'.eval (.tmp 4) = .pointer (some ⟨N, 0, none⟩) := hk.at 4 (by decide +kernel)
            exact wp_load_row 24 _ rfl _ _ e4 (By (k).1) _ ((Kw3.out.kept hg).range0) Tryd.underlying24 rfl (Tryd.sizeH _) (KS_mkv rfl rfl)
          · skip
            intro Q
            have e7 : a'.eval (.tmp 7) = .int .i64 (q : Int) := hk.at 7 (by decide +kernel)
            exact wp_value _ (by simp only [execOp, e7]; rfl) (KS_mkv rfl rfl)
          · skip
            intro Q
            have e27 : a'.eval (.tmp 27) = HV k := KS_val (hd.val 1 27 (by decide +kernel)) rfl
            have e28 : a'.eval (.tmp 28) = .int .i64 (q : Int) := KS_val (hd.val 2 28 (by decide +kernel)) rfl
            refine wp_call 38 _ (run_enter 38 _ _ rfl (by kernel_rfl)) ?_
            simp only [List.map_toArray, List.map_nil, List.map_cons, e27, e28]
            refine (CB.out _).mono ?_
            rintro e w5 ⟨rfl, hb5⟩
            exact ⟨_, rfl, KS_mkv rfl rfl, hb5⟩
          · skip
            intro Q
            have e4 : a'.eval (.tmp 4) = .pointer (some ⟨N, 0, none⟩) := hk.at 4 (by decide +kernel)
            exact wp_load_row 24 _ rfl _ _ e4 (By (k).1) _ ((Kw3.out.kept hg).range0) Tryd.underlying24 rfl (Tryd.sizeH _) (KS_mkv rfl rfl)
          · skip
            intro Q
            have e5 : a'.eval (.tmp 5) = .pointer (some ⟨N + 1, 0, none⟩) := hk.at 5 (by decide +kernel)
            exact wp_load_row 24 _ rfl _ _ e5 (By (v).1) _ ((Vw3.out.kept hg).range0) Tryd.underlying24 rfl (Tryd.sizeH _) (KS_mkv rfl rfl)
          · skip
            intro Q
            have e30 : a'.eval (.tmp 30) = HV k := KS_val (hd.val 4 30 (by decide +kernel)) rfl
            have e31 : a'.eval (.tmp 31) = HV v := KS_val (hd.val 5 31 (by decide +kernel)) rfl
            refine wp_call 58 _ (run_enter 58 _ _ rfl (by kernel_rfl)) ?_
            simp only [List.map_toArray, List.map_nil, List.map_cons, e30, e31]
            refine (kitem_any B0 _ _ _ (Nat.le_trans hB0 (Nat.le_trans Gw3.out hg.size))).mono ?_
            rintro e w5 ⟨b5, rfl, h5, n5, hb5⟩
            exact ⟨_, rfl, KS_mko rfl ⟨b5, rfl, Nat.le_trans (Nat.le_trans Gw3.out hg.size) h5, n5⟩, hb5⟩
          · skip
            intro Q
            have e0 : a'.eval (.tmp 0) = .pointer (some ⟨b, 0, none⟩) := hk.at 0 (by decide +kernel)
            exact wp_value _ (by simp only [execOp, e0]; rfl) (KS_mkv rfl rfl)
          · skip
            intro Q
            have e26 : a'.eval (.tmp 26) = .int .i64 (q : Int) := KS_val (hd.val 0 26 (by decide +kernel)) rfl
            have e29 : a'.eval (.tmp 29) = .int .i64 1 := KS_val (hd.val 3 29 (by decide +kernel)) rfl
            have r32 := KS_of (hd.val 6 32 (by decide +kernel)) rfl
            have e33 : a'.eval (.tmp 33) = .pointer (some ⟨b, 0, none⟩) := KS_val (hd.val 7 33 (by decide +kernel)) rfl
            refine wp_call 60 _ (run_enter 60 _ _ rfl (by kernel_rfl)) ?_
            simp only [List.map_toArray, List.map_nil, List.map_cons, e26, e29, e33]
            obtain ⟨bi, ei, hbi, hni⟩ := r32
            rw [ei]
            refine (kfork1_any _ HF.out (nw3.out.kept hg) hni (Nat.le_trans hB0 (Nat.le_trans Gw3.out hg.size))).mono ?_
            rintro e w5 ⟨b5, rfl, h5, n5, hb5⟩
            exact ⟨_, rfl, KS_mko rfl ⟨b5, rfl, Nat.le_trans (Nat.le_trans Gw3.out hg.size) h5, n5⟩, hb5⟩
          · skip
            intro Q
            have r34 := KS_of (hd.val 8 34 (by decide +kernel)) rfl
            exact wp_value (a'.eval (.tmp 34)) (by simp only [execOp]; rfl) (KS_mko rfl r34)
        · intro a' w6 hsz hdf hk hall hg
          have e26 : a'.eval (.tmp 26) = .int .i64 (q : Int) := KS_val (hall 0 _ 26 rfl rfl) rfl
          have e27 : a'.eval (.tmp 27) = HV k := KS_val (hall 1 _ 27 rfl rfl) rfl
          have e28 : a'.eval (.tmp 28) = .int .i64 (q : Int) := KS_val (hall 2 _ 28 rfl rfl) rfl
          have e29 : a'.eval (.tmp 29) = .int .i64 1 := KS_val (hall 3 _ 29 rfl rfl) rfl
          have e30 : a'.eval (.tmp 30) = HV k := KS_val (hall 4 _ 30 rfl rfl) rfl
          have e31 : a'.eval (.tmp 31) = HV v := KS_val (hall 5 _ 31 rfl rfl) rfl
          have r32 : (fun w v_ => ∃ b_, v_ = PT b_ ∧ N ≤ b_ ∧ Nd B0 w b_ ([(k, v)])) w6 (a'.eval (.tmp 32)) := KS_of (hall 6 _ 32 rfl rfl) rfl
          obtain ⟨x32, hx32⟩ : ∃ v, a'.eval (.tmp 32) = v := ⟨_, rfl⟩
          rw [hx32] at r32
          have e33 : a'.eval (.tmp 33) = .pointer (some ⟨b, 0, none⟩) := KS_val (hall 7 _ 33 rfl rfl) rfl
          have r34 : (fun w v_ => ∃ b_, v_ = PT b_ ∧ N ≤ b_ ∧ Nd B0 w b_ (putP L k v)) w6 (a'.eval (.tmp 34)) := KS_of (hall 8 _ 34 rfl rfl) rfl
          obtain ⟨x34, hx34⟩ : ∃ v, a'.eval (.tmp 34) = v := ⟨_, rfl⟩
          rw [hx34] at r34
          have r6 : (fun w v_ => ∃ b_, v_ = PT b_ ∧ N ≤ b_ ∧ Nd B0 w b_ (putP L k v)) w6 (a'.eval (.tmp 6)) := KS_of (hall 9 _ 6 rfl rfl) rfl
          obtain ⟨x6, hx6⟩ : ∃ v, a'.eval (.tmp 6) = v := ⟨_, rfl⟩
          rw [hx6] at r6
          have ha := act_puts 68 rfl hsz hdf hk [26, 27, 28, 29, 30, 31, 32, 33, 34, 6] (by decide +kernel)
          simp only [puts, List.foldl_cons, List.foldl_nil, e26, e27, e28, e29, e30, e31, hx32, e33, hx34, hx6] at ha
          simp only [Act.put, List.setIfInBounds_toArray, List.set_cons_succ, List.set_cons_zero] at ha
          clear hall hk hsz hdf e26 e27 e28 e29 e30 e31 hx32 e33 hx34 hx6
          subst ha
          obtain ⟨b9, e9, h9, n9⟩ := r6
          subst e9
          have LZ : Below N w w6 := Lw3.out.trans (hg.mono (Nat.le_of_lt Kw3.out.lt))
          clear hg
          go_wp2
          go_ret
          exact ⟨b9, rfl, h9, n9, LZ⟩
    · have q1 : ¬ (q : Int) < i := by omega
      have q2 : i ≤ q := by omega
      have CI := hide (nisItem_any Dw3.out)
      rcases HG1.out with ⟨rfl, rfl, rfl, rfl⟩ | ⟨A, B, bl, br, hF, hk, hbl, hbr, rfl, rfl, hA, hB⟩
      · have hq6 : q = 256 := by omega
        have hkk : k = ky := HQ3.out.1 hq6
        subst hkk
        have HP : Hid (putP [(k, vl)] k v = [(k, v)]) := (show _ = _ by simp [putP, lss_irrefl])
        rw [show decide (((256 : Nat) : Int) = 256) = true by decide] at CI
        have ra := Kw3.out.range0
        have rb := Vw3.out.range0
        have C := hide (kitem_any B0 k v w3 (Nat.le_trans hB0 Gw3.out))
        go_wp2_with (first
          | (go_at_call 44; refine CI.out.mono ?_; rintro e w' ⟨rfl, rfl⟩)
          | (refine wpList_load_mid rfl 24 _ rfl N 0 rfl (By k.1) _ ra Tryd.underlying24 rfl (Tryd.sizeH k) ?_)
          | (refine wpList_load_mid rfl 24 _ rfl (N + 1) 0 rfl (By v.1) _ rb Tryd.underlying24 rfl (Tryd.sizeH v) ?_)
          | fail)
        refine C.out.mono ?_
        rintro e w5 ⟨b5, rfl, h5, n5, hb5⟩
        have h6 : N ≤ b5 := Nat.le_trans Gw3.out h5
        have L5 : Below N w w5 := Lw3.out.trans (hb5.mono Gw3.out)
        clear hb5
        go_wp2
        go_ret
        exact ⟨b5, rfl, h6, by rw [HP.out]; exact n5, L5⟩
      · have hi256 : i < 256 := hF.lt
        rw [show decide ((i : Int) = 256) = false by simp; omega] at CI
        have HA := hide hA
        have HB := hide hB
        have HFF := hide hF
        have CB := hide (fun w => kBit_any k (i : Int) w)
        rw [bitZ_nat] at CB
        unfold bitN at CB
        obtain ⟨s, HS⟩ : ∃ s, Hid (bit k i = s) := ⟨_, rfl⟩
        rw [HS.out] at CB
        have HSM : Hid (∀ j, j < i → bit k j = bit ky j) := (show _ from fun j hj => HQ1.out j (by omega))
        clear hA hB hF
        go_upto_region 8 with (first
          | (go_at_call 44; refine CI.out.mono ?_; rintro e w' ⟨rfl, rfl⟩)
          | fail)
        clear cb
        cases s with
        | false =>
          have HF := hide (HFF.out.putL (v := v) HKY.out HSM.out HS.out).2
          refine wp_region_inv Tryd.mixed (KS (fun i_ => match i_ with | 0 => .val (HV k) | 1 | 2 | 3 => .val (.pointer (some ⟨b, 0, none⟩)) | 4 => .val (.int .i64 (i : Int)) | 5 | 6 => .val (.int .i64 0) | _ => .free)) 68 rfl (by decide +kernel) (KS_mono _) ?_ ?_
          · refine AllFrom.cons (fun a' w' hg hk hd => ?_) (AllFrom.cons (fun a' w' hg hk hd => ?_) (AllFrom.cons (fun a' w' hg hk hd => ?_) (AllFrom.cons (fun a' w' hg hk hd => ?_) (AllFrom.cons (fun a' w' hg hk hd => ?_) (AllFrom.cons (fun a' w' hg hk hd => ?_) (AllFrom.cons (fun a' w' hg hk hd => ?_) AllFrom.nil))))))
            · skip
              intro Q
              have e4 : a'.eval (.tmp 4) = .pointer (some ⟨N, 0, none⟩) := hk.at 4 (by decide +kernel)
              exact wp_load_row 24 _ rfl _ _ e4 (By (k).1) _ ((Kw3.out.kept hg).range0) Tryd.underlying24 rfl (Tryd.sizeH _) (KS_mkv rfl rfl)
            · skip
              intro Q
              have e0 : a'.eval (.tmp 0) = .pointer (some ⟨b, 0, none⟩) := hk.at 0 (by decide +kernel)
              exact wp_value _ (by simp only [execOp, e0]; rfl) (KS_mkv rfl rfl)
            · skip
              intro Q
              have e41 : a'.eval (.tmp 41) = .pointer (some ⟨b, 0, none⟩) := KS_val (hd.val 1 41 (by decide +kernel)) rfl
              clear hd hk
              exact wp_value (.pointer (some ⟨b, 0, none⟩)) (by simp only [execOp, e41]; go_simp) (KS_mkv rfl rfl)
            · skip
              intro Q
              have e42 : a'.eval (.tmp 42) = .pointer (some ⟨b, 0, none⟩) := KS_val (hd.val 2 42 (by decide +kernel)) rfl
              clear hd hk
              exact wp_value (.pointer (some ⟨b, 0, none⟩)) (by simp only [execOp, e42]; go_simp) (KS_mkv rfl rfl)
            · skip
              intro Q
              have e43 : a'.eval (.tmp 43) = .pointer (some ⟨b, 0, none⟩) := KS_val (hd.val 3 43 (by decide +kernel)) rfl
              have hc := NC.bit (Dw3.out.kept hg)
              clear hd hk
              exact wp_value (.int .i64 (i : Int)) (by simp only [execOp, e43]; go_simp) (KS_mkv rfl rfl)
            · skip
              intro Q
              have e40 : a'.eval (.tmp 40) = HV k := KS_val (hd.val 0 40 (by decide +kernel)) rfl
              have e44 : a'.eval (.tmp 44) = .int .i64 (i : Int) := KS_val (hd.val 4 44 (by decide +kernel)) rfl
              refine wp_call 38 _ (run_enter 38 _ _ rfl (by kernel_rfl)) ?_
              simp only [List.map_toArray, List.map_nil, List.map_cons, e40, e44]
              refine (CB.out _).mono ?_
              rintro e w5 ⟨rfl, hb5⟩
              exact ⟨_, rfl, KS_mkv rfl rfl, hb5⟩
            · skip
              intro Q
              have e45 : a'.eval (.tmp 45) = .int .i64 0 := KS_val (hd.val 5 45 (by decide +kernel)) rfl
              exact wp_value _ (by simp only [execOp, e45]; rfl) (KS_mkv rfl rfl)
          · intro a' w7 hsz hdf hk hall hg
            have e40 : a'.eval (.tmp 40) = HV k := KS_val (hall 0 _ 40 rfl rfl) rfl
            have e41 : a'.eval (.tmp 41) = .pointer (some ⟨b, 0, none⟩) := KS_val (hall 1 _ 41 rfl rfl) rfl
            have e42 : a'.eval (.tmp 42) = .pointer (some ⟨b, 0, none⟩) := KS_val (hall 2 _ 42 rfl rfl) rfl
            have e43 : a'.eval (.tmp 43) = .pointer (some ⟨b, 0, none⟩) := KS_val (hall 3 _ 43 rfl rfl) rfl
            have e44 : a'.eval (.tmp 44) = .int .i64 (i : Int) := KS_val (hall 4 _ 44 rfl rfl) rfl
            have e45 : a'.eval (.tmp 45) = .int .i64 0 := KS_val (hall 5 _ 45 rfl rfl) rfl
            have e8 : a'.eval (.tmp 8) = .int .i64 0 := KS_val (hall 6 _ 8 rfl rfl) rfl
            have ha := act_puts 68 rfl hsz hdf hk [40, 41, 42, 43, 44, 45, 8] (by decide +kernel)
            simp only [puts, List.foldl_cons, List.foldl_nil, e40, e41, e42, e43, e44, e45, e8] at ha
            simp only [Act.put, List.setIfInBounds_toArray, List.set_cons_succ, List.set_cons_zero] at ha
            clear hall hk hsz hdf e40 e41 e42 e43 e44 e45 e8
            subst ha
            have Kw7 := hide (Kw3.out.kept hg)
            have Vw7 := hide (Vw3.out.kept hg)
            have Dw7 := hide (Dw3.out.kept hg)
            have nw7 := hide (nw3.out.kept hg)
            have Lw7 : Hid (Below N w w7) := Lw3.out.trans (hg.mono (Nat.le_of_lt Kw3.out.lt))
            have Gw7 : Hid (N ≤ w7.heap.size) := (show _ ≤ _ from Nat.le_of_lt Kw7.out.lt)
            clear hg Kw3 Vw3 Dw3 nw3 Lw3 Gw3
            go_upto_region 9 with fail
            refine wp_region_inv Tryd.mixed (KS (fun i_ => match i_ with | 0 | 1 | 2 | 5 | 7 | 14 | 17 => .val (.pointer (some ⟨b, 0, none⟩)) | 3 => .val (.int .i64 (i : Int)) | 4 | 6 | 15 => .val (.int .i64 0) | 8 | 9 | 18 => .val (.pointer (some ⟨b, 65, none⟩)) | 10 => .val (PT bl) | 11 => .val (HV k) | 12 => .val (HV v) | 13 => .of (fun w v_ => ∃ b_, v_ = PT b_ ∧ N ≤ b_ ∧ Nd B0 w b_ (putP A k v)) (fun _ _ _ hg ⟨b_, e, h1, h2⟩ => ⟨b_, e, h1, h2.kept hg⟩) | 16 => .val (.int .i64 1) | 19 => .val (.pointer (some ⟨b, 66, none⟩)) | 20 => .val (PT br) | 21 | 22 => .of (fun w v_ => ∃ b_, v_ = PT b_ ∧ N ≤ b_ ∧ Nd B0 w b_ (putP L k v)) (fun _ _ _ hg ⟨b_, e, h1, h2⟩ => ⟨b_, e, h1, h2.kept hg⟩) | _ => .free)) 68 rfl (by decide +kernel) (KS_mono _) ?_ ?_
            · refine AllFrom.cons (fun a' w' hg hk hd => ?_) (AllFrom.cons (fun a' w' hg hk hd => ?_) (AllFrom.cons (fun a' w' hg hk hd => ?_) (AllFrom.cons (fun a' w' hg hk hd => ?_) (AllFrom.cons (fun a' w' hg hk hd => ?_) (AllFrom.cons (fun a' w' hg hk hd => ?_) (AllFrom.cons (fun a' w' hg hk hd => ?_) (AllFrom.cons (fun a' w' hg hk hd => ?_) (AllFrom.cons (fun a' w' hg hk hd => ?_) (AllFrom.cons (fun a' w' hg hk hd => ?_) (AllFrom.cons (fun a' w' hg hk hd => ?_) (AllFrom.cons (fun a' w' hg hk hd => ?_) (AllFrom.cons (fun a' w' hg hk hd => ?_) (AllFrom.cons (fun a' w' hg hk hd => ?_) (AllFrom.cons (fun a' w' hg hk hd => ?_) (AllFrom.cons (fun a' w' hg hk hd => ?_) (AllFrom.cons (fun a' w' hg hk hd => ?_) (AllFrom.cons (fun a' w' hg hk hd => ?_) (AllFrom.cons (fun a' w' hg hk hd => ?_) (AllFrom.cons (fun a' w' hg hk hd => ?_) (AllFrom.cons (fun a' w' hg hk hd => ?_) (AllFrom.cons (fun a' w' hg hk hd => ?_) (AllFrom.cons (fun a' w' hg hk hd => ?_) AllFrom.nil))))))))))))))))))))))
              · skip
                intro Q
                have e0 : a'.eval (.tmp 0) = .pointer (some ⟨b, 0, none⟩) := hk.at 0 (by decide +kernel)
                exact wp_value _ (by simp only [execOp, e0]; rfl) (KS_mkv rfl rfl)
              · skip
                intro Q
                have e46 : a'.eval (.tmp 46) = .pointer (some ⟨b, 0, none⟩) := KS_val (hd.val 0 46 (by decide +kernel)) rfl
                clear hd hk
                exact wp_value (.pointer (some ⟨b, 0, none⟩)) (by simp only [execOp, e46]; go_simp) (KS_mkv rfl rfl)
              · skip
                intro Q
                have e47 : a'.eval (.tmp 47) = .pointer (some ⟨b, 0, none⟩) := KS_val (hd.val 1 47 (by decide +kernel)) rfl
                clear hd hk
                exact wp_value (.pointer (some ⟨b, 0, none⟩)) (by simp only [execOp, e47]; go_simp) (KS_mkv rfl rfl)
              · skip
                intro Q
                have e48 : a'.eval (.tmp 48) = .pointer (some ⟨b, 0, none⟩) := KS_val (hd.val 2 48 (by decide +kernel)) rfl
                have hc := NC.bit (Dw7.out.kept hg)
                clear hd hk
                exact wp_value (.int .i64 (i : Int)) (by simp only [execOp, e48]; go_simp) (KS_mkv rfl rfl)
              · skip
                intro Q
                have e8 : a'.eval (.tmp 8) = .int .i64 0 := hk.at 8 (by decide +kernel)
                exact wp_value _ (by simp only [execOp, e8]; rfl) (KS_mkv rfl rfl)
              · skip
                intro Q
                have e0 : a'.eval (.tmp 0) = .pointer (some ⟨b, 0, none⟩) := hk.at 0 (by decide +kernel)
                exact wp_value _ (by simp only [execOp, e0]; rfl) (KS_mkv rfl rfl)
              · skip
                intro Q
                have e8 : a'.eval (.tmp 8) = .int .i64 0 := hk.at 8 (by decide +kernel)
                exact wp_value _ (by simp only [execOp, e8]; rfl) (KS_mkv rfl rfl)
              · skip
                intro Q
                have e51 : a'.eval (.tmp 51) = .pointer (some ⟨b, 0, none⟩) := KS_val (hd.val 5 51 (by decide +kernel)) rfl
                clear hd hk
                exact wp_value (.pointer (some ⟨b, 0, none⟩)) (by simp only [execOp, e51]; go_simp) (KS_mkv rfl rfl)
              · skip
                intro Q
                have e53 : a'.eval (.tmp 53) = .pointer (some ⟨b, 0, none⟩) := KS_val (hd.val 7 53 (by decide +kernel)) rfl
                clear hd hk
                exact wp_value (.pointer (some ⟨b, 65, none⟩)) (by simp only [execOp, e53]; go_simp) (KS_mkv rfl rfl)
              · skip
                intro Q
                have e52 : a'.eval (.tmp 52) = .int .i64 0 := KS_val (hd.val 6 52 (by decide +kernel)) rfl
                have e54 : a'.eval (.tmp 54) = .pointer (some ⟨b, 65, none⟩) := KS_val (hd.val 8 54 (by decide +kernel)) rfl
                clear hd hk
                exact wp_value (.pointer (some ⟨b, 65, none⟩)) (by simp only [execOp, e52, e54]; go_simp) (KS_mkv rfl rfl)
              · skip
                intro Q
                have e55 : a'.eval (.tmp 55) = .pointer (some ⟨b, 65, none⟩) := KS_val (hd.val 9 55 (by decide +kernel)) rfl
                have hc := NC.left (Dw7.out.kept hg)
                clear hd hk
                exact wp_value (PT bl) (by simp only [execOp, e55]; go_simp) (KS_mkv rfl rfl)
              · skip
                intro Q
                have e4 : a'.eval (.tmp 4) = .pointer (some ⟨N, 0, none⟩) := hk.at 4 (by decide +kernel)
                exact wp_load_row 24 _ rfl _ _ e4 (By (k).1) _ ((Kw7.out.kept hg).range0) Tryd.underlying24 rfl (Tryd.sizeH _) (KS_mkv rfl rfl)
              · skip
                intro Q
                have e5 : a'.eval (.tmp 5) = .pointer (some ⟨N + 1, 0, none⟩) := hk.at 5 (by decide +kernel)
                exact wp_load_row 24 _ rfl _ _ e5 (By (v).1) _ ((Vw7.out.kept hg).range0) Tryd.underlying24 rfl (Tryd.sizeH _) (KS_mkv rfl rfl)
              · skip
                intro Q
                have e56 : a'.eval (.tmp 56) = PT bl := KS_val (hd.val 10 56 (by decide +kernel)) rfl
                have e57 : a'.eval (.tmp 57) = HV k := KS_val (hd.val 11 57 (by decide +kernel)) rfl
                have e58 : a'.eval (.tmp 58) = HV v := KS_val (hd.val 12 58 (by decide +kernel)) rfl
                refine wp_call 45 _ (run_enter 45 _ _ rfl (by kernel_rfl)) ?_
                simp only [List.map_toArray, List.map_nil, List.map_cons, e56, e57, e58]
                refine (IH.out bl hbl A _ ((HA.out.kept (Lw7.out.mono (Nat.le_of_eq HN.out))).kept hg) (Nat.le_trans hB0 (Nat.le_trans Gw7.out hg.size))).mono ?_
                rintro e w5 ⟨b5, rfl, h5, n5, hb5⟩
                exact ⟨_, rfl, KS_mko rfl ⟨b5, rfl, Nat.le_trans (Nat.le_trans Gw7.out hg.size) h5, n5⟩, hb5⟩
              · skip
                intro Q
                have e0 : a'.eval (.tmp 0) = .pointer (some ⟨b, 0, none⟩) := hk.at 0 (by decide +kernel)
                exact wp_value _ (by simp only [execOp, e0]; rfl) (KS_mkv rfl rfl)
              · skip
                intro Q
                have e8 : a'.eval (.tmp 8) = .int .i64 0 := hk.at 8 (by decide +kernel)
                exact wp_value _ (by simp only [execOp, e8]; rfl) (KS_mkv rfl rfl)
              · skip
                intro Q
                have e61 : a'.eval (.tmp 61) = .int .i64 0 := KS_val (hd.val 15 61 (by decide +kernel)) rfl
                clear hd hk
                exact wp_value (.int .i64 1) (by simp only [execOp, e61]; go_simp; first | done | rfl | decide) (KS_mkv rfl rfl)
              · skip
                intro Q
                have e60 : a'.eval (.tmp 60) = .pointer (some ⟨b, 0, none⟩) := KS_val (hd.val 14 60 (by decide +kernel)) rfl
                clear hd hk
                exact wp_value (.pointer (some ⟨b, 0, none⟩)) (by simp only [execOp, e60]; go_simp) (KS_mkv rfl rfl)
              · skip
                intro Q
                have e63 : a'.eval (.tmp 63) = .pointer (some ⟨b, 0, none⟩) := KS_val (hd.val 17 63 (by decide +kernel)) rfl
                clear hd hk
                exact wp_value (.pointer (some ⟨b, 65, none⟩)) (by simp only [execOp, e63]; go_simp) (KS_mkv rfl rfl)
              · skip
                intro Q
                have e62 : a'.eval (.tmp 62) = .int .i64 1 := KS_val (hd.val 16 62 (by decide +kernel)) rfl
                have e64 : a'.eval (.tmp 64) = .pointer (some ⟨b, 65, none⟩) := KS_val (hd.val 18 64 (by decide +kernel)) rfl
                clear hd hk
                exact wp_value (.pointer (some ⟨b, 66, none⟩)) (by simp only [execOp, e62, e64]; go_simp) (KS_mkv rfl rfl)
              · skip
                intro Q
                have e65 : a'.eval (.tmp 65) = .pointer (some ⟨b, 66, none⟩) := KS_val (hd.val 19 65 (by decide +kernel)) rfl
                have hc := NC.right (Dw7.out.kept hg)
                clear hd hk
                exact wp_value (PT br) (by simp only [execOp, e65]; go_simp) (KS_mkv rfl rfl)
              · skip
                intro Q
                have e49 : a'.eval (.tmp 49) = .int .i64 (i : Int) := KS_val (hd.val 3 49 (by decide +kernel)) rfl
                have e50 : a'.eval (.tmp 50) = .int .i64 0 := KS_val (hd.val 4 50 (by decide +kernel)) rfl
                have r59 := KS_of (hd.val 13 59 (by decide +kernel)) rfl
                have e66 : a'.eval (.tmp 66) = PT br := KS_val (hd.val 20 66 (by decide +kernel)) rfl
                refine wp_call 60 _ (run_enter 60 _ _ rfl (by kernel_rfl)) ?_
                simp only [List.map_toArray, List.map_nil, List.map_cons, e49, e50, e66]
                obtain ⟨bi, ei, hbi, hni⟩ := r59
                rw [ei]
                refine (kfork0_any _ HF.out hni ((HB.out.kept (Lw7.out.mono (Nat.le_of_eq HN.out))).kept hg) (Nat.le_trans hB0 (Nat.le_trans Gw7.out hg.size))).mono ?_
                rintro e w5 ⟨b5, rfl, h5, n5, hb5⟩
                exact ⟨_, rfl, KS_mko rfl ⟨b5, rfl, Nat.le_trans (Nat.le_trans Gw7.out hg.size) h5, n5⟩, hb5⟩
              · skip
                intro Q
                have r67 := KS_of (hd.val 21 67 (by decide +kernel)) rfl
                exact wp_value (a'.eval (.tmp 67)) (by simp only [execOp]; rfl) (KS_mko rfl r67)
            · intro a' w8 hsz hdf hk hall hg
              have e46 : a'.eval (.tmp 46) = .pointer (some ⟨b, 0, none⟩) := KS_val (hall 0 _ 46 rfl rfl) rfl
              have e47 : a'.eval (.tmp 47) = .pointer (some ⟨b, 0, none⟩) := KS_val (hall 1 _ 47 rfl rfl) rfl
              have e48 : a'.eval (.tmp 48) = .pointer (some ⟨b, 0, none⟩) := KS_val (hall 2 _ 48 rfl rfl) rfl
              have e49 : a'.eval (.tmp 49) = .int .i64 (i : Int) := KS_val (hall 3 _ 49 rfl rfl) rfl
              have e50 : a'.eval (.tmp 50) = .int .i64 0 := KS_val (hall 4 _ 50 rfl rfl) rfl
              have e51 : a'.eval (.tmp 51) = .pointer (some ⟨b, 0, none⟩) := KS_val (hall 5 _ 51 rfl rfl) rfl
              have e52 : a'.eval (.tmp 52) = .int .i64 0 := KS_val (hall 6 _ 52 rfl rfl) rfl
              have e53 : a'.eval (.tmp 53) = .pointer (some ⟨b, 0, none⟩) := KS_val (hall 7 _ 53 rfl rfl) rfl
              have e54 : a'.eval (.tmp 54) = .pointer (some ⟨b, 65, none⟩) := KS_val (hall 8 _ 54 rfl rfl) rfl
              have e55 : a'.eval (.tmp 55) = .pointer (some ⟨b, 65, none⟩) := KS_val (hall 9 _ 55 rfl rfl) rfl
              have e56 : a'.eval (.tmp 56) = PT bl := KS_val (hall 10 _ 56 rfl rfl) rfl
              have e57 : a'.eval (.tmp 57) = HV k := KS_val (hall 11 _ 57 rfl rfl) rfl
              have e58 : a'.eval (.tmp 58) = HV v := KS_val (hall 12 _ 58 rfl rfl) rfl
              have r59 : (fun w v_ => ∃ b_, v_ = PT b_ ∧ N ≤ b_ ∧ Nd B0 w b_ (putP A k v)) w8 (a'.eval (.tmp 59)) := KS_of (hall 13 _ 59 rfl rfl) rfl
              obtain ⟨x59, hx59⟩ : ∃ v, a'.eval (.tmp 59) = v := ⟨_, rfl⟩
              rw [hx59] at r59
              have e60 : a'.eval (.tmp 60) = .pointer (some ⟨b, 0, none⟩) := KS_val (hall 14 _ 60 rfl rfl) rfl
              have e61 : a'.eval (.tmp 61) = .int .i64 0 := KS_val (hall 15 _ 61 rfl rfl) rfl
              have e62 : a'.eval (.tmp 62) = .int .i64 1 := KS_val (hall 16 _ 62 rfl rfl) rfl
              have e63 : a'.eval (.tmp 63) = .pointer (some ⟨b, 0, none⟩) := KS_val (hall 17 _ 63 rfl rfl) rfl
              have e64 : a'.eval (.tmp 64) = .pointer (some ⟨b, 65, none⟩) := KS_val (hall 18 _ 64 rfl rfl) rfl
              have e65 : a'.eval (.tmp 65) = .pointer (some ⟨b, 66, none⟩) := KS_val (hall 19 _ 65 rfl rfl) rfl
              have e66 : a'.eval (.tmp 66) = PT br := KS_val (hall 20 _ 66 rfl rfl) rfl
              have r67 : (fun w v_ => ∃ b_, v_ = PT b_ ∧ N ≤ b_ ∧ Nd B0 w b_ (putP L k v)) w8 (a'.eval (.tmp 67)) := KS_of (hall 21 _ 67 rfl rfl) rfl
              obtain ⟨x67, hx67⟩ : ∃ v, a'.eval (.tmp 67) = v := ⟨_, rfl⟩
              rw [hx67] at r67
              have r6 : (fun w v_ => ∃ b_, v_ = PT b_ ∧ N ≤ b_ ∧ Nd B0 w b_ (putP L k v)) w8 (a'.eval (.tmp 6)) := KS_of (hall 22 _ 6 rfl rfl) rfl
              obtain ⟨x6, hx6⟩ : ∃ v, a'.eval (.tmp 6) = v := ⟨_, rfl⟩
              rw [hx6] at r6
              have ha := act_puts 68 rfl hsz hdf hk [46, 47, 48, 49, 50, 51, 52, 53, 54, 55, 56, 57, 58, 59, 60, 61, 62, 63, 64, 65, 66, 67, 6] (by decide +kernel)
              simp only [puts, List.foldl_cons, List.foldl_nil, e46, e47, e48, e49, e50, e51, e52, e53, e54, e55, e56, e57, e58, hx59, e60, e61, e62, e63, e64, e65, e66, hx67, hx6] at ha
              simp only [Act.put, List.setIfInBounds_toArray, List.set_cons_succ, List.set_cons_zero] at ha
              clear hall hk hsz hdf e46 e47 e48 e49 e50 e51 e52 e53 e54 e55 e56 e57 e58 hx59 e60 e61 e62 e63 e64 e65 e66 hx67 hx6
              subst ha
              obtain ⟨b9, e9, h9, n9⟩ := r6
              subst e9
              have LZ : Below N w w8 := Lw7.out.trans (hg.mono (Nat.le_of_lt Kw7.out.lt))
              clear hg
              go_wp2
              go_ret
              exact ⟨b9, rfl, h9, n9, LZ⟩
        | true =>
          have HF := hide (HFF.out.putR (v := v) HKY.out HSM.out HS.out).2
          refine wp_region_inv Tryd.mixed (KS (fun i_ => match i_ with | 0 => .val (HV k) | 1 | 2 | 3 => .val (.pointer (some ⟨b, 0, none⟩)) | 4 => .val (.int .i64 (i : Int)) | 5 | 6 => .val (.int .i64 1) | _ => .free)) 68 rfl (by decide +kernel) (KS_mono _) ?_ ?_
          · refine AllFrom.cons (fun a' w' hg hk hd => ?_) (AllFrom.cons (fun a' w' hg hk hd => ?_) (AllFrom.cons (fun a' w' hg hk hd => ?_) (AllFrom.cons (fun a' w' hg hk hd => ?_) (AllFrom.cons (fun a' w' hg hk hd => ?_) (AllFrom.cons (fun a' w' hg hk hd => ?_) (AllFrom.cons (fun a' w' hg hk hd => ?_) AllFrom.nil))))))
            · skip
              intro Q
              have e4 : a'.eval (.tmp 4) = .pointer (some ⟨N, 0, none⟩) := hk.at 4 (by decide +kernel)
              exact wp_load_row 24 _ rfl _ _ e4 (By (k).1) _ ((Kw3.out.kept hg).range0) Tryd.underlying24 rfl (Tryd.sizeH _) (KS_mkv rfl rfl)
            · skip
              intro Q
              have e0 : a'.eval (.tmp 0) = .pointer (some ⟨b, 0, none⟩) := hk.at 0 (by decide +kernel)
              exact wp_value _ (by simp only [execOp, e0]; rfl) (KS_mkv rfl rfl)
            · skip
              intro Q
              have e41 : a'.eval (.tmp 41) = .pointer (some ⟨b, 0, none⟩) := KS_val (hd.val 1 41 (by decide +kernel)) rfl
              clear hd hk
              exact wp_value (.pointer (some ⟨b, 0, none⟩)) (by simp only [execOp, e41]; go_simp) (KS_mkv rfl rfl)
            · skip
              intro Q
              have e42 : a'.eval (.tmp 42) = .pointer (some ⟨b, 0, none⟩) := KS_val (hd.val 2 42 (by decide +kernel)) rfl
              clear hd hk
              exact wp_value (.pointer (some ⟨b, 0, none⟩)) (by simp only [execOp, e42]; go_simp) (KS_mkv rfl rfl)
            · skip
              intro Q
              have e43 : a'.eval (.tmp 43) = .pointer (some ⟨b, 0, none⟩) := KS_val (hd.val 3 43 (by decide +kernel)) rfl
              have hc := NC.bit (Dw3.out.kept hg)
              clear hd hk
              exact wp_value (.int .i64 (i : Int)) (by simp only [execOp, e43]; go_simp) (KS_mkv rfl rfl)
            · skip
              intro Q
              have e40 : a'.eval (.tmp 40) = HV k := KS_val (hd.val 0 40 (by decide +kernel)) rfl
              have e44 : a'.eval (.tmp 44) = .int .i64 (i : Int) := KS_val (hd.val 4 44 (by decide +kernel)) rfl
              refine wp_call 38 _ (run_enter 38 _ _ rfl (by kernel_rfl)) ?_
              simp only [List.map_toArray, List.map_nil, List.map_cons, e40, e44]
              refine (CB.out _).mono ?_
              rintro e w5 ⟨rfl, hb5⟩
              exact ⟨_, rfl, KS_mkv rfl rfl, hb5⟩
            · skip
              intro Q
              have e45 : a'.eval (.tmp 45) = .int .i64 1 := KS_val (hd.val 5 45 (by decide +kernel)) rfl
              exact wp_value _ (by simp only [execOp, e45]; rfl) (KS_mkv rfl rfl)
          · intro a' w7 hsz hdf hk hall hg
            have e40 : a'.eval (.tmp 40) = HV k := KS_val (hall 0 _ 40 rfl rfl) rfl
            have e41 : a'.eval (.tmp 41) = .pointer (some ⟨b, 0, none⟩) := KS_val (hall 1 _ 41 rfl rfl) rfl
            have e42 : a'.eval (.tmp 42) = .pointer (some ⟨b, 0, none⟩) := KS_val (hall 2 _ 42 rfl rfl) rfl
            have e43 : a'.eval (.tmp 43) = .pointer (some ⟨b, 0, none⟩) := KS_val (hall 3 _ 43 rfl rfl) rfl
            have e44 : a'.eval (.tmp 44) = .int .i64 (i : Int) := KS_val (hall 4 _ 44 rfl rfl) rfl
            have e45 : a'.eval (.tmp 45) = .int .i64 1 := KS_val (hall 5 _ 45 rfl rfl) rfl
            have e8 : a'.eval (.tmp 8) = .int .i64 1 := KS_val (hall 6 _ 8 rfl rfl) rfl
            have ha := act_puts 68 rfl hsz hdf hk [40, 41, 42, 43, 44, 45, 8] (by decide +kernel)
            simp only [puts, List.foldl_cons, List.foldl_nil, e40, e41, e42, e43, e44, e45, e8] at ha
            simp only [Act.put, List.setIfInBounds_toArray, List.set_cons_succ, List.set_cons_zero] at ha
            clear hall hk hsz hdf e40 e41 e42 e43 e44 e45 e8
            subst ha
            have Kw7 := hide (Kw3.out.kept hg)
            have Vw7 := hide (Vw3.out.kept hg)
            have Dw7 := hide (Dw3.out.kept hg)
            have nw7 := hide (nw3.out.kept hg)
            have Lw7 : Hid (Below N w w7) := Lw3.out.trans (hg.mono (Nat.le_of_lt Kw3.out.lt))
            have Gw7 : Hid (N ≤ w7.heap.size) := (show _ ≤ _ from Nat.le_of_lt Kw7.out.lt)
            clear hg Kw3 Vw3 Dw3 nw3 Lw3 Gw3
            go_upto_region 9 with fail
            refine wp_region_inv Tryd.mixed (KS (fun i_ => match i_ with | 0 | 1 | 2 | 5 | 7 | 14 | 17 => .val (.pointer (some ⟨b, 0, none⟩)) | 3 => .val (.int .i64 (i : Int)) | 4 | 6 | 15 => .val (.int .i64 1) | 8 | 18 | 19 => .val (.pointer (some ⟨b, 65, none⟩)) | 9 => .val (.pointer (some ⟨b, 66, none⟩)) | 10 => .val (PT br) | 11 => .val (HV k) | 12 => .val (HV v) | 13 => .of (fun w v_ => ∃ b_, v_ = PT b_ ∧ N ≤ b_ ∧ Nd B0 w b_ (putP B k v)) (fun _ _ _ hg ⟨b_, e, h1, h2⟩ => ⟨b_, e, h1, h2.kept hg⟩) | 16 => .val (.int .i64 0) | 20 => .val (PT bl) | 21 | 22 => .of (fun w v_ => ∃ b_, v_ = PT b_ ∧ N ≤ b_ ∧ Nd B0 w b_ (putP L k v)) (fun _ _ _ hg ⟨b_, e, h1, h2⟩ => ⟨b_, e, h1, h2.kept hg⟩) | _ => .free)) 68 rfl (by decide +kernel) (KS_mono _) ?_ ?_
            · refine AllFrom.cons (fun a' w' hg hk hd => ?_) (AllFrom.cons (fun a' w' hg hk hd => ?_) (AllFrom.cons (fun a' w' hg hk hd => ?_) (AllFrom.cons (fun a' w' hg hk hd => ?_) (AllFrom.cons (fun a' w' hg hk hd => ?_) (AllFrom.cons (fun a' w' hg hk hd => ?_) (AllFrom.cons (fun a' w' hg hk hd => ?_) (AllFrom.cons (fun a' w' hg hk hd => ?_) (AllFrom.cons (fun a' w' hg hk hd => ?_) (AllFrom.cons (fun a' w' hg hk hd => ?_) (AllFrom.cons (fun a' w' hg hk hd => ?_) (AllFrom.cons (fun a' w' hg hk hd => ?_) (AllFrom.cons (fun a' w' hg hk hd => ?_) (AllFrom.cons (fun a' w' hg hk hd => ?_) (AllFrom.cons (fun a' w' hg hk hd => ?_) (AllFrom.cons (fun a' w' hg hk hd => ?_) (AllFrom.cons (fun a' w' hg hk hd => ?_) (AllFrom.cons (fun a' w' hg hk hd => ?_) (AllFrom.cons (fun a' w' hg hk hd => ?_) (AllFrom.cons (fun a' w' hg hk hd => ?_) (AllFrom.cons (fun a' w' hg hk hd => ?_) (AllFrom.cons (fun a' w' hg hk hd => ?_) (AllFrom.cons (fun a' w' hg hk hd => ?_) AllFrom.nil))))))))))))))))))))))
              · skip
                intro Q
                have e0 : a'.eval (.tmp 0) = .pointer (some ⟨b, 0, none⟩) := hk.at 0 (by decide +kernel)
                exact wp_value _ (by simp only [execOp, e0]; rfl) (KS_mkv rfl rfl)
              · skip
                intro Q
                have e46 : a'.eval (.tmp 46) = .pointer (some ⟨b, 0, none⟩) := KS_val (hd.val 0 46 (by decide +kernel)) rfl
                clear hd hk
                exact wp_value (.pointer (some ⟨b, 0, none⟩)) (by simp only [execOp, e46]; go_simp) (KS_mkv rfl rfl)
              · skip
                intro Q
                have e47 : a'.eval (.tmp 47) = .pointer (some ⟨b, 0, none⟩) := KS_val (hd.val 1 47 (by decide +kernel)) rfl
                clear hd hk
                exact wp_value (.pointer (some ⟨b, 0, none⟩)) (by simp only [execOp, e47]; go_simp) (KS_mkv rfl rfl)
              · skip
                intro Q
                have e48 : a'.eval (.tmp 48) = .pointer (some ⟨b, 0, none⟩) := KS_val (hd.val 2 48 (by decide +kernel)) rfl
                have hc := NC.bit (Dw7.out.kept hg)
                clear hd hk
                exact wp_value (.int .i64 (i : Int)) (by simp only [execOp, e48]; go_simp) (KS_mkv rfl rfl)
              · skip
                intro Q
                have e8 : a'.eval (.tmp 8) = .int .i64 1 := hk.at 8 (by decide +kernel)
                exact wp_value _ (by simp only [execOp, e8]; rfl) (KS_mkv rfl rfl)
              · skip
                intro Q
                have e0 : a'.eval (.tmp 0) = .pointer (some ⟨b, 0, none⟩) := hk.at 0 (by decide +kernel)
                exact wp_value _ (by simp only [execOp, e0]; rfl) (KS_mkv rfl rfl)
              · skip
                intro Q
                have e8 : a'.eval (.tmp 8) = .int .i64 1 := hk.at 8 (by decide +kernel)
                exact wp_value _ (by simp only [execOp, e8]; rfl) (KS_mkv rfl rfl)
              · skip
                intro Q
                have e51 : a'.eval (.tmp 51) = .pointer (some ⟨b, 0, none⟩) := KS_val (hd.val 5 51 (by decide +kernel)) rfl
                clear hd hk
                exact wp_value (.pointer (some ⟨b, 0, none⟩)) (by simp only [execOp, e51]; go_simp) (KS_mkv rfl rfl)
              · skip
                intro Q
                have e53 : a'.eval (.tmp 53) = .pointer (some ⟨b, 0, none⟩) := KS_val (hd.val 7 53 (by decide +kernel)) rfl
                clear hd hk
                exact wp_value (.pointer (some ⟨b, 65, none⟩)) (by simp only [execOp, e53]; go_simp) (KS_mkv rfl rfl)
              · skip
                intro Q
                have e52 : a'.eval (.tmp 52) = .int .i64 1 := KS_val (hd.val 6 52 (by decide +kernel)) rfl
                have e54 : a'.eval (.tmp 54) = .pointer (some ⟨b, 65, none⟩) := KS_val (hd.val 8 54 (by decide +kernel)) rfl
                clear hd hk
                exact wp_value (.pointer (some ⟨b, 66, none⟩)) (by simp only [execOp, e52, e54]; go_simp) (KS_mkv rfl rfl)
              · skip
                intro Q
                have e55 : a'.eval (.tmp 55) = .pointer (some ⟨b, 66, none⟩) := KS_val (hd.val 9 55 (by decide +kernel)) rfl
                have hc := NC.right (Dw7.out.kept hg)
                clear hd hk
                exact wp_value (PT br) (by simp only [execOp, e55]; go_simp) (KS_mkv rfl rfl)
              · skip
                intro Q
                have e4 : a'.eval (.tmp 4) = .pointer (some ⟨N, 0, none⟩) := hk.at 4 (by decide +kernel)
                exact wp_load_row 24 _ rfl _ _ e4 (By (k).1) _ ((Kw7.out.kept hg).range0) Tryd.underlying24 rfl (Tryd.sizeH _) (KS_mkv rfl rfl)
              · skip
                intro Q
                have e5 : a'.eval (.tmp 5) = .pointer (some ⟨N + 1, 0, none⟩) := hk.at 5 (by decide +kernel)
                exact wp_load_row 24 _ rfl _ _ e5 (By (v).1) _ ((Vw7.out.kept hg).range0) Tryd.underlying24 rfl (Tryd.sizeH _) (KS_mkv rfl rfl)
              · skip
                intro Q
                have e56 : a'.eval (.tmp 56) = PT br := KS_val (hd.val 10 56 (by decide +kernel)) rfl
                have e57 : a'.eval (.tmp 57) = HV k := KS_val (hd.val 11 57 (by decide +kernel)) rfl
                have e58 : a'.eval (.tmp 58) = HV v := KS_val (hd.val 12 58 (by decide +kernel)) rfl
                refine wp_call 45 _ (run_enter 45 _ _ rfl (by kernel_rfl)) ?_
                simp only [List.map_toArray, List.map_nil, List.map_cons, e56, e57, e58]
                refine (IH.out br hbr B _ ((HB.out.kept (Lw7.out.mono (Nat.le_of_eq HN.out))).kept hg) (Nat.le_trans hB0 (Nat.le_trans Gw7.out hg.size))).mono ?_
                rintro e w5 ⟨b5, rfl, h5, n5, hb5⟩
                exact ⟨_, rfl, KS_mko rfl ⟨b5, rfl, Nat.le_trans (Nat.le_trans Gw7.out hg.size) h5, n5⟩, hb5⟩
              · skip
                intro Q
                have e0 : a'.eval (.tmp 0) = .pointer (some ⟨b, 0, none⟩) := hk.at 0 (by decide +kernel)
                exact wp_value _ (by simp only [execOp, e0]; rfl) (KS_mkv rfl rfl)
              · skip
                intro Q
                have e8 : a'.eval (.tmp 8) = .int .i64 1 := hk.at 8 (by decide +kernel)
                exact wp_value _ (by simp only [execOp, e8]; rfl) (KS_mkv rfl rfl)
              · skip
                intro Q
                have e61 : a'.eval (.tmp 61) = .int .i64 1 := KS_val (hd.val 15 61 (by decide +kernel)) rfl
                clear hd hk
                exact wp_value (.int .i64 0) (by simp only [execOp, e61]; go_simp; first | done | rfl | decide) (KS_mkv rfl rfl)
              · skip
                intro Q
                have e60 : a'.eval (.tmp 60) = .pointer (some ⟨b, 0, none⟩) := KS_val (hd.val 14 60 (by decide +kernel)) rfl
                clear hd hk
                exact wp_value (.pointer (some ⟨b, 0, none⟩)) (by simp only [execOp, e60]; go_simp) (KS_mkv rfl rfl)
              · skip
                intro Q
                have e63 : a'.eval (.tmp 63) = .pointer (some ⟨b, 0, none⟩) := KS_val (hd.val 17 63 (by decide +kernel)) rfl
                clear hd hk
                exact wp_value (.pointer (some ⟨b, 65, none⟩)) (by simp only [execOp, e63]; go_simp) (KS_mkv rfl rfl)
              · skip
                intro Q
                have e62 : a'.eval (.tmp 62) = .int .i64 0 := KS_val (hd.val 16 62 (by decide +kernel)) rfl
                have e64 : a'.eval (.tmp 64) = .pointer (some ⟨b, 65, none⟩) := KS_val (hd.val 18 64 (by decide +kernel)) rfl
                clear hd hk
                exact wp_value (.pointer (some ⟨b, 65, none⟩)) (by simp only [execOp, e62, e64]; go_simp) (KS_mkv rfl rfl)
              · skip
                intro Q
                have e65 : a'.eval (.tmp 65) = .pointer (some ⟨b, 65, none⟩) := KS_val (hd.val 19 65 (by decide +kernel)) rfl
                have hc := NC.left (Dw7.out.kept hg)
                clear hd hk
                exact wp_value (PT bl) (by simp only [execOp, e65]; go_simp) (KS_mkv rfl rfl)
              · skip
                intro Q
                have e49 : a'.eval (.tmp 49) = .int .i64 (i : Int) := KS_val (hd.val 3 49 (by decide +kernel)) rfl
                have e50 : a'.eval (.tmp 50) = .int .i64 1 := KS_val (hd.val 4 50 (by decide +kernel)) rfl
                have r59 := KS_of (hd.val 13 59 (by decide +kernel)) rfl
                have e66 : a'.eval (.tmp 66) = PT bl := KS_val (hd.val 20 66 (by decide +kernel)) rfl
                refine wp_call 60 _ (run_enter 60 _ _ rfl (by kernel_rfl)) ?_
                simp only [List.map_toArray, List.map_nil, List.map_cons, e49, e50, e66]
                obtain ⟨bi, ei, hbi, hni⟩ := r59
                rw [ei]
                refine (kfork1_any _ HF.out ((HA.out.kept (Lw7.out.mono (Nat.le_of_eq HN.out))).kept hg) hni (Nat.le_trans hB0 (Nat.le_trans Gw7.out hg.size))).mono ?_
                rintro e w5 ⟨b5, rfl, h5, n5, hb5⟩
                exact ⟨_, rfl, KS_mko rfl ⟨b5, rfl, Nat.le_trans (Nat.le_trans Gw7.out hg.size) h5, n5⟩, hb5⟩
              · skip
                intro Q
                have r67 := KS_of (hd.val 21 67 (by decide +kernel)) rfl
                exact wp_value (a'.eval (.tmp 67)) (by simp only [execOp]; rfl) (KS_mko rfl r67)
            · intro a' w8 hsz hdf hk hall hg
              have e46 : a'.eval (.tmp 46) = .pointer (some ⟨b, 0, none⟩) := KS_val (hall 0 _ 46 rfl rfl) rfl
              have e47 : a'.eval (.tmp 47) = .pointer (some ⟨b, 0, none⟩) := KS_val (hall 1 _ 47 rfl rfl) rfl
              have e48 : a'.eval (.tmp 48) = .pointer (some ⟨b, 0, none⟩) := KS_val (hall 2 _ 48 rfl rfl) rfl
              have e49 : a'.eval (.tmp 49) = .int .i64 (i : Int) := KS_val (hall 3 _ 49 rfl rfl) rfl
              have e50 : a'.eval (.tmp 50) = .int .i64 1 := KS_val (hall 4 _ 50 rfl rfl) rfl
              have e51 : a'.eval (.tmp 51) = .pointer (some ⟨b, 0, none⟩) := KS_val (hall 5 _ 51 rfl rfl) rfl
              have e52 : a'.eval (.tmp 52) = .int .i64 1 := KS_val (hall 6 _ 52 rfl rfl) rfl
              have e53 : a'.eval (.tmp 53) = .pointer (some ⟨b, 0, none⟩) := KS_val (hall 7 _ 53 rfl rfl) rfl
              have e54 : a'.eval (.tmp 54) = .pointer (some ⟨b, 65, none⟩) := KS_val (hall 8 _ 54 rfl rfl) rfl
              have e55 : a'.eval (.tmp 55) = .pointer (some ⟨b, 66, none⟩) := KS_val (hall 9 _ 55 rfl rfl) rfl
              have e56 : a'.eval (.tmp 56) = PT br := KS_val (hall 10 _ 56 rfl rfl) rfl
              have e57 : a'.eval (.tmp 57) = HV k := KS_val (hall 11 _ 57 rfl rfl) rfl
              have e58 : a'.eval (.tmp 58) = HV v := KS_val (hall 12 _ 58 rfl rfl) rfl
              have r59 : (fun w v_ => ∃ b_, v_ = PT b_ ∧ N ≤ b_ ∧ Nd B0 w b_ (putP B k v)) w8 (a'.eval (.tmp 59)) := KS_of (hall 13 _ 59 rfl rfl) rfl
              obtain ⟨x59, hx59⟩ : ∃ v, a'.eval (.tmp 59) = v := ⟨_, rfl⟩
              rw [hx59] at r59
              have e60 : a'.eval (.tmp 60) = .pointer (some ⟨b, 0, none⟩) := KS_val (hall 14 _ 60 rfl rfl) rfl
              have e61 : a'.eval (.tmp 61) = .int .i64 1 := KS_val (hall 15 _ 61 rfl rfl) rfl
              have e62 : a'.eval (.tmp 62) = .int .i64 0 := KS_val (hall 16 _ 62 rfl rfl) rfl
              have e63 : a'.eval (.tmp 63) = .pointer (some ⟨b, 0, none⟩) := KS_val (hall 17 _ 63 rfl rfl) rfl
              have e64 : a'.eval (.tmp 64) = .pointer (some ⟨b, 65, none⟩) := KS_val (hall 18 _ 64 rfl rfl) rfl
              have e65 : a'.eval (.tmp 65) = .pointer (some ⟨b, 65, none⟩) := KS_val (hall 19 _ 65 rfl rfl) rfl
              have e66 : a'.eval (.tmp 66) = PT bl := KS_val (hall 20 _ 66 rfl rfl) rfl
              have r67 : (fun w v_ => ∃ b_, v_ = PT b_ ∧ N ≤ b_ ∧ Nd B0 w b_ (putP L k v)) w8 (a'.eval (.tmp 67)) := KS_of (hall 21 _ 67 rfl rfl) rfl
              obtain ⟨x67, hx67⟩ : ∃ v, a'.eval (.tmp 67) = v := ⟨_, rfl⟩
              rw [hx67] at r67
              have r6 : (fun w v_ => ∃ b_, v_ = PT b_ ∧ N ≤ b_ ∧ Nd B0 w b_ (putP L k v)) w8 (a'.eval (.tmp 6)) := KS_of (hall 22 _ 6 rfl rfl) rfl
              obtain ⟨x6, hx6⟩ : ∃ v, a'.eval (.tmp 6) = v := ⟨_, rfl⟩
              rw [hx6] at r6
              have ha := act_puts 68 rfl hsz hdf hk [46, 47, 48, 49, 50, 51, 52, 53, 54, 55, 56, 57, 58, 59, 60, 61, 62, 63, 64, 65, 66, 67, 6] (by decide +kernel)
              simp only [puts, List.foldl_cons, List.foldl_nil, e46, e47, e48, e49, e50, e51, e52, e53, e54, e55, e56, e57, e58, hx59, e60, e61, e62, e63, e64, e65, e66, hx67, hx6] at ha
              simp only [Act.put, List.setIfInBounds_toArray, List.set_cons_succ, List.set_cons_zero] at ha
              clear hall hk hsz hdf e46 e47 e48 e49 e50 e51 e52 e53 e54 e55 e56 e57 e58 hx59 e60 e61 e62 e63 e64 e65 e66 hx67 hx6
              subst ha
              obtain ⟨b9, e9, h9, n9⟩ := r6
              subst e9
              have LZ : Below N w w8 := Lw7.out.trans (hg.mono (Nat.le_of_lt Kw7.out.lt))
              clear hg
              go_wp2
              go_ret
              exact ⟨b9, rfl, h9, n9, LZ⟩
#print axioms nwith_any
end Go.Proofs.YtooffljimdklfaaDoor

/-
  (*Trie).Get: what the call does.
-/
namespace Go.Proofs.YtooffljimdklfaaDoor
open Go.RowKit
/-- What a trie's top is. -/
def TopOf (B0 : Nat) (w : World) (v : Value) (L : List It) : Prop := (L = [] ∧ v = .pointer none) ∨ ∃ b, v = PT b ∧ Nd B0 w b L
theorem TopOf.tch {B0 : Nat} {w w' : World} {v : Value} {L : List It} (h : TopOf B0 w v L) (ht : Tch B0 w w') : TopOf B0 w' v L := by
  rcases h with h | ⟨b, e, hn⟩
  · exact .inl h
  · exact .inr ⟨b, e, ht.nd hn⟩
theorem TopOf.kept {B0 : Nat} {w w' : World} {v : Value} {L : List It} (h : TopOf B0 w v L) (hb : Below w.heap.size w w') : TopOf B0 w' v L := h.tch (.of_below hb)
theorem results_hb {P : Program} {fn : Func} {p u : Tmp} {ty : TypeId} (h : fn.results = #[.cell p ty, .tmp u]) (tmps : Array Value) (w : World) (g : Nat) (T : TypeId) (cs : List Value) (b : Value) {d : TypeDesc}
    (hp : tmps.getD p undef = .pointer (some ⟨g, 0, none⟩)) (hb : tmps.getD u undef = b) (hB : Blk w g T cs) (hu : P.underlying ty = some d) (hd : d.isRow = true) (hi : (P.info? ty).map (·.size) = some cs.length) :
    (results fn tmps).run P w = .ok (.tuple #[.agg cs.toArray, b]) w := by
  have h1 := run_loadVar_mid (P := P) w g 0 ty cs d hB.range0 hu hd hi
  rw [Array.getD_eq_getD_getElem?] at hp hb
  simp only [results, h]
  simp [Result.andThen, hp, hb, asAddr, h1]
set_option maxHeartbeats 4000000 in
set_option maxRecDepth 100000 in
theorem tGet_any {B0 : Nat} {w : World} {p : Nat} {L : List It} (k : Hs) (h : TrieAt B0 w p L) : Calls Tryd.prog 23 #[PT p, HV k] w fun e w' => e = .returned (.tuple #[HV (valP L k), .bool (hasP L k)]) ∧ Below w.heap.size w w' := by
  obtain ⟨top, hB, -, h1⟩ := h
  obtain ⟨N, HN⟩ : ∃ N, Hid (w.heap.size = N) := ⟨_, rfl⟩
  have hpN : p < N := by rw [← HN.out]; exact hB.lt
  rw [HN.out]
  obtain ⟨vv, HV1⟩ : ∃ z, Hid (valP L k = z) := ⟨_, rfl⟩
  obtain ⟨hs, HH1⟩ : ∃ z, Hid (hasP L k = z) := ⟨_, rfl⟩
  rw [HV1.out, HH1.out]
  have HB1 := hide hB
  have HT := hide h1
  generalize (L.length : Int) = sz at HB1
  clear hB h1
  go_enter Tryd.func23, Tryd.ntmps23
  unfold HV
  go_upto_region 1 with fail
  obtain ⟨w1, hw1⟩ : ∃ z, z = (w.alloc (.cells (By k.1).toArray 24 (0, 0))).alloc (.cells (By zh.1).toArray 24 (0, 0)) := ⟨_, rfl⟩
  change Code.wp _ _ _ _ ((w.alloc (.cells (By k.1).toArray 24 (0, 0))).alloc (.cells (By zh.1).toArray 24 (0, 0)))
  rw [← hw1, HN.out]
  have Kw1 : Hid (Blk w1 N 24 (By k.1)) := (show Blk _ _ _ _ by rw [hw1, ← HN.out]; exact (Blk.new w 24 (By k.1)).alloc _)
  have Vw1 : Hid (Blk w1 (N + 1) 24 (By zh.1)) := (show Blk _ _ _ _ by rw [hw1, ← HN.out]; have := Blk.new (w.alloc (.cells (By k.1).toArray 24 (0, 0))) 24 (By zh.1); simpa using this)
  have Lw1 : Hid (Below N w w1) := (show Below _ _ _ by rw [hw1, ← HN.out]; exact ((Below.refl _ _).alloc (Nat.le_refl _) _).alloc (by simp) _)
  clear hw1
  have Tw1 := hide (HB1.out.kept (Lw1.out.mono (Nat.le_of_eq HN.out)))
  have c1 := Tw1.out.cell (j := 1) rfl
  have CM := hide (tisMade_any Tw1.out)
  rcases HT.out with ⟨rfl, rfl⟩ | ⟨b, rfl, hn⟩
  · have e1 : Hid (vv = zh) := HV1.out.symm
    have e2 : Hid (hs = false) := HH1.out.symm
    go_wp2_with (first
      | (go_at_call 41; refine CM.out.mono ?_; rintro e w' ⟨rfl, rfl⟩)
      | (refine wpList_store_blk rfl 24 _ _ rfl (N + 1) (By zh.1) (By zh.1) 24 rfl rfl Vw1.out rfl (Tryd.sizeH zh) (By_one _) ?_; intro w2 hb2 hu2)
      | (refine wpList_buildK rfl 24 _ rfl (.agg (By zh.1).toArray) (by kernel_rfl) ?_)
      | fail)
    refine bodyPost_ret (results_hb rfl _ _ (N + 1) 24 (By zh.1) (.bool false) rfl rfl hb2 Tryd.underlying24 rfl (Tryd.sizeH zh)) rfl ⟨by rw [e1.out, e2.out], ?_⟩
    exact Lw1.out.trans (hu2.below (by omega) (Nat.le_of_lt Kw1.out.lt))
  · have HB0 := hide (hn.kept (Lw1.out.mono (Nat.le_of_eq HN.out)))
    clear hn
    go_wp2_with (first
      | (go_at_call 41; refine CM.out.mono ?_; rintro e w' ⟨rfl, rfl⟩)
      | fail)
    clear CM c1
    obtain ⟨b0, hb0⟩ : ∃ z, z = b := ⟨_, rfl⟩
    rw [← hb0]
    go_loopg [6] (b0 + 1) (fun g x wr => ∃ (b : Nat) (M : List It), x = PT b ∧ g = b + 1 ∧ Hid (Nd B0 wr b M) ∧ Hid (getP M k = getP L k) ∧ Hid (Blk wr N 24 (By k.1)) ∧ Hid (Blk wr (N + 1) 24 (By zh.1)) ∧ Hid (Below N w wr))
    case atStart => exact ⟨b0, L, rfl, rfl, by rw [hb0]; exact HB0, (show _ = _ from rfl), Kw1, Vw1, Lw1⟩
    case round =>
      clear hb0 HB0 Kw1 Vw1 Lw1 Tw1
      skip
      obtain ⟨b, M, rfl, hgb, NR, HP, KR, VR, LR⟩ := hrel
      obtain ⟨-, i, ky, vl, l, r, d, hh, hB, -, h1⟩ := Nd.iff.1 NR.out
      have DR := hide hB
      have CI := hide (nisItem_any hB)
      clear hB
      rcases h1 with ⟨rfl, rfl, rfl, rfl⟩ | ⟨A, B, bl, br, hF, hk, hbl, hbr, rfl, rfl, hA, hB⟩
      · rw [show decide (((256 : Nat) : Int) = 256) = true by decide] at CI
        go_upto_region 6 with (first
          | (go_at_call 44; refine CI.out.mono ?_; rintro e w' ⟨rfl, rfl⟩)
          | fail)
        have heq := eqA ky k
        by_cases hkk : ky = k
        · rw [decide_eq_true hkk] at heq
          have e1 : Hid (vv = vl) := (show _ = _ by rw [← HV1.out]; unfold valP; rw [← HP.out]; simp [getP, hkk])
          have e2 : Hid (hs = true) := (show _ = _ by rw [← HH1.out]; unfold hasP; rw [← HP.out]; simp [getP, hkk])
          clear hkk
          refine wp_region_inv Tryd.mixed (KS (fun i_ => match i_ with | 0 | 1 => .val (.pointer (some ⟨b, 0, none⟩)) | 2 => .val (.pointer (some ⟨b, 1, none⟩)) | 3 => .val (HV ky) | 4 => .val (HV k) | 5 => .val (.bool false) | _ => .free)) 47 rfl (by decide +kernel) (KS_mono _) ?_ ?_
          · refine AllFrom.cons (fun a' w' hg hk hd => ?_) (AllFrom.cons (fun a' w' hg hk hd => ?_) (AllFrom.cons (fun a' w' hg hk hd => ?_) (AllFrom.cons (fun a' w' hg hk hd => ?_) (AllFrom.cons (fun a' w' hg hk hd => ?_) (AllFrom.cons (fun a' w' hg hk hd => ?_) AllFrom.nil)))))
            · skip
              intro Q
              have e6 : a'.eval (.tmp 6) = .pointer (some ⟨b, 0, none⟩) := hk.at 6 (by decide +kernel)
              exact wp_value _ (by simp only [execOp, e6]; rfl) (KS_mkv rfl rfl)
            · skip
              intro Q
              have e36 : a'.eval (.tmp 36) = .pointer (some ⟨b, 0, none⟩) := KS_val (hd.val 0 36 (by decide +kernel)) rfl
              clear hd hk
              exact wp_value (.pointer (some ⟨b, 0, none⟩)) (by simp only [execOp, e36]; go_simp) (KS_mkv rfl rfl)
            · skip
              intro Q
              have e37 : a'.eval (.tmp 37) = .pointer (some ⟨b, 0, none⟩) := KS_val (hd.val 1 37 (by decide +kernel)) rfl
              clear hd hk
              exact wp_value (.pointer (some ⟨b, 1, none⟩)) (by simp only [execOp, e37]; go_simp) (KS_mkv rfl rfl)
            · skip
              intro Q
              have e38 : a'.eval (.tmp 38) = .pointer (some ⟨b, 1, none⟩) := KS_val (hd.val 2 38 (by decide +kernel)) rfl
              exact wp_load_row 24 _ rfl _ _ e38 (By (ky).1) _ (NC.key (DR.out.kept hg)) Tryd.underlying24 rfl (Tryd.sizeH _) (KS_mkv rfl rfl)
            · skip
              intro Q
              have e3 : a'.eval (.tmp 3) = .pointer (some ⟨N, 0, none⟩) := hk.at 3 (by decide +kernel)
              exact wp_load_row 24 _ rfl _ _ e3 (By (k).1) _ ((KR.out.kept hg).range0) Tryd.underlying24 rfl (Tryd.sizeH _) (KS_mkv rfl rfl)
            · skip
              intro Q
              have e39 : a'.eval (.tmp 39) = HV ky := KS_val (hd.val 3 39 (by decide +kernel)) rfl
              have e40 : a'.eval (.tmp 40) = HV k := KS_val (hd.val 4 40 (by decide +kernel)) rfl
              exact wp_value _ (by simp only [execOp, e39, e40, HV]; go_simp) (KS_mkv rfl rfl)
          · intro a' w3 hsz hdf hk hall hg
            have e36 : a'.eval (.tmp 36) = .pointer (some ⟨b, 0, none⟩) := KS_val (hall 0 _ 36 rfl rfl) rfl
            have e37 : a'.eval (.tmp 37) = .pointer (some ⟨b, 0, none⟩) := KS_val (hall 1 _ 37 rfl rfl) rfl
            have e38 : a'.eval (.tmp 38) = .pointer (some ⟨b, 1, none⟩) := KS_val (hall 2 _ 38 rfl rfl) rfl
            have e39 : a'.eval (.tmp 39) = HV ky := KS_val (hall 3 _ 39 rfl rfl) rfl
            have e40 : a'.eval (.tmp 40) = HV k := KS_val (hall 4 _ 40 rfl rfl) rfl
            have e41 : a'.eval (.tmp 41) = .bool false := KS_val (hall 5 _ 41 rfl rfl) rfl
            have ha := act_puts 47 rfl hsz hdf hk [36, 37, 38, 39, 40, 41] (by decide +kernel)
            simp only [puts, List.foldl_cons, List.foldl_nil, e36, e37, e38, e39, e40, e41] at ha
            simp only [Act.put, List.setIfInBounds_toArray, List.set_cons_succ, List.set_cons_zero] at ha
            clear hall hk hsz hdf e36 e37 e38 e39 e40 e41
            subst ha
            have D3 := hide (DR.out.kept hg)
            have V3 := hide (VR.out.kept hg)
            have L3 : Hid (Below N w w3) := LR.out.trans (hg.mono (Nat.le_of_lt KR.out.lt))
            have rv := NC.value D3.out
            clear hg KR VR LR DR NR heq CI
            go_wp2_with (first
              | (refine wpList_load_mid rfl 24 _ rfl b 33 rfl (By vl.1) _ rv Tryd.underlying24 rfl (Tryd.sizeH vl) ?_)
              | (refine wpList_store_blk rfl 24 _ _ rfl (N + 1) (By zh.1) (By vl.1) 24 rfl rfl V3.out (by rw [By_len, By_len]) (Tryd.sizeH vl) (By_one _) ?_; intro w4 hb4 hu4)
              | fail)
            refine bodyPost_ret (results_hb rfl _ _ (N + 1) 24 (By vl.1) (.bool true) rfl rfl hb4 Tryd.underlying24 rfl (Tryd.sizeH vl)) rfl ⟨by rw [e1.out, e2.out], ?_⟩
            exact L3.out.trans (hu4.below (by omega) (by have := V3.out.lt; omega))
        · rw [decide_eq_false hkk] at heq
          have e1 : Hid (vv = zh) := (show _ = _ by rw [← HV1.out]; unfold valP; rw [← HP.out]; simp [getP, hkk])
          have e2 : Hid (hs = false) := (show _ = _ by rw [← HH1.out]; unfold hasP; rw [← HP.out]; simp [getP, hkk])
          refine wp_region_inv Tryd.mixed (KS (fun i_ => match i_ with | 0 | 1 => .val (.pointer (some ⟨b, 0, none⟩)) | 2 => .val (.pointer (some ⟨b, 1, none⟩)) | 3 => .val (HV ky) | 4 => .val (HV k) | 5 => .val (.bool true) | _ => .free)) 47 rfl (by decide +kernel) (KS_mono _) ?_ ?_
          · refine AllFrom.cons (fun a' w' hg hk hd => ?_) (AllFrom.cons (fun a' w' hg hk hd => ?_) (AllFrom.cons (fun a' w' hg hk hd => ?_) (AllFrom.cons (fun a' w' hg hk hd => ?_) (AllFrom.cons (fun a' w' hg hk hd => ?_) (AllFrom.cons (fun a' w' hg hk hd => ?_) AllFrom.nil)))))
            · skip
              intro Q
              have e6 : a'.eval (.tmp 6) = .pointer (some ⟨b, 0, none⟩) := hk.at 6 (by decide +kernel)
              exact wp_value _ (by simp only [execOp, e6]; rfl) (KS_mkv rfl rfl)
            · skip
              intro Q
              have e36 : a'.eval (.tmp 36) = .pointer (some ⟨b, 0, none⟩) := KS_val (hd.val 0 36 (by decide +kernel)) rfl
              clear hd hk
              exact wp_value (.pointer (some ⟨b, 0, none⟩)) (by simp only [execOp, e36]; go_simp) (KS_mkv rfl rfl)
            · skip
              intro Q
              have e37 : a'.eval (.tmp 37) = .pointer (some ⟨b, 0, none⟩) := KS_val (hd.val 1 37 (by decide +kernel)) rfl
              clear hd hk
              exact wp_value (.pointer (some ⟨b, 1, none⟩)) (by simp only [execOp, e37]; go_simp) (KS_mkv rfl rfl)
            · skip
              intro Q
              have e38 : a'.eval (.tmp 38) = .pointer (some ⟨b, 1, none⟩) := KS_val (hd.val 2 38 (by decide +kernel)) rfl
              exact wp_load_row 24 _ rfl _ _ e38 (By (ky).1) _ (NC.key (DR.out.kept hg)) Tryd.underlying24 rfl (Tryd.sizeH _) (KS_mkv rfl rfl)
            · skip
              intro Q
              have e3 : a'.eval (.tmp 3) = .pointer (some ⟨N, 0, none⟩) := hk.at 3 (by decide +kernel)
              exact wp_load_row 24 _ rfl _ _ e3 (By (k).1) _ ((KR.out.kept hg).range0) Tryd.underlying24 rfl (Tryd.sizeH _) (KS_mkv rfl rfl)
            · skip
              intro Q
              have e39 : a'.eval (.tmp 39) = HV ky := KS_val (hd.val 3 39 (by decide +kernel)) rfl
              have e40 : a'.eval (.tmp 40) = HV k := KS_val (hd.val 4 40 (by decide +kernel)) rfl
              exact wp_value _ (by simp only [execOp, e39, e40, HV]; go_simp) (KS_mkv rfl rfl)
          · intro a' w3 hsz hdf hk hall hg
            have e36 : a'.eval (.tmp 36) = .pointer (some ⟨b, 0, none⟩) := KS_val (hall 0 _ 36 rfl rfl) rfl
            have e37 : a'.eval (.tmp 37) = .pointer (some ⟨b, 0, none⟩) := KS_val (hall 1 _ 37 rfl rfl) rfl
            have e38 : a'.eval (.tmp 38) = .pointer (some ⟨b, 1, none⟩) := KS_val (hall 2 _ 38 rfl rfl) rfl
            have e39 : a'.eval (.tmp 39) = HV ky := KS_val (hall 3 _ 39 rfl rfl) rfl
            have e40 : a'.eval (.tmp 40) = HV k := KS_val (hall 4 _ 40 rfl rfl) rfl
            have e41 : a'.eval (.tmp 41) = .bool true := KS_val (hall 5 _ 41 rfl rfl) rfl
            have ha := act_puts 47 rfl hsz hdf hk [36, 37, 38, 39, 40, 41] (by decide +kernel)
            simp only [puts, List.foldl_cons, List.foldl_nil, e36, e37, e38, e39, e40, e41] at ha
            simp only [Act.put, List.setIfInBounds_toArray, List.set_cons_succ, List.set_cons_zero] at ha
            clear hall hk hsz hdf e36 e37 e38 e39 e40 e41
            subst ha
            have V3 := hide (VR.out.kept hg)
            have L3 : Hid (Below N w w3) := LR.out.trans (hg.mono (Nat.le_of_lt KR.out.lt))
            clear hg KR VR LR DR NR heq CI
            go_wp2_with (first
              | (refine wpList_store_blk rfl 24 _ _ rfl (N + 1) (By zh.1) (By zh.1) 24 rfl rfl V3.out rfl (Tryd.sizeH zh) (By_one _) ?_; intro w4 hb4 hu4)
              | (refine wpList_buildK rfl 24 _ rfl (.agg (By zh.1).toArray) (by kernel_rfl) ?_)
              | fail)
            refine bodyPost_ret (results_hb rfl _ _ (N + 1) 24 (By zh.1) (.bool false) rfl rfl hb4 Tryd.underlying24 rfl (Tryd.sizeH zh)) rfl ⟨by rw [e1.out, e2.out], ?_⟩
            exact L3.out.trans (hu4.below (by omega) (by have := V3.out.lt; omega))
      · have hi256 : i < 256 := hF.lt
        rw [show decide ((i : Int) = 256) = false by simp; omega] at CI
        have HA := hide hA
        have HB := hide hB
        have HFF := hide hF
        have CB := hide (fun w => kBit_any k (i : Int) w)
        rw [bitZ_nat] at CB
        unfold bitN at CB
        obtain ⟨s, HS⟩ : ∃ s, Hid (bit k i = s) := ⟨_, rfl⟩
        rw [HS.out] at CB
        clear hA hB hF
        go_upto_region 5 with (first
          | (go_at_call 44; refine CI.out.mono ?_; rintro e w' ⟨rfl, rfl⟩)
          | fail)
        clear CI
        cases s with
        | false =>
          refine wp_region_tailsK Tryd.mixed (KS (fun i_ => match i_ with | 0 | 2 | 3 | 4 | 7 => .val (.pointer (some ⟨b, 0, none⟩)) | 1 => .val (HV k) | 5 => .val (.int .i64 (i : Int)) | 6 => .val (.int .i64 0) | 8 | 9 => .val (.pointer (some ⟨b, 65, none⟩)) | 10 => .val (PT bl) | _ => .free)) 47 rfl (by decide +kernel) 11 (by decide) (by decide +kernel) (KS_mono _) ?_ ?_
          · refine AllFrom.cons ⟨rfl, fun a' w' hg hk hd => ?_⟩ (AllFrom.cons ⟨rfl, fun a' w' hg hk hd => ?_⟩ (AllFrom.cons ⟨rfl, fun a' w' hg hk hd => ?_⟩ (AllFrom.cons ⟨rfl, fun a' w' hg hk hd => ?_⟩ (AllFrom.cons ⟨rfl, fun a' w' hg hk hd => ?_⟩ (AllFrom.cons ⟨rfl, fun a' w' hg hk hd => ?_⟩ (AllFrom.cons ⟨rfl, fun a' w' hg hk hd => ?_⟩ (AllFrom.cons ⟨rfl, fun a' w' hg hk hd => ?_⟩ (AllFrom.cons ⟨rfl, fun a' w' hg hk hd => ?_⟩ (AllFrom.cons ⟨rfl, fun a' w' hg hk hd => ?_⟩ (AllFrom.cons ⟨rfl, fun a' w' hg hk hd => ?_⟩ AllFrom.nil))))))))))
            · skip
              intro Q
              have e6 : a'.eval (.tmp 6) = .pointer (some ⟨b, 0, none⟩) := hk.at 6 (by decide +kernel)
              exact wp_value _ (by simp only [execOp, e6]; rfl) (KS_mkv rfl rfl)
            · skip
              intro Q
              have e3 : a'.eval (.tmp 3) = .pointer (some ⟨N, 0, none⟩) := hk.at 3 (by decide +kernel)
              exact wp_load_row 24 _ rfl _ _ e3 (By (k).1) _ ((KR.out.kept hg).range0) Tryd.underlying24 rfl (Tryd.sizeH _) (KS_mkv rfl rfl)
            · skip
              intro Q
              have e6 : a'.eval (.tmp 6) = .pointer (some ⟨b, 0, none⟩) := hk.at 6 (by decide +kernel)
              exact wp_value _ (by simp only [execOp, e6]; rfl) (KS_mkv rfl rfl)
            · skip
              intro Q
              have e27 : a'.eval (.tmp 27) = .pointer (some ⟨b, 0, none⟩) := KS_val (hd.val 2 27 (by decide +kernel)) rfl
              clear hd hk
              exact wp_value (.pointer (some ⟨b, 0, none⟩)) (by simp only [execOp, e27]; go_simp) (KS_mkv rfl rfl)
            · skip
              intro Q
              have e28 : a'.eval (.tmp 28) = .pointer (some ⟨b, 0, none⟩) := KS_val (hd.val 3 28 (by decide +kernel)) rfl
              clear hd hk
              exact wp_value (.pointer (some ⟨b, 0, none⟩)) (by simp only [execOp, e28]; go_simp) (KS_mkv rfl rfl)
            · skip
              intro Q
              have e29 : a'.eval (.tmp 29) = .pointer (some ⟨b, 0, none⟩) := KS_val (hd.val 4 29 (by decide +kernel)) rfl
              have hc := NC.bit (DR.out.kept hg)
              clear hd hk
              exact wp_value (.int .i64 (i : Int)) (by simp only [execOp, e29]; go_simp) (KS_mkv rfl rfl)
            · skip
              intro Q
              have e26 : a'.eval (.tmp 26) = HV k := KS_val (hd.val 1 26 (by decide +kernel)) rfl
              have e30 : a'.eval (.tmp 30) = .int .i64 (i : Int) := KS_val (hd.val 5 30 (by decide +kernel)) rfl
              refine wp_call 38 _ (run_enter 38 _ _ rfl (by kernel_rfl)) ?_
              simp only [List.map_toArray, List.map_nil, List.map_cons, e26, e30]
              refine (CB.out _).mono ?_
              rintro e w5 ⟨rfl, hb5⟩
              exact ⟨_, rfl, KS_mkv rfl rfl, hb5⟩
            · skip
              intro Q
              have e25 : a'.eval (.tmp 25) = .pointer (some ⟨b, 0, none⟩) := KS_val (hd.val 0 25 (by decide +kernel)) rfl
              clear hd hk
              exact wp_value (.pointer (some ⟨b, 0, none⟩)) (by simp only [execOp, e25]; go_simp) (KS_mkv rfl rfl)
            · skip
              intro Q
              have e32 : a'.eval (.tmp 32) = .pointer (some ⟨b, 0, none⟩) := KS_val (hd.val 7 32 (by decide +kernel)) rfl
              clear hd hk
              exact wp_value (.pointer (some ⟨b, 65, none⟩)) (by simp only [execOp, e32]; go_simp) (KS_mkv rfl rfl)
            · skip
              intro Q
              have e31 : a'.eval (.tmp 31) = .int .i64 0 := KS_val (hd.val 6 31 (by decide +kernel)) rfl
              have e33 : a'.eval (.tmp 33) = .pointer (some ⟨b, 65, none⟩) := KS_val (hd.val 8 33 (by decide +kernel)) rfl
              clear hd hk
              exact wp_value (.pointer (some ⟨b, 65, none⟩)) (by simp only [execOp, e31, e33]; go_simp) (KS_mkv rfl rfl)
            · skip
              intro Q
              have e34 : a'.eval (.tmp 34) = .pointer (some ⟨b, 65, none⟩) := KS_val (hd.val 9 34 (by decide +kernel)) rfl
              have hc := NC.left (DR.out.kept hg)
              clear hd hk
              exact wp_value (PT bl) (by simp only [execOp, e34]; go_simp) (KS_mkv rfl rfl)
          · intro a' w3 hsz hdf hk hall hg
            have e25 : a'.eval (.tmp 25) = .pointer (some ⟨b, 0, none⟩) := KS_val (hall 0 _ 25 (by decide) rfl rfl) rfl
            have e26 : a'.eval (.tmp 26) = HV k := KS_val (hall 1 _ 26 (by decide) rfl rfl) rfl
            have e27 : a'.eval (.tmp 27) = .pointer (some ⟨b, 0, none⟩) := KS_val (hall 2 _ 27 (by decide) rfl rfl) rfl
            have e28 : a'.eval (.tmp 28) = .pointer (some ⟨b, 0, none⟩) := KS_val (hall 3 _ 28 (by decide) rfl rfl) rfl
            have e29 : a'.eval (.tmp 29) = .pointer (some ⟨b, 0, none⟩) := KS_val (hall 4 _ 29 (by decide) rfl rfl) rfl
            have e30 : a'.eval (.tmp 30) = .int .i64 (i : Int) := KS_val (hall 5 _ 30 (by decide) rfl rfl) rfl
            have e31 : a'.eval (.tmp 31) = .int .i64 0 := KS_val (hall 6 _ 31 (by decide) rfl rfl) rfl
            have e32 : a'.eval (.tmp 32) = .pointer (some ⟨b, 0, none⟩) := KS_val (hall 7 _ 32 (by decide) rfl rfl) rfl
            have e33 : a'.eval (.tmp 33) = .pointer (some ⟨b, 65, none⟩) := KS_val (hall 8 _ 33 (by decide) rfl rfl) rfl
            have e34 : a'.eval (.tmp 34) = .pointer (some ⟨b, 65, none⟩) := KS_val (hall 9 _ 34 (by decide) rfl rfl) rfl
            have e35 : a'.eval (.tmp 35) = PT bl := KS_val (hall 10 _ 35 (by decide) rfl rfl) rfl
            obtain ⟨z6, e6⟩ : ∃ v, a'.eval (.tmp 6) = v := ⟨_, rfl⟩
            refine ⟨rfl, ?_⟩
            refine Oper.wp_mono ?_ (wp_same (C := fun x => x = w3) (PT bl) (by simp only [execOp, e35]; rfl) rfl)
            rintro a2 w2 ⟨rfl, hw2⟩
            rw [hw2]
            clear hw2
            clear w2
            refine ⟨_, rfl, ?_⟩
            have ha := act_puts 47 rfl hsz hdf hk.all [25, 26, 27, 28, 29, 30, 31, 32, 33, 34, 35, 6] (by decide +kernel)
            simp only [puts, List.foldl_cons, List.foldl_nil, e25, e26, e27, e28, e29, e30, e31, e32, e33, e34, e35, e6] at ha
            simp only [Act.put, List.setIfInBounds_toArray, List.set_cons_succ, List.set_cons_zero] at ha
            have hput : a'.put (some 6) (PT bl) = { tmps := a'.tmps.setIfInBounds 6 (PT bl), defers := a'.defers } := rfl
            have hgo : ∀ x, x = a'.put (some 6) (PT bl) → x = { tmps := a'.tmps.setIfInBounds 6 (PT bl), defers := a'.defers } := fun x h => h.trans hput
            clear hgo
            simp only [hput, wpSeq]
            subst ha
            clear hput hall hk hsz hdf e25 e26 e27 e28 e29 e30 e31 e32 e33 e34 e35 e6
            have N3 := hide (HA.out.kept hg)
            have K3 := hide (KR.out.kept hg)
            have V3 := hide (VR.out.kept hg)
            have L3 : Hid (Below N w w3) := LR.out.trans (hg.mono (Nat.le_of_lt KR.out.lt))
            have P3 : Hid (getP A k = getP L k) := (HFF.out.getL HS.out).1.symm.trans HP.out
            clear hg KR VR LR DR NR
            go_wp2
            go_roundg (bl + 1)
            case measure => omega
            case rel => exact ⟨bl, A, rfl, rfl, N3, P3, K3, V3, L3⟩
        | true =>
          refine wp_region_tailsK Tryd.mixed (KS (fun i_ => match i_ with | 0 | 2 | 3 | 4 | 7 => .val (.pointer (some ⟨b, 0, none⟩)) | 1 => .val (HV k) | 5 => .val (.int .i64 (i : Int)) | 6 => .val (.int .i64 1) | 8 => .val (.pointer (some ⟨b, 65, none⟩)) | 9 => .val (.pointer (some ⟨b, 66, none⟩)) | 10 => .val (PT br) | _ => .free)) 47 rfl (by decide +kernel) 11 (by decide) (by decide +kernel) (KS_mono _) ?_ ?_
          · refine AllFrom.cons ⟨rfl, fun a' w' hg hk hd => ?_⟩ (AllFrom.cons ⟨rfl, fun a' w' hg hk hd => ?_⟩ (AllFrom.cons ⟨rfl, fun a' w' hg hk hd => ?_⟩ (AllFrom.cons ⟨rfl, fun a' w' hg hk hd => ?_⟩ (AllFrom.cons ⟨rfl, fun a' w' hg hk hd => ?_⟩ (AllFrom.cons ⟨rfl, fun a' w' hg hk hd => ?_⟩ (AllFrom.cons ⟨rfl, fun a' w' hg hk hd => ?_⟩ (AllFrom.cons ⟨rfl, fun a' w' hg hk hd => ?_⟩ (AllFrom.cons ⟨rfl, fun a' w' hg hk hd => ?_⟩ (AllFrom.cons ⟨rfl, fun a' w' hg hk hd => ?_⟩ (AllFrom.cons ⟨rfl, fun a' w' hg hk hd => ?_⟩ AllFrom.nil))))))))))
            · skip
              intro Q
              have e6 : a'.eval (.tmp 6) = .pointer (some ⟨b, 0, none⟩) := hk.at 6 (by decide +kernel)
              exact wp_value _ (by simp only [execOp, e6]; rfl) (KS_mkv rfl rfl)
            · skip
              intro Q
              have e3 : a'.eval (.tmp 3) = .pointer (some ⟨N, 0, none⟩) := hk.at 3 (by decide +kernel)
              exact wp_load_row 24 _ rfl _ _ e3 (By (k).1) _ ((KR.out.kept hg).range0) Tryd.underlying24 rfl (Tryd.sizeH _) (KS_mkv rfl rfl)
            · skip
              intro Q
              have e6 : a'.eval (.tmp 6) = .pointer (some ⟨b, 0, none⟩) := hk.at 6 (by decide +kernel)
              exact wp_value _ (by simp only [execOp, e6]; rfl) (KS_mkv rfl rfl)
            · skip
              intro Q
              have e27 : a'.eval (.tmp 27) = .pointer (some ⟨b, 0, none⟩) := KS_val (hd.val 2 27 (by decide +kernel)) rfl
              clear hd hk
              exact wp_value (.pointer (some ⟨b, 0, none⟩)) (by simp only [execOp, e27]; go_simp) (KS_mkv rfl rfl)
            · skip
              intro Q
              have e28 : a'.eval (.tmp 28) = .pointer (some ⟨b, 0, none⟩) := KS_val (hd.val 3 28 (by decide +kernel)) rfl
              clear hd hk
              exact wp_value (.pointer (some ⟨b, 0, none⟩)) (by simp only [execOp, e28]; go_simp) (KS_mkv rfl rfl)
            · skip
              intro Q
              have e29 : a'.eval (.tmp 29) = .pointer (some ⟨b, 0, none⟩) := KS_val (hd.val 4 29 (by decide +kernel)) rfl
              have hc := NC.bit (DR.out.kept hg)
              clear hd hk
              exact wp_value (.int .i64 (i : Int)) (by simp only [execOp, e29]; go_simp) (KS_mkv rfl rfl)
            · skip
              intro Q
              have e26 : a'.eval (.tmp 26) = HV k := KS_val (hd.val 1 26 (by decide +kernel)) rfl
              have e30 : a'.eval (.tmp 30) = .int .i64 (i : Int) := KS_val (hd.val 5 30 (by decide +kernel)) rfl
              refine wp_call 38 _ (run_enter 38 _ _ rfl (by kernel_rfl)) ?_
              simp only [List.map_toArray, List.map_nil, List.map_cons, e26, e30]
              refine (CB.out _).mono ?_
              rintro e w5 ⟨rfl, hb5⟩
              exact ⟨_, rfl, KS_mkv rfl rfl, hb5⟩
            · skip
              intro Q
              have e25 : a'.eval (.tmp 25) = .pointer (some ⟨b, 0, none⟩) := KS_val (hd.val 0 25 (by decide +kernel)) rfl
              clear hd hk
              exact wp_value (.pointer (some ⟨b, 0, none⟩)) (by simp only [execOp, e25]; go_simp) (KS_mkv rfl rfl)
            · skip
              intro Q
              have e32 : a'.eval (.tmp 32) = .pointer (some ⟨b, 0, none⟩) := KS_val (hd.val 7 32 (by decide +kernel)) rfl
              clear hd hk
              exact wp_value (.pointer (some ⟨b, 65, none⟩)) (by simp only [execOp, e32]; go_simp) (KS_mkv rfl rfl)
            · skip
              intro Q
              have e31 : a'.eval (.tmp 31) = .int .i64 1 := KS_val (hd.val 6 31 (by decide +kernel)) rfl
              have e33 : a'.eval (.tmp 33) = .pointer (some ⟨b, 65, none⟩) := KS_val (hd.val 8 33 (by decide +kernel)) rfl
              clear hd hk
              exact wp_value (.pointer (some ⟨b, 66, none⟩)) (by simp only [execOp, e31, e33]; go_simp) (KS_mkv rfl rfl)
            · skip
              intro Q
              have e34 : a'.eval (.tmp 34) = .pointer (some ⟨b, 66, none⟩) := KS_val (hd.val 9 34 (by decide +kernel)) rfl
              have hc := NC.right (DR.out.kept hg)
              clear hd hk
              exact wp_value (PT br) (by simp only [execOp, e34]; go_simp) (KS_mkv rfl rfl)
          · intro a' w3 hsz hdf hk hall hg
            have e25 : a'.eval (.tmp 25) = .pointer (some ⟨b, 0, none⟩) := KS_val (hall 0 _ 25 (by decide) rfl rfl) rfl
            have e26 : a'.eval (.tmp 26) = HV k := KS_val (hall 1 _ 26 (by decide) rfl rfl) rfl
            have e27 : a'.eval (.tmp 27) = .pointer (some ⟨b, 0, none⟩) := KS_val (hall 2 _ 27 (by decide) rfl rfl) rfl
            have e28 : a'.eval (.tmp 28) = .pointer (some ⟨b, 0, none⟩) := KS_val (hall 3 _ 28 (by decide) rfl rfl) rfl
            have e29 : a'.eval (.tmp 29) = .pointer (some ⟨b, 0, none⟩) := KS_val (hall 4 _ 29 (by decide) rfl rfl) rfl
            have e30 : a'.eval (.tmp 30) = .int .i64 (i : Int) := KS_val (hall 5 _ 30 (by decide) rfl rfl) rfl
            have e31 : a'.eval (.tmp 31) = .int .i64 1 := KS_val (hall 6 _ 31 (by decide) rfl rfl) rfl
            have e32 : a'.eval (.tmp 32) = .pointer (some ⟨b, 0, none⟩) := KS_val (hall 7 _ 32 (by decide) rfl rfl) rfl
            have e33 : a'.eval (.tmp 33) = .pointer (some ⟨b, 65, none⟩) := KS_val (hall 8 _ 33 (by decide) rfl rfl) rfl
            have e34 : a'.eval (.tmp 34) = .pointer (some ⟨b, 66, none⟩) := KS_val (hall 9 _ 34 (by decide) rfl rfl) rfl
            have e35 : a'.eval (.tmp 35) = PT br := KS_val (hall 10 _ 35 (by decide) rfl rfl) rfl
            obtain ⟨z6, e6⟩ : ∃ v, a'.eval (.tmp 6) = v := ⟨_, rfl⟩
            refine ⟨rfl, ?_⟩
            refine Oper.wp_mono ?_ (wp_same (C := fun x => x = w3) (PT br) (by simp only [execOp, e35]; rfl) rfl)
            rintro a2 w2 ⟨rfl, hw2⟩
            rw [hw2]
            clear hw2
            clear w2
            refine ⟨_, rfl, ?_⟩
            have ha := act_puts 47 rfl hsz hdf hk.all [25, 26, 27, 28, 29, 30, 31, 32, 33, 34, 35, 6] (by decide +kernel)
            simp only [puts, List.foldl_cons, List.foldl_nil, e25, e26, e27, e28, e29, e30, e31, e32, e33, e34, e35, e6] at ha
            simp only [Act.put, List.setIfInBounds_toArray, List.set_cons_succ, List.set_cons_zero] at ha
            have hput : a'.put (some 6) (PT br) = { tmps := a'.tmps.setIfInBounds 6 (PT br), defers := a'.defers } := rfl
            have hgo : ∀ x, x = a'.put (some 6) (PT br) → x = { tmps := a'.tmps.setIfInBounds 6 (PT br), defers := a'.defers } := fun x h => h.trans hput
            clear hgo
            simp only [hput, wpSeq]
            subst ha
            clear hput hall hk hsz hdf e25 e26 e27 e28 e29 e30 e31 e32 e33 e34 e35 e6
            have N3 := hide (HB.out.kept hg)
            have K3 := hide (KR.out.kept hg)
            have V3 := hide (VR.out.kept hg)
            have L3 : Hid (Below N w w3) := LR.out.trans (hg.mono (Nat.le_of_lt KR.out.lt))
            have P3 : Hid (getP B k = getP L k) := (HFF.out.getR HS.out).1.symm.trans HP.out
            clear hg KR VR LR DR NR
            go_wp2
            go_roundg (br + 1)
            case measure => omega
            case rel => exact ⟨br, B, rfl, rfl, N3, P3, K3, V3, L3⟩
#print axioms tGet_any
end Go.Proofs.YtooffljimdklfaaDoor

/-
  (*node).without: what the call does.
-/
namespace Go.Proofs.YtooffljimdklfaaDoor
open Go.RowKit
end Go.Proofs.YtooffljimdklfaaDoor

/-
  (*Trie).Put and Drop: what the calls do.
-/
namespace Go.Proofs.YtooffljimdklfaaDoor
open Go.RowKit
theorem TopOf.ptr {B0 : Nat} {w : World} {v : Value} {L : List It} (h : TopOf B0 w v L) : ∃ q, v = .pointer q := by
  rcases h with ⟨_, e⟩ | ⟨b, e, _⟩
  · exact ⟨_, e⟩
  · exact ⟨_, e⟩
theorem nwith_top {B0 : Nat} {w : World} {top : Value} {L : List It} (k v : Hs) (h : TopOf B0 w top L) (hB0 : B0 ≤ w.heap.size) : Calls Tryd.prog 45 #[top, HV k, HV v] w fun e w' => ∃ b', e = .returned (PT b') ∧ w.heap.size ≤ b' ∧ Nd B0 w' b' (putP L k v) ∧ Below w.heap.size w w' := by
  rcases h with ⟨rfl, rfl⟩ | ⟨b, rfl, hn⟩
  · exact nwith_nil k v w hB0
  · exact nwith_any k v b L w hn hB0
theorem build_trie (q : Option Addr) (s : Int) (w : World) : (Instr.build 60 #[(0, .bool true), (1, .pointer q), (2, .int .i64 s)]).run Tryd.prog w = .ok (.agg #[.bool true, .pointer q, .int .i64 s]) w := by kernel_rfl
set_option maxHeartbeats 4000000 in
set_option maxRecDepth 100000 in
theorem tPut_any {B0 : Nat} {w : World} {p : Nat} {L : List It} (k v : Hs) (h : TrieAt B0 w p L) (hB0 : B0 ≤ w.heap.size) (hn : L.length ≤ 1000000) : Calls Tryd.prog 24 #[PT p, HV k, HV v] w fun e w' => ∃ p', e = .returned (PT p') ∧ TrieAt B0 w' p' (putP L k v) ∧ Below w.heap.size w w' := by
  obtain ⟨top, hB, hs, h1⟩ := h
  have hTO : TopOf B0 w top L := h1
  obtain ⟨q, rfl⟩ := hTO.ptr
  obtain ⟨N, HN⟩ : ∃ N, Hid (w.heap.size = N) := ⟨_, rfl⟩
  have hpN : p < N := by rw [← HN.out]; exact hB.lt
  rw [HN.out] at hB0 ⊢
  have HTR : Hid (TrieAt B0 w p L) := ⟨.pointer q, hB, hs, h1⟩
  have HTO := hide hTO
  have HBK := hide hB
  have HS := hide hs
  obtain ⟨n, HL⟩ : ∃ n, Hid (L.length = n) := ⟨_, rfl⟩
  rw [HL.out] at HBK hn
  clear hB h1 hTO hs
  have HSRT := hide (HS.out.put k v)
  have HLP := hide (putP_length HS.out k v)
  rw [HL.out] at HLP
  go_enter Tryd.func24, Tryd.ntmps24
  unfold HV
  go_upto_region 1 with fail
  obtain ⟨w1, hw1⟩ : ∃ z, z = (w.alloc (.cells (By k.1).toArray 24 (0, 0))).alloc (.cells (By v.1).toArray 24 (0, 0)) := ⟨_, rfl⟩
  change Code.wp _ _ _ _ ((w.alloc (.cells (By k.1).toArray 24 (0, 0))).alloc (.cells (By v.1).toArray 24 (0, 0)))
  rw [← hw1, HN.out]
  have Kw1 : Hid (Blk w1 N 24 (By k.1)) := (show Blk _ _ _ _ by rw [hw1, ← HN.out]; exact (Blk.new w 24 (By k.1)).alloc _)
  have Vw1 : Hid (Blk w1 (N + 1) 24 (By v.1)) := (show Blk _ _ _ _ by rw [hw1, ← HN.out]; have := Blk.new (w.alloc (.cells (By k.1).toArray 24 (0, 0))) 24 (By v.1); simpa using this)
  have Lw1 : Hid (Below N w w1) := (show Below _ _ _ by rw [hw1, ← HN.out]; exact ((Below.refl _ _).alloc (Nat.le_refl _) _).alloc (by simp) _)
  clear hw1
  have Tw1 := hide (HBK.out.kept (Lw1.out.mono (Nat.le_of_eq HN.out)))
  have Ow1 := hide (HTO.out.kept (Lw1.out.mono (Nat.le_of_eq HN.out)))
  have ra := Kw1.out.range0
  have CG := hide (tGet_any k (HTR.out.kept (Lw1.out.mono (Nat.le_of_eq HN.out))))
  have CM := hide (tisMade_any Tw1.out)
  obtain ⟨vv, HV1⟩ : ∃ z, Hid (valP L k = z) := ⟨_, rfl⟩
  obtain ⟨hs, HH1⟩ : ∃ z, Hid (hasP L k = z) := ⟨_, rfl⟩
  rw [HV1.out, HH1.out] at CG
  have c2 := Tw1.out.cell (j := 2) rfl
  go_wp2_with (first
    | (go_at_call 41; refine CM.out.mono ?_; rintro e w' ⟨rfl, rfl⟩)
    | (refine wpList_load_mid rfl 24 _ rfl N 0 rfl (By k.1) _ ra Tryd.underlying24 rfl (Tryd.sizeH k) ?_)
    | fail)
  refine CG.out.mono ?_
  rintro e w2 ⟨rfl, hb2⟩
  have T2 := hide (Tw1.out.kept hb2)
  have O2 := hide (Ow1.out.kept hb2)
  have K2 := hide (Kw1.out.kept hb2)
  have V2 := hide (Vw1.out.kept hb2)
  have L2 : Hid (Below N w w2) := Lw1.out.trans (hb2.mono (Nat.le_of_lt Kw1.out.lt))
  obtain ⟨M, HM⟩ : ∃ M, Hid (w2.heap.size = M) := ⟨_, rfl⟩
  have hNM : N < M := by rw [← HM.out]; exact K2.out.lt
  clear hb2 CG CM ra c2 Kw1 Tw1 Ow1 Lw1 Vw1
  cases hs with
  | true =>
    have HLEN : Hid ((n : Int) = ((putP L k v).length : Int)) := (show _ = _ by rw [HLP.out, HH1.out, if_pos rfl]; simp)
    go_upto_region 7 with (first
      | (rw [HM.out]; refine wpList_store_blk rfl 24 _ _ rfl M (By zh.1) (By vv.1) 24 rfl rfl (by rw [← HM.out]; exact Blk.new w2 24 (By zh.1)) (by rw [By_len, By_len]) (Tryd.sizeH vv) (By_one _) ?_; intro w4 hb4 hu4)
      | fail)
    have hal : Below M w2 (w2.alloc (.cells (By zh.1).toArray 24 (0, 0))) := (Below.refl _ _).alloc (Nat.le_of_eq HM.out.symm) _
    have hb5 : Below w2.heap.size w2 w4 := by rw [HM.out]; exact hal.trans (hu4.below (Nat.le_refl _) (by rw [← HM.out]; simp))
    have Tw4 := hide (T2.out.kept hb5)
    have Ow4 := hide (O2.out.kept hb5)
    have Kw4 := hide (K2.out.kept hb5)
    have Vw4 := hide (V2.out.kept hb5)
    have Lw4 : Hid (Below N w w4) := L2.out.trans (hb5.mono (by rw [HM.out]; omega))
    have Gw4 : Hid (N ≤ w4.heap.size) := (show _ ≤ _ from Nat.le_of_lt Kw4.out.lt)
    clear hal hb5 hu4 hb4 T2 O2 K2 L2 V2
    refine wp_region_inv Tryd.mixed (KS (fun i_ => match i_ with | 0 | 1 => .val (.pointer (some ⟨p, 0, none⟩)) | 2 => .val (.pointer (some ⟨p, 1, none⟩)) | 3 => .val (.pointer q) | 4 => .val (HV k) | 5 => .val (HV v) | 6 => .of (fun w v_ => ∃ b_, v_ = PT b_ ∧ Nd B0 w b_ (putP L k v)) (fun _ _ _ hg ⟨b_, e, h2⟩ => ⟨b_, e, h2.kept hg⟩) | 7 => .val (.int .i64 ((n : Int))) | 8 => .of (fun w v_ => ∃ q_, v_ = .agg #[.bool true, .pointer q_, .int .i64 ((n : Int))] ∧ TopOf B0 w (.pointer q_) (putP L k v)) (fun _ _ _ hg ⟨q_, e, h2⟩ => ⟨q_, e, h2.kept hg⟩) | 9 | 10 => .of (fun w v_ => ∃ p_, v_ = PT p_ ∧ TrieAt B0 w p_ (putP L k v)) (fun _ _ _ hg ⟨p_, e, h2⟩ => ⟨p_, e, h2.kept hg⟩) | _ => .free)) 37 rfl (by decide +kernel) (KS_mono _) ?_ ?_
    · refine AllFrom.cons (fun a' w' hg hk hd => ?_) (AllFrom.cons (fun a' w' hg hk hd => ?_) (AllFrom.cons (fun a' w' hg hk hd => ?_) (AllFrom.cons (fun a' w' hg hk hd => ?_) (AllFrom.cons (fun a' w' hg hk hd => ?_) (AllFrom.cons (fun a' w' hg hk hd => ?_) (AllFrom.cons (fun a' w' hg hk hd => ?_) (AllFrom.cons (fun a' w' hg hk hd => ?_) (AllFrom.cons (fun a' w' hg hk hd => ?_) (AllFrom.cons (fun a' w' hg hk hd => ?_) (AllFrom.cons (fun a' w' hg hk hd => ?_) AllFrom.nil))))))))))
      · skip
        intro Q
        have e0 : a'.eval (.tmp 0) = .pointer (some ⟨p, 0, none⟩) := hk.at 0 (by decide +kernel)
        exact wp_value _ (by simp only [execOp, e0]; rfl) (KS_mkv rfl rfl)
      · skip
        intro Q
        have e27 : a'.eval (.tmp 27) = .pointer (some ⟨p, 0, none⟩) := KS_val (hd.val 0 27 (by decide +kernel)) rfl
        clear hd hk
        exact wp_value (.pointer (some ⟨p, 0, none⟩)) (by simp only [execOp, e27]; go_simp) (KS_mkv rfl rfl)
      · skip
        intro Q
        have e28 : a'.eval (.tmp 28) = .pointer (some ⟨p, 0, none⟩) := KS_val (hd.val 1 28 (by decide +kernel)) rfl
        clear hd hk
        exact wp_value (.pointer (some ⟨p, 1, none⟩)) (by simp only [execOp, e28]; go_simp) (KS_mkv rfl rfl)
      · skip
        intro Q
        have e29 : a'.eval (.tmp 29) = .pointer (some ⟨p, 1, none⟩) := KS_val (hd.val 2 29 (by decide +kernel)) rfl
        have hc := (Tw4.out.kept hg).cell (j := 1) rfl
        clear hd hk
        exact wp_value (.pointer q) (by simp only [execOp, e29]; go_simp) (KS_mkv rfl rfl)
      · skip
        intro Q
        have e4 : a'.eval (.tmp 4) = .pointer (some ⟨N, 0, none⟩) := hk.at 4 (by decide +kernel)
        exact wp_load_row 24 _ rfl _ _ e4 (By (k).1) _ ((Kw4.out.kept hg).range0) Tryd.underlying24 rfl (Tryd.sizeH _) (KS_mkv rfl rfl)
      · skip
        intro Q
        have e5 : a'.eval (.tmp 5) = .pointer (some ⟨N + 1, 0, none⟩) := hk.at 5 (by decide +kernel)
        exact wp_load_row 24 _ rfl _ _ e5 (By (v).1) _ ((Vw4.out.kept hg).range0) Tryd.underlying24 rfl (Tryd.sizeH _) (KS_mkv rfl rfl)
      · skip
        intro Q
        have e30 : a'.eval (.tmp 30) = .pointer q := KS_val (hd.val 3 30 (by decide +kernel)) rfl
        have e31 : a'.eval (.tmp 31) = HV k := KS_val (hd.val 4 31 (by decide +kernel)) rfl
        have e32 : a'.eval (.tmp 32) = HV v := KS_val (hd.val 5 32 (by decide +kernel)) rfl
        refine wp_call 45 _ (run_enter 45 _ _ rfl (by kernel_rfl)) ?_
        simp only [List.map_toArray, List.map_nil, List.map_cons, e30, e31, e32]
        refine (nwith_top k v (Ow4.out.kept hg) (Nat.le_trans hB0 (Nat.le_trans Gw4.out hg.size))).mono ?_
        rintro e w5 ⟨b5, rfl, h5, n5, hb5⟩
        exact ⟨_, rfl, KS_mko rfl ⟨b5, rfl, n5⟩, hb5⟩
      · skip
        intro Q
        have e7 : a'.eval (.tmp 7) = .int .i64 ((n : Int)) := hk.at 7 (by decide +kernel)
        exact wp_value _ (by simp only [execOp, e7]; rfl) (KS_mkv rfl rfl)
      · skip
        intro Q
        have r33 := KS_of (hd.val 6 33 (by decide +kernel)) rfl
        have e34 : a'.eval (.tmp 34) = .int .i64 ((n : Int)) := KS_val (hd.val 7 34 (by decide +kernel)) rfl
        obtain ⟨b_, eb, hn⟩ := r33
        have hr := build_trie (some ⟨b_, 0, none⟩) ((n : Int)) w'
        exact wp_value (.agg #[.bool true, PT b_, .int .i64 ((n : Int))]) (by simp only [execOp, List.map_toArray, List.map_cons, List.map_nil, eb, e34, show a'.eval (.const (.bool true)) = .bool true from rfl, hr, Sem.run_bind, Sem.run_pure, Result.andThen_ok]) (KS_mko rfl ⟨some ⟨b_, 0, none⟩, rfl, .inr ⟨b_, rfl, hn⟩⟩)
      · skip
        intro Q
        have r35 := KS_of (hd.val 8 35 (by decide +kernel)) rfl
        obtain ⟨q_, eb, hn⟩ := r35
        refine wp_grow (PT w'.heap.size) (w'.alloc (.cells #[.bool true, .pointer q_, .int .i64 ((n : Int))] 60 (0, 0))) (by simp only [execOp, eb]; go_simp) ((Below.refl _ _).alloc (Nat.le_refl _) _) (KS_mko rfl ⟨_, rfl, ?_⟩)
        exact ⟨.pointer q_, by have := Blk.new w' 60 [.bool true, .pointer q_, .int .i64 ((n : Int))]; rw [HLEN.out] at this ⊢; exact this, HSRT.out, hn.kept ((Below.refl _ _).alloc (Nat.le_refl _) _)⟩
      · skip
        intro Q
        have r36 := KS_of (hd.val 9 36 (by decide +kernel)) rfl
        exact wp_value (a'.eval (.tmp 36)) (by simp only [execOp]; rfl) (KS_mko rfl r36)
    · intro a' w7 hsz hdf hk hall hg
      have e27 : a'.eval (.tmp 27) = .pointer (some ⟨p, 0, none⟩) := KS_val (hall 0 _ 27 rfl rfl) rfl
      have e28 : a'.eval (.tmp 28) = .pointer (some ⟨p, 0, none⟩) := KS_val (hall 1 _ 28 rfl rfl) rfl
      have e29 : a'.eval (.tmp 29) = .pointer (some ⟨p, 1, none⟩) := KS_val (hall 2 _ 29 rfl rfl) rfl
      have e30 : a'.eval (.tmp 30) = .pointer q := KS_val (hall 3 _ 30 rfl rfl) rfl
      have e31 : a'.eval (.tmp 31) = HV k := KS_val (hall 4 _ 31 rfl rfl) rfl
      have e32 : a'.eval (.tmp 32) = HV v := KS_val (hall 5 _ 32 rfl rfl) rfl
      have r33 : (fun w v_ => ∃ b_, v_ = PT b_ ∧ Nd B0 w b_ (putP L k v)) w7 (a'.eval (.tmp 33)) := KS_of (hall 6 _ 33 rfl rfl) rfl
      obtain ⟨x33, hx33⟩ : ∃ v, a'.eval (.tmp 33) = v := ⟨_, rfl⟩
      rw [hx33] at r33
      have e34 : a'.eval (.tmp 34) = .int .i64 ((n : Int)) := KS_val (hall 7 _ 34 rfl rfl) rfl
      have r35 : (fun w v_ => ∃ q_, v_ = .agg #[.bool true, .pointer q_, .int .i64 ((n : Int))] ∧ TopOf B0 w (.pointer q_) (putP L k v)) w7 (a'.eval (.tmp 35)) := KS_of (hall 8 _ 35 rfl rfl) rfl
      obtain ⟨x35, hx35⟩ : ∃ v, a'.eval (.tmp 35) = v := ⟨_, rfl⟩
      rw [hx35] at r35
      have r36 : (fun w v_ => ∃ p_, v_ = PT p_ ∧ TrieAt B0 w p_ (putP L k v)) w7 (a'.eval (.tmp 36)) := KS_of (hall 9 _ 36 rfl rfl) rfl
      obtain ⟨x36, hx36⟩ : ∃ v, a'.eval (.tmp 36) = v := ⟨_, rfl⟩
      rw [hx36] at r36
      have r6 : (fun w v_ => ∃ p_, v_ = PT p_ ∧ TrieAt B0 w p_ (putP L k v)) w7 (a'.eval (.tmp 6)) := KS_of (hall 10 _ 6 rfl rfl) rfl
      obtain ⟨x6, hx6⟩ : ∃ v, a'.eval (.tmp 6) = v := ⟨_, rfl⟩
      rw [hx6] at r6
      have ha := act_puts 37 rfl hsz hdf hk [27, 28, 29, 30, 31, 32, 33, 34, 35, 36, 6] (by decide +kernel)
      simp only [puts, List.foldl_cons, List.foldl_nil, e27, e28, e29, e30, e31, e32, hx33, e34, hx35, hx36, hx6] at ha
      simp only [Act.put, List.setIfInBounds_toArray, List.set_cons_succ, List.set_cons_zero] at ha
      clear hall hk hsz hdf e27 e28 e29 e30 e31 e32 hx33 e34 hx35 hx36 hx6
      subst ha
      obtain ⟨p9, e9, n9⟩ := r6
      subst e9
      have LZ : Below N w w7 := Lw4.out.trans (hg.mono Gw4.out)
      clear hg
      go_wp2
      go_ret
      exact ⟨p9, rfl, n9, LZ⟩
  | false =>
    have HLEN : Hid ((n : Int) + 1 = ((putP L k v).length : Int)) := (show _ = _ by rw [HLP.out, HH1.out, if_neg (by decide)]; simp)
    go_upto_region 7 with (first
      | (rw [HM.out]; refine wpList_store_blk rfl 24 _ _ rfl M (By zh.1) (By vv.1) 24 rfl rfl (by rw [← HM.out]; exact Blk.new w2 24 (By zh.1)) (by rw [By_len, By_len]) (Tryd.sizeH vv) (By_one _) ?_; intro w4 hb4 hu4)
      | fail)
    have hal : Below M w2 (w2.alloc (.cells (By zh.1).toArray 24 (0, 0))) := (Below.refl _ _).alloc (Nat.le_of_eq HM.out.symm) _
    have hb5 : Below w2.heap.size w2 w4 := by rw [HM.out]; exact hal.trans (hu4.below (Nat.le_refl _) (by rw [← HM.out]; simp))
    have Tw4 := hide (T2.out.kept hb5)
    have Ow4 := hide (O2.out.kept hb5)
    have Kw4 := hide (K2.out.kept hb5)
    have Vw4 := hide (V2.out.kept hb5)
    have Lw4 : Hid (Below N w w4) := L2.out.trans (hb5.mono (by rw [HM.out]; omega))
    have Gw4 : Hid (N ≤ w4.heap.size) := (show _ ≤ _ from Nat.le_of_lt Kw4.out.lt)
    clear hal hb5 hu4 hb4 T2 O2 K2 L2 V2
    refine wp_region_inv Tryd.mixed (KS (fun i_ => match i_ with | 0 | 1 => .val (.pointer (some ⟨p, 0, none⟩)) | 2 => .val (.pointer (some ⟨p, 1, none⟩)) | 3 => .val (.pointer q) | 4 => .val (HV k) | 5 => .val (HV v) | 6 => .of (fun w v_ => ∃ b_, v_ = PT b_ ∧ Nd B0 w b_ (putP L k v)) (fun _ _ _ hg ⟨b_, e, h2⟩ => ⟨b_, e, h2.kept hg⟩) | 7 => .val (.int .i64 ((n : Int) + 1)) | 8 => .of (fun w v_ => ∃ q_, v_ = .agg #[.bool true, .pointer q_, .int .i64 ((n : Int) + 1)] ∧ TopOf B0 w (.pointer q_) (putP L k v)) (fun _ _ _ hg ⟨q_, e, h2⟩ => ⟨q_, e, h2.kept hg⟩) | 9 | 10 => .of (fun w v_ => ∃ p_, v_ = PT p_ ∧ TrieAt B0 w p_ (putP L k v)) (fun _ _ _ hg ⟨p_, e, h2⟩ => ⟨p_, e, h2.kept hg⟩) | _ => .free)) 37 rfl (by decide +kernel) (KS_mono _) ?_ ?_
    · refine AllFrom.cons (fun a' w' hg hk hd => ?_) (AllFrom.cons (fun a' w' hg hk hd => ?_) (AllFrom.cons (fun a' w' hg hk hd => ?_) (AllFrom.cons (fun a' w' hg hk hd => ?_) (AllFrom.cons (fun a' w' hg hk hd => ?_) (AllFrom.cons (fun a' w' hg hk hd => ?_) (AllFrom.cons (fun a' w' hg hk hd => ?_) (AllFrom.cons (fun a' w' hg hk hd => ?_) (AllFrom.cons (fun a' w' hg hk hd => ?_) (AllFrom.cons (fun a' w' hg hk hd => ?_) (AllFrom.cons (fun a' w' hg hk hd => ?_) AllFrom.nil))))))))))
      · skip
        intro Q
        have e0 : a'.eval (.tmp 0) = .pointer (some ⟨p, 0, none⟩) := hk.at 0 (by decide +kernel)
        exact wp_value _ (by simp only [execOp, e0]; rfl) (KS_mkv rfl rfl)
      · skip
        intro Q
        have e27 : a'.eval (.tmp 27) = .pointer (some ⟨p, 0, none⟩) := KS_val (hd.val 0 27 (by decide +kernel)) rfl
        clear hd hk
        exact wp_value (.pointer (some ⟨p, 0, none⟩)) (by simp only [execOp, e27]; go_simp) (KS_mkv rfl rfl)
      · skip
        intro Q
        have e28 : a'.eval (.tmp 28) = .pointer (some ⟨p, 0, none⟩) := KS_val (hd.val 1 28 (by decide +kernel)) rfl
        clear hd hk
        exact wp_value (.pointer (some ⟨p, 1, none⟩)) (by simp only [execOp, e28]; go_simp) (KS_mkv rfl rfl)
      · skip
        intro Q
        have e29 : a'.eval (.tmp 29) = .pointer (some ⟨p, 1, none⟩) := KS_val (hd.val 2 29 (by decide +kernel)) rfl
        have hc := (Tw4.out.kept hg).cell (j := 1) rfl
        clear hd hk
        exact wp_value (.pointer q) (by simp only [execOp, e29]; go_simp) (KS_mkv rfl rfl)
      · skip
        intro Q
        have e4 : a'.eval (.tmp 4) = .pointer (some ⟨N, 0, none⟩) := hk.at 4 (by decide +kernel)
        exact wp_load_row 24 _ rfl _ _ e4 (By (k).1) _ ((Kw4.out.kept hg).range0) Tryd.underlying24 rfl (Tryd.sizeH _) (KS_mkv rfl rfl)
      · skip
        intro Q
        have e5 : a'.eval (.tmp 5) = .pointer (some ⟨N + 1, 0, none⟩) := hk.at 5 (by decide +kernel)
        exact wp_load_row 24 _ rfl _ _ e5 (By (v).1) _ ((Vw4.out.kept hg).range0) Tryd.underlying24 rfl (Tryd.sizeH _) (KS_mkv rfl rfl)
      · skip
        intro Q
        have e30 : a'.eval (.tmp 30) = .pointer q := KS_val (hd.val 3 30 (by decide +kernel)) rfl
        have e31 : a'.eval (.tmp 31) = HV k := KS_val (hd.val 4 31 (by decide +kernel)) rfl
        have e32 : a'.eval (.tmp 32) = HV v := KS_val (hd.val 5 32 (by decide +kernel)) rfl
        refine wp_call 45 _ (run_enter 45 _ _ rfl (by kernel_rfl)) ?_
        simp only [List.map_toArray, List.map_nil, List.map_cons, e30, e31, e32]
        refine (nwith_top k v (Ow4.out.kept hg) (Nat.le_trans hB0 (Nat.le_trans Gw4.out hg.size))).mono ?_
        rintro e w5 ⟨b5, rfl, h5, n5, hb5⟩
        exact ⟨_, rfl, KS_mko rfl ⟨b5, rfl, n5⟩, hb5⟩
      · skip
        intro Q
        have e7 : a'.eval (.tmp 7) = .int .i64 ((n : Int) + 1) := hk.at 7 (by decide +kernel)
        exact wp_value _ (by simp only [execOp, e7]; rfl) (KS_mkv rfl rfl)
      · skip
        intro Q
        have r33 := KS_of (hd.val 6 33 (by decide +kernel)) rfl
        have e34 : a'.eval (.tmp 34) = .int .i64 ((n : Int) + 1) := KS_val (hd.val 7 34 (by decide +kernel)) rfl
        obtain ⟨b_, eb, hn⟩ := r33
        have hr := build_trie (some ⟨b_, 0, none⟩) ((n : Int) + 1) w'
        exact wp_value (.agg #[.bool true, PT b_, .int .i64 ((n : Int) + 1)]) (by simp only [execOp, List.map_toArray, List.map_cons, List.map_nil, eb, e34, show a'.eval (.const (.bool true)) = .bool true from rfl, hr, Sem.run_bind, Sem.run_pure, Result.andThen_ok]) (KS_mko rfl ⟨some ⟨b_, 0, none⟩, rfl, .inr ⟨b_, rfl, hn⟩⟩)
      · skip
        intro Q
        have r35 := KS_of (hd.val 8 35 (by decide +kernel)) rfl
        obtain ⟨q_, eb, hn⟩ := r35
        refine wp_grow (PT w'.heap.size) (w'.alloc (.cells #[.bool true, .pointer q_, .int .i64 ((n : Int) + 1)] 60 (0, 0))) (by simp only [execOp, eb]; go_simp) ((Below.refl _ _).alloc (Nat.le_refl _) _) (KS_mko rfl ⟨_, rfl, ?_⟩)
        exact ⟨.pointer q_, by have := Blk.new w' 60 [.bool true, .pointer q_, .int .i64 ((n : Int) + 1)]; rw [HLEN.out] at this ⊢; exact this, HSRT.out, hn.kept ((Below.refl _ _).alloc (Nat.le_refl _) _)⟩
      · skip
        intro Q
        have r36 := KS_of (hd.val 9 36 (by decide +kernel)) rfl
        exact wp_value (a'.eval (.tmp 36)) (by simp only [execOp]; rfl) (KS_mko rfl r36)
    · intro a' w7 hsz hdf hk hall hg
      have e27 : a'.eval (.tmp 27) = .pointer (some ⟨p, 0, none⟩) := KS_val (hall 0 _ 27 rfl rfl) rfl
      have e28 : a'.eval (.tmp 28) = .pointer (some ⟨p, 0, none⟩) := KS_val (hall 1 _ 28 rfl rfl) rfl
      have e29 : a'.eval (.tmp 29) = .pointer (some ⟨p, 1, none⟩) := KS_val (hall 2 _ 29 rfl rfl) rfl
      have e30 : a'.eval (.tmp 30) = .pointer q := KS_val (hall 3 _ 30 rfl rfl) rfl
      have e31 : a'.eval (.tmp 31) = HV k := KS_val (hall 4 _ 31 rfl rfl) rfl
      have e32 : a'.eval (.tmp 32) = HV v := KS_val (hall 5 _ 32 rfl rfl) rfl
      have r33 : (fun w v_ => ∃ b_, v_ = PT b_ ∧ Nd B0 w b_ (putP L k v)) w7 (a'.eval (.tmp 33)) := KS_of (hall 6 _ 33 rfl rfl) rfl
      obtain ⟨x33, hx33⟩ : ∃ v, a'.eval (.tmp 33) = v := ⟨_, rfl⟩
      rw [hx33] at r33
      have e34 : a'.eval (.tmp 34) = .int .i64 ((n : Int) + 1) := KS_val (hall 7 _ 34 rfl rfl) rfl
      have r35 : (fun w v_ => ∃ q_, v_ = .agg #[.bool true, .pointer q_, .int .i64 ((n : Int) + 1)] ∧ TopOf B0 w (.pointer q_) (putP L k v)) w7 (a'.eval (.tmp 35)) := KS_of (hall 8 _ 35 rfl rfl) rfl
      obtain ⟨x35, hx35⟩ : ∃ v, a'.eval (.tmp 35) = v := ⟨_, rfl⟩
      rw [hx35] at r35
      have r36 : (fun w v_ => ∃ p_, v_ = PT p_ ∧ TrieAt B0 w p_ (putP L k v)) w7 (a'.eval (.tmp 36)) := KS_of (hall 9 _ 36 rfl rfl) rfl
      obtain ⟨x36, hx36⟩ : ∃ v, a'.eval (.tmp 36) = v := ⟨_, rfl⟩
      rw [hx36] at r36
      have r6 : (fun w v_ => ∃ p_, v_ = PT p_ ∧ TrieAt B0 w p_ (putP L k v)) w7 (a'.eval (.tmp 6)) := KS_of (hall 10 _ 6 rfl rfl) rfl
      obtain ⟨x6, hx6⟩ : ∃ v, a'.eval (.tmp 6) = v := ⟨_, rfl⟩
      rw [hx6] at r6
      have ha := act_puts 37 rfl hsz hdf hk [27, 28, 29, 30, 31, 32, 33, 34, 35, 36, 6] (by decide +kernel)
      simp only [puts, List.foldl_cons, List.foldl_nil, e27, e28, e29, e30, e31, e32, hx33, e34, hx35, hx36, hx6] at ha
      simp only [Act.put, List.setIfInBounds_toArray, List.set_cons_succ, List.set_cons_zero] at ha
      clear hall hk hsz hdf e27 e28 e29 e30 e31 e32 hx33 e34 hx35 hx36 hx6
      subst ha
      obtain ⟨p9, e9, n9⟩ := r6
      subst e9
      have LZ : Below N w w7 := Lw4.out.trans (hg.mono Gw4.out)
      clear hg
      go_wp2
      go_ret
      exact ⟨p9, rfl, n9, LZ⟩
#print axioms tPut_any
end Go.Proofs.YtooffljimdklfaaDoor
