/-
  Texts that ride together: PfL PfF.
-/
import Derived.Test.YtfclmjfbcmjfbaaDoorPfW
import Derived.Test.YtfclmjfbcmjfbaaDoorGR10
import Derived.Test.YtfclmjfbcmjfbaaDoorGMa
/-
  (*way).lengthen: what the call does.
-/
namespace Go.Proofs.YtfclmjfbcmjfbaaDoor
open Go.RowKit
theorem wr64 {x : Int} (h0 : -9223372036854775808 ≤ x) (h1 : x ≤ 9223372036854775807) : IntKind.i64.wrap x = x := by
  rw [IntKind.wrap_i64]
  omega
theorem Tryd.sizePt : (Tryd.prog.info? 45).map (·.size) = some 2 := by kernel_rfl
theorem Tryd.sizeTn : (Tryd.prog.info? 47).map (·.size) = some 3 := by kernel_rfl
/-- Cells over some of a block. -/
theorem wpList_store_over {P : Program} {w : World} {ops : Array Oper} {rest : List Oper} {op : Oper} {a : Act} {Q : Exit → Act → World → Prop} (hgd : op.guard = none) (ty : TypeId) (x y : Operand) (ho : op.op = .store ty x y)
    (b off : Nat) (cs ds : List Value) (T : TypeId) (hx : a.eval x = .pointer (some ⟨b, off, none⟩)) (hy : a.eval y = .agg ds.toArray) (hB : Blk w b T cs) (hl : off + ds.length ≤ cs.length)
    (hi : (P.info? ty).map (·.size) = some ds.length) (h1 : ∀ u ∈ ds, u.oneCell' = true)
    (h : ∀ w', Blk w' b T (over cs off ds) → But b w w' → wpList P ops Q rest (a.put op.dst undef) w') : wpList P ops Q (op :: rest) a w := by
  have t0 := hB.there off ds.length (by omega)
  refine wpList_store_mid hgd ty x y ho b off ds.toArray hx hy (by simpa using t0) (by simpa using hi) (all_one h1) ?_
  exact h _ (Blk.over ds hB off hl) (But.setCells b _ off w)
theorem wp_store_over {P : Program} {w : World} {op : Oper} {a : Act} {K : Act → World → Prop} {Q : Exit → Act → World → Prop} (ty : TypeId) (x y : Operand) (ho : op.op = .store ty x y)
    (b off : Nat) (cs ds : List Value) (T : TypeId) (hx : a.eval x = .pointer (some ⟨b, off, none⟩)) (hy : a.eval y = .agg ds.toArray) (hB : Blk w b T cs) (hl : off + ds.length ≤ cs.length)
    (hi : (P.info? ty).map (·.size) = some ds.length) (h1 : ∀ u ∈ ds, u.oneCell' = true)
    (h : ∀ w', Blk w' b T (over cs off ds) → But b w w' → K (a.put op.dst undef) w') : op.wp P a w K Q := by
  have t0 := hB.there off ds.length (by omega)
  refine wp_store_mid ty x y ho b off ds.toArray hx hy (by simpa using t0) (by simpa using hi) (all_one h1) ?_
  exact h _ (Blk.over ds hB off hl) (But.setCells b _ off w)
theorem WC_range0 {w : World} {D lo hi c : Nat} {A : List Tn} (h : Blk w D 50 (WC lo hi A c)) : w.rangeAt D 0 [.int .i64 (lo : Int), .int .i64 (hi : Int)] :=
  h.range 0 _ (fun j v hj => by
    rw [Nat.zero_add]
    unfold WC
    rw [List.append_assoc, List.getElem?_append_left (List.getElem?_eq_some_iff.1 hj).1]
    exact hj)
theorem WC_over0 {lo hi c lo' hi' : Nat} {A : List Tn} : over (WC lo hi A c) 0 [.int .i64 (lo' : Int), .int .i64 (hi' : Int)] = WC lo' hi' A c := by
  simp [over, WC]
theorem WC_over1 {lo hi c k : Nat} {A : List Tn} (t : Tn) (hA : A.length = 64) (hk : k < 64) : over (WC lo hi A c) (2 + k * 3) (TE.c t) = WC lo hi (A.set k t) c := by
  have hs : A.set k t = A.take k ++ [t] ++ A.drop (k + 1) := by
    rw [List.set_eq_take_append_cons_drop, if_pos (by omega)]
    simp
  unfold over WC
  rw [hs, Enc.cs_append, Enc.cs_append, Enc.cs_one1, Enc.cs_take, Enc.cs_drop]
  have hl : (TE.cs A).length = 192 := by rw [Enc.cs_length, hA]; rfl
  have e3 : TE.n = 3 := rfl
  have e4 : (TE.c t).length = 3 := rfl
  rw [e3, e4]
  have h1 : ([.int .i64 (lo : Int), .int .i64 (hi : Int)] ++ TE.cs A ++ [.int .i64 (c : Int)] : List Value).take (2 + k * 3) = [.int .i64 (lo : Int), .int .i64 (hi : Int)] ++ (TE.cs A).take (k * 3) := by
    rw [List.append_assoc, List.take_append, List.take_of_length_le (by simp), List.take_append_of_le_length (by simp [hl]; omega)]
    simp
  have h2 : ([.int .i64 (lo : Int), .int .i64 (hi : Int)] ++ TE.cs A ++ [.int .i64 (c : Int)] : List Value).drop (2 + k * 3 + 3) = (TE.cs A).drop ((k + 1) * 3) ++ [.int .i64 (c : Int)] := by
    rw [List.append_assoc, List.drop_append, List.drop_of_length_le (by simp), List.drop_append_of_le_length (by simp [hl]; omega)]
    simp [show 2 + k * 3 + 3 - 2 = (k + 1) * 3 by omega]
  rw [h1, h2]
  simp
theorem WC_over2 {lo hi c c' : Nat} {A : List Tn} (hA : A.length = 64) : over (WC lo hi A c) 194 [.int .i64 (c' : Int)] = WC lo hi A c' := by
  have hl : ([.int .i64 (lo : Int), .int .i64 (hi : Int)] ++ TE.cs A : List Value).length = 194 := by rw [List.length_append, Enc.cs_length, hA]; rfl
  unfold over WC
  rw [List.take_append_of_le_length (by omega), List.take_of_length_le (by omega), List.drop_of_length_le (by rw [List.length_append, hl]; simp)]
  simp
theorem WC_set {lo hi c c' : Nat} {A : List Tn} (hA : A.length = 64) : (WC lo hi A c).set 194 (.int .i64 (c' : Int)) = WC lo hi A c' := by
  have hl : ([.int .i64 (lo : Int), .int .i64 (hi : Int)] ++ TE.cs A : List Value).length = 194 := by rw [List.length_append, Enc.cs_length, hA]; rfl
  unfold WC
  rw [List.set_append_right _ _ (by omega), hl]
  rfl
set_option maxHeartbeats 4000000 in
set_option maxRecDepth 100000 in
theorem lengthen_any (D lo hi c i h s : Nat) (A : List Tn) (hA : A.length = 64) (hc : c < 64) (h1 : lo ≤ i) (h2 : i < hi) (hb : hi ≤ 1099511627776) (hs : spl (hi - lo) = s) (hh : lo + s = h) (hlt : s < hi - lo) (w : World) (hB : Blk w D 50 (WC lo hi A c)) :
    Calls Tryd.prog 37 #[.pointer (some ⟨D, 0, none⟩), .int .i64 (i : Int)] w fun e w' => (∃ v, e = .returned v) ∧ Chg (fun k => k = D) w w' ∧
      Blk w' D 50 (if i < h then WC lo h (A.set c ⟨h, hi, false⟩) (c + 1) else WC h hi (A.set c ⟨lo, h, true⟩) (c + 1)) := by
  have CS : Hid (∀ w, Calls Tryd.prog 44 #[.int .i64 ((hi : Int) - (lo : Int))] w fun e w' => e = .returned (.int .i64 (s : Int)) ∧ w' = w) := (fun w => by
    have := split_any ((hi : Int) - (lo : Int)) (by omega) w
    rw [show ((hi : Int) - (lo : Int)).toNat = hi - lo by omega, hs] at this
    exact this)
  have HA := hide hA
  have HB := hide hB
  obtain ⟨N, HN⟩ : ∃ N, Hid (w.heap.size = N) := ⟨_, rfl⟩
  have HD : Hid (D < N) := (show _ by rw [← HN.out]; exact hB.lt)
  have hr0 := WC_range0 hB
  have hsum : (lo : Int) + (s : Int) = (h : Int) := by omega
  clear hA hB hs hh
  go_enter Tryd.func37, Tryd.ntmps37
  have BN := Blk.new w 45 [.int .i64 0, .int .i64 0]
  rw [HN.out] at BN
  go_upto_region 1 with (first
    | (refine wpList_load_mid rfl 45 _ rfl D 0 rfl [.int .i64 (lo : Int), .int .i64 (hi : Int)] _ hr0 Tryd.underlying45 rfl Tryd.sizePt ?_)
    | (rw [HN.out]; refine wpList_store_blk rfl 45 _ _ rfl N [.int .i64 0, .int .i64 0] [.int .i64 (lo : Int), .int .i64 (hi : Int)] 45 rfl rfl BN rfl Tryd.sizePt (by simp [Value.oneCell']) ?_; intro w1 hb1 hu1)
    | fail)
  have B1 := hide hb1
  have BD1 : Hid (Blk w1 D 50 (WC lo hi A c)) := (HB.out.alloc _).but hu1 (by have := HD.out; omega)
  have L1 : Hid (Below N w w1) := ((Below.refl _ _).alloc (by rw [HN.out]; exact Nat.le_refl _) _).trans (hu1.below (Nat.le_refl _) (by simp [HN.out]))
  clear hb1 hu1 BN hr0
  simp only [Act.put]
  refine wp_region_inv Tryd.mixed (KS (fun i_ => match i_ with | 0 | 4 => .val (.pointer (some ⟨N, 0, none⟩)) | 1 | 5 => .val (.int .i64 (lo : Int)) | 2 => .val (.pointer (some ⟨N, 1, none⟩)) | 3 => .val (.int .i64 (hi : Int)) | 6 => .val (.int .i64 ((hi : Int) - (lo : Int))) | 7 => .val (.int .i64 (s : Int)) | 8 | 9 => .val (.int .i64 (h : Int)) | _ => .free)) 67 rfl (by decide +kernel) (KS_mono _) ?_ ?_
  · refine AllFrom.cons (fun a' w' hg hk hd => ?_) (AllFrom.cons (fun a' w' hg hk hd => ?_) (AllFrom.cons (fun a' w' hg hk hd => ?_) (AllFrom.cons (fun a' w' hg hk hd => ?_) (AllFrom.cons (fun a' w' hg hk hd => ?_) (AllFrom.cons (fun a' w' hg hk hd => ?_) (AllFrom.cons (fun a' w' hg hk hd => ?_) (AllFrom.cons (fun a' w' hg hk hd => ?_) (AllFrom.cons (fun a' w' hg hk hd => ?_) (AllFrom.cons (fun a' w' hg hk hd => ?_) AllFrom.nil)))))))))
    · skip
      intro Q
      have e4 : a'.eval (.tmp 4) = .pointer (some ⟨N, 0, none⟩) := hk.at 4 (by decide +kernel)
      clear hd hk
      exact wp_value (.pointer (some ⟨N, 0, none⟩)) (by simp only [execOp, e4]; go_simp) (KS_mkv rfl rfl)
    · skip
      intro Q
      have e12 : a'.eval (.tmp 12) = .pointer (some ⟨N, 0, none⟩) := KS_val (hd.val 0 12 (by decide +kernel)) rfl
      have hc := (B1.out.kept hg).cell (j := 0) rfl
      clear hd hk
      exact wp_value (.int .i64 (lo : Int)) (by simp only [execOp, e12]; go_simp) (KS_mkv rfl rfl)
    · skip
      intro Q
      have e4 : a'.eval (.tmp 4) = .pointer (some ⟨N, 0, none⟩) := hk.at 4 (by decide +kernel)
      clear hd hk
      exact wp_value (.pointer (some ⟨N, 1, none⟩)) (by simp only [execOp, e4]; go_simp) (KS_mkv rfl rfl)
    · skip
      intro Q
      have e14 : a'.eval (.tmp 14) = .pointer (some ⟨N, 1, none⟩) := KS_val (hd.val 2 14 (by decide +kernel)) rfl
      have hc := (B1.out.kept hg).cell (j := 1) rfl
      clear hd hk
      exact wp_value (.int .i64 (hi : Int)) (by simp only [execOp, e14]; go_simp) (KS_mkv rfl rfl)
    · skip
      intro Q
      have e4 : a'.eval (.tmp 4) = .pointer (some ⟨N, 0, none⟩) := hk.at 4 (by decide +kernel)
      clear hd hk
      exact wp_value (.pointer (some ⟨N, 0, none⟩)) (by simp only [execOp, e4]; go_simp) (KS_mkv rfl rfl)
    · skip
      intro Q
      have e16 : a'.eval (.tmp 16) = .pointer (some ⟨N, 0, none⟩) := KS_val (hd.val 4 16 (by decide +kernel)) rfl
      have hc := (B1.out.kept hg).cell (j := 0) rfl
      clear hd hk
      exact wp_value (.int .i64 (lo : Int)) (by simp only [execOp, e16]; go_simp) (KS_mkv rfl rfl)
    · skip
      intro Q
      have e15 : a'.eval (.tmp 15) = .int .i64 (hi : Int) := KS_val (hd.val 3 15 (by decide +kernel)) rfl
      have e17 : a'.eval (.tmp 17) = .int .i64 (lo : Int) := KS_val (hd.val 5 17 (by decide +kernel)) rfl
      clear hd hk
      have hw : IntKind.i64.wrap ((hi : Int) - (lo : Int)) = (hi : Int) - (lo : Int) := wr64 (by omega) (by omega)
      exact wp_value (.int .i64 ((hi : Int) - (lo : Int))) (by simp only [execOp, e15, e17]; go_simp) (KS_mkv rfl rfl)
    · skip
      intro Q
      have e18 : a'.eval (.tmp 18) = .int .i64 ((hi : Int) - (lo : Int)) := KS_val (hd.val 6 18 (by decide +kernel)) rfl
      refine wp_call 44 _ (run_enter 44 _ _ rfl (by kernel_rfl)) ?_
      simp only [List.map_toArray, List.map_nil, List.map_cons, e18]
      refine (CS.out _).mono ?_
      rintro e w5 ⟨rfl, rfl⟩
      exact ⟨_, rfl, KS_mkv rfl rfl, Gr.refl _⟩
    · skip
      intro Q
      have e13 : a'.eval (.tmp 13) = .int .i64 (lo : Int) := KS_val (hd.val 1 13 (by decide +kernel)) rfl
      have e19 : a'.eval (.tmp 19) = .int .i64 (s : Int) := KS_val (hd.val 7 19 (by decide +kernel)) rfl
      clear hd hk
      have hq := hsum
      have hw : IntKind.i64.wrap (h : Int) = (h : Int) := wr64 (by omega) (by omega)
      exact wp_value (.int .i64 (h : Int)) (by simp only [execOp, e13, e19]; go_simp) (KS_mkv rfl rfl)
    · skip
      intro Q
      have e20 : a'.eval (.tmp 20) = .int .i64 (h : Int) := KS_val (hd.val 8 20 (by decide +kernel)) rfl
      exact wp_value _ (by simp only [execOp, e20]; rfl) (KS_mkv rfl rfl)
  intro a' w2 hsz hdf hk hall hg
  have G2 := hide hg
  clear hg
  have e12 : a'.eval (.tmp 12) = .pointer (some ⟨N, 0, none⟩) := KS_val (hall 0 _ 12 rfl rfl) rfl
  have e13 : a'.eval (.tmp 13) = .int .i64 (lo : Int) := KS_val (hall 1 _ 13 rfl rfl) rfl
  have e14 : a'.eval (.tmp 14) = .pointer (some ⟨N, 1, none⟩) := KS_val (hall 2 _ 14 rfl rfl) rfl
  have e15 : a'.eval (.tmp 15) = .int .i64 (hi : Int) := KS_val (hall 3 _ 15 rfl rfl) rfl
  have e16 : a'.eval (.tmp 16) = .pointer (some ⟨N, 0, none⟩) := KS_val (hall 4 _ 16 rfl rfl) rfl
  have e17 : a'.eval (.tmp 17) = .int .i64 (lo : Int) := KS_val (hall 5 _ 17 rfl rfl) rfl
  have e18 : a'.eval (.tmp 18) = .int .i64 ((hi : Int) - (lo : Int)) := KS_val (hall 6 _ 18 rfl rfl) rfl
  have e19 : a'.eval (.tmp 19) = .int .i64 (s : Int) := KS_val (hall 7 _ 19 rfl rfl) rfl
  have e20 : a'.eval (.tmp 20) = .int .i64 (h : Int) := KS_val (hall 8 _ 20 rfl rfl) rfl
  have e5 : a'.eval (.tmp 5) = .int .i64 (h : Int) := KS_val (hall 9 _ 5 rfl rfl) rfl
  have ha := act_puts 67 rfl hsz hdf hk [12, 13, 14, 15, 16, 17, 18, 19, 20, 5] (by decide +kernel)
  simp only [puts, List.foldl_cons, List.foldl_nil, e12, e13, e14, e15, e16, e17, e18, e19, e20, e5] at ha
  simp only [Act.put, List.setIfInBounds_toArray, List.set_cons_succ, List.set_cons_zero] at ha
  clear hall hk hsz hdf e12 e13 e14 e15 e16 e17 e18 e19 e20 e5
  subst ha
  go_upto_region 2 with fail
  refine wp_region_cells Tryd.mixed (KS (fun i_ => match i_ with | 0 => .val (.pointer (some ⟨N, 0, none⟩)) | 1 => .val (.int .i64 (lo : Int)) | 2 | 4 => .val (.int .i64 (h : Int)) | 3 => .val (.agg [.int .i64 (lo : Int), .int .i64 (h : Int)].toArray) | 5 => .val (.pointer (some ⟨N, 1, none⟩)) | 6 => .val (.int .i64 (hi : Int)) | 7 => .val (.agg [.int .i64 (h : Int), .int .i64 (hi : Int)].toArray) | _ => .free)) [⟨8, 6, 10, 45, [.int .i64 0, .int .i64 0], [.int .i64 (lo : Int), .int .i64 (h : Int)]⟩, ⟨9, 7, 11, 45, [.int .i64 0, .int .i64 0], [.int .i64 (h : Int), .int .i64 (hi : Int)]⟩] 67 rfl (by decide +kernel) (KS_mono_val _ (fun i => by split <;> exact fun _ _ _ h => h)) (by intro c hc c' hc' e; simp only [List.mem_cons, List.not_mem_nil, or_false] at hc hc'; rcases hc with rfl | rfl <;> rcases hc' with rfl | rfl <;> first | rfl | (simp at e)) (by intro c hc c' hc' e; simp only [List.mem_cons, List.not_mem_nil, or_false] at hc hc'; rcases hc with rfl | rfl <;> rcases hc' with rfl | rfl <;> first | rfl | (simp at e)) (by intro c hc; simp only [List.mem_cons, List.not_mem_nil, or_false] at hc; rcases hc with rfl | rfl <;> rfl) ?_ ?_
  · refine AllFrom.cons ?_ (AllFrom.cons ?_ (AllFrom.cons ?_ (AllFrom.cons ?_ (AllFrom.cons ?_ (AllFrom.cons ?_ (AllFrom.cons ?_ (AllFrom.cons ?_ (AllFrom.cons ?_ (AllFrom.cons ?_ (AllFrom.cons ?_ (AllFrom.cons ?_ AllFrom.nil)))))))))))
    · skip
      refine .val rfl (notI rfl) (notS rfl) (fun a' w' hb hk hd Q => ?_)
      have e4 : a'.eval (.tmp 4) = .pointer (some ⟨N, 0, none⟩) := hk.at 4 (by decide +kernel)
      clear hd hk
      exact wp_value (.pointer (some ⟨N, 0, none⟩)) (by simp only [execOp, e4]; go_simp) (KS_mkv rfl rfl)
    · skip
      refine .val rfl (notI rfl) (notS rfl) (fun a' w' hb hk hd Q => ?_)
      have e21 : a'.eval (.tmp 21) = .pointer (some ⟨N, 0, none⟩) := KS_val (hd 0 21 (by decide +kernel) (notI rfl)) rfl
      have hc := (B1.out.kept (Below.trans G2.out (Below.mono hb G2.out.size))).cell (j := 0) rfl
      clear hd hk
      exact wp_value (.int .i64 (lo : Int)) (by simp only [execOp, e21]; go_simp) (KS_mkv rfl rfl)
    · skip
      refine .val rfl (notI rfl) (notS rfl) (fun a' w' hb hk hd Q => ?_)
      have e5 : a'.eval (.tmp 5) = .int .i64 (h : Int) := hk.at 5 (by decide +kernel)
      exact wp_value _ (by simp only [execOp, e5]; rfl) (KS_mkv rfl rfl)
    · skip
      refine .val rfl (notI rfl) (notS rfl) (fun a' w' hb hk hd Q => ?_)
      have e22 : a'.eval (.tmp 22) = .int .i64 (lo : Int) := KS_val (hd 1 22 (by decide +kernel) (notI rfl)) rfl
      have e23 : a'.eval (.tmp 23) = .int .i64 (h : Int) := KS_val (hd 2 23 (by decide +kernel) (notI rfl)) rfl
      clear hd hk
      exact wp_value (.agg [.int .i64 (lo : Int), .int .i64 (h : Int)].toArray) (by simp only [execOp, e22, e23, List.map_toArray, List.map_cons, List.map_nil]; go_simp) (KS_mkv rfl rfl)
    · skip
      refine .val rfl (notI rfl) (notS rfl) (fun a' w' hb hk hd Q => ?_)
      have e5 : a'.eval (.tmp 5) = .int .i64 (h : Int) := hk.at 5 (by decide +kernel)
      exact wp_value _ (by simp only [execOp, e5]; rfl) (KS_mkv rfl rfl)
    · skip
      refine .val rfl (notI rfl) (notS rfl) (fun a' w' hb hk hd Q => ?_)
      have e4 : a'.eval (.tmp 4) = .pointer (some ⟨N, 0, none⟩) := hk.at 4 (by decide +kernel)
      clear hd hk
      exact wp_value (.pointer (some ⟨N, 1, none⟩)) (by simp only [execOp, e4]; go_simp) (KS_mkv rfl rfl)
    · skip
      refine .val rfl (notI rfl) (notS rfl) (fun a' w' hb hk hd Q => ?_)
      have e26 : a'.eval (.tmp 26) = .pointer (some ⟨N, 1, none⟩) := KS_val (hd 5 26 (by decide +kernel) (notI rfl)) rfl
      have hc := (B1.out.kept (Below.trans G2.out (Below.mono hb G2.out.size))).cell (j := 1) rfl
      clear hd hk
      exact wp_value (.int .i64 (hi : Int)) (by simp only [execOp, e26]; go_simp) (KS_mkv rfl rfl)
    · skip
      refine .val rfl (notI rfl) (notS rfl) (fun a' w' hb hk hd Q => ?_)
      have e25 : a'.eval (.tmp 25) = .int .i64 (h : Int) := KS_val (hd 4 25 (by decide +kernel) (notI rfl)) rfl
      have e27 : a'.eval (.tmp 27) = .int .i64 (hi : Int) := KS_val (hd 6 27 (by decide +kernel) (notI rfl)) rfl
      clear hd hk
      exact wp_value (.agg [.int .i64 (h : Int), .int .i64 (hi : Int)].toArray) (by simp only [execOp, e25, e27, List.map_toArray, List.map_cons, List.map_nil]; go_simp) (KS_mkv rfl rfl)
    · skip
      refine .new rfl _ (List.Mem.head _) rfl (notS rfl) rfl (fun a' w' => ?_)
      simp only [execOp]; go_simp
    · skip
      refine .new rfl _ (List.Mem.tail _ (List.Mem.head _)) rfl (notS rfl) rfl (fun a' w' => ?_)
      simp only [execOp]; go_simp
    · skip
      refine .put rfl _ (List.Mem.head _) (notI rfl) rfl rfl (.tmp 24) rfl (by kernel_rfl) (fun a' w' hb hk hd => ?_) rfl Tryd.sizePt (by simp [Value.oneCell'])
      have e24 : a'.eval (.tmp 24) = .agg [.int .i64 (lo : Int), .int .i64 (h : Int)].toArray := KS_val (hd 3 24 (by decide +kernel) (notI rfl)) rfl
      exact e24
    · skip
      refine .put rfl _ (List.Mem.tail _ (List.Mem.head _)) (notI rfl) rfl rfl (.tmp 28) rfl (by kernel_rfl) (fun a' w' hb hk hd => ?_) rfl Tryd.sizePt (by simp [Value.oneCell'])
      have e28 : a'.eval (.tmp 28) = .agg [.int .i64 (h : Int), .int .i64 (hi : Int)].toArray := KS_val (hd 7 28 (by decide +kernel) (notI rfl)) rfl
      exact e28
  intro a' w3 hsz hdf hk hall hb3 hBB
  obtain ⟨BF, hB1, hB2⟩ := hBB
  obtain ⟨E6, hl6, BL⟩ := hB1 _ (List.Mem.head _) (show (8 : Nat) < 12 by decide) (show (10 : Nat) < 12 by decide)
  obtain ⟨E7, hl7, BR⟩ := hB1 _ (List.Mem.tail _ (List.Mem.head _)) (show (9 : Nat) < 12 by decide) (show (11 : Nat) < 12 by decide)
  simp only at E6 E7 hl6 hl7 BL BR
  clear hB1 hB2
  generalize BF 8 = bl at E6 hl6 BL
  generalize BF 9 = br at E7 hl7 BR
  have e21 : a'.eval (.tmp 21) = .pointer (some ⟨N, 0, none⟩) := KS_val (hall 0 _ 21 rfl (notI rfl) rfl) rfl
  have e22 : a'.eval (.tmp 22) = .int .i64 (lo : Int) := KS_val (hall 1 _ 22 rfl (notI rfl) rfl) rfl
  have e23 : a'.eval (.tmp 23) = .int .i64 (h : Int) := KS_val (hall 2 _ 23 rfl (notI rfl) rfl) rfl
  have e24 : a'.eval (.tmp 24) = .agg [.int .i64 (lo : Int), .int .i64 (h : Int)].toArray := KS_val (hall 3 _ 24 rfl (notI rfl) rfl) rfl
  have e25 : a'.eval (.tmp 25) = .int .i64 (h : Int) := KS_val (hall 4 _ 25 rfl (notI rfl) rfl) rfl
  have e26 : a'.eval (.tmp 26) = .pointer (some ⟨N, 1, none⟩) := KS_val (hall 5 _ 26 rfl (notI rfl) rfl) rfl
  have e27 : a'.eval (.tmp 27) = .int .i64 (hi : Int) := KS_val (hall 6 _ 27 rfl (notI rfl) rfl) rfl
  have e28 : a'.eval (.tmp 28) = .agg [.int .i64 (h : Int), .int .i64 (hi : Int)].toArray := KS_val (hall 7 _ 28 rfl (notI rfl) rfl) rfl
  have ha := act_puts 67 rfl hsz hdf hk [21, 22, 23, 24, 25, 26, 27, 28, 6, 7] (by decide +kernel)
  simp only [puts, List.foldl_cons, List.foldl_nil, e21, e22, e23, e24, e25, e26, e27, e28, E6, E7] at ha
  simp only [Act.put, List.setIfInBounds_toArray, List.set_cons_succ, List.set_cons_zero] at ha
  clear hall hk hsz hdf e21 e22 e23 e24 e25 e26 e27 e28 E6 E7
  subst ha
  have BL3 := hide BL
  have BR3 := hide BR
  have hDw : D < w1.heap.size := BD1.out.lt
  have hl1 := G2.out.size
  have BD3 : Hid (Blk w3 D 50 (WC lo hi A c)) := (BD1.out.kept G2.out).kept hb3
  have L3 : Hid (Below N w w3) := (L1.out.trans (G2.out.mono (Nat.le_of_lt B1.out.lt))).trans (hb3.mono (Nat.le_trans (Nat.le_of_lt B1.out.lt) hl1))
  have HBL : Hid (D < bl ∧ D < br) := ⟨by omega, by omega⟩
  clear BL BR hb3 hl6 hl7 hDw hl1

  by_cases hih : i < h
  · have q1 : (i : Int) < (h : Int) := by omega
    go_upto_region 4 with fail
    refine wp_region_pivots Tryd.mixed (fun i_ => match i_ with | 0 | 1 | 2 | 3 | 9 | 10 | 12 => .pointer (some ⟨D, 0, none⟩) | 4 => .pointer (some ⟨D, 194, none⟩) | 5 => .int .i64 (c : Int) | 6 => .agg [.int .i64 (lo : Int), .int .i64 (h : Int)].toArray | 7 => .agg [.int .i64 (h : Int), .int .i64 (hi : Int)].toArray | 8 => .agg #[.int .i64 (h : Int), .int .i64 (hi : Int), .bool false] | 11 => undef | 13 => .pointer (some ⟨D, 2, none⟩) | 14 => .pointer (some ⟨D, 2 + c * 3, none⟩) | _ => undef) (fun b_ w' => Blk w' D 50 (WC (if b_ = true then lo else lo) (if b_ = true then h else hi) A c) ∧ Chg (fun k => k = D) w3 w') 11 67 rfl (by decide +kernel) 15 (by decide) (by decide) (by decide +kernel) ?_ ?_ ?_
    · intro w' hh hg
      exact ⟨BD3.out.kept hg, Chg.of_below hg⟩
    · refine AllFrom.cons ⟨rfl, ?_, ?_⟩ (AllFrom.cons ⟨rfl, ?_, ?_⟩ (AllFrom.cons ⟨rfl, ?_, ?_⟩ (AllFrom.cons ⟨rfl, ?_, ?_⟩ (AllFrom.cons ⟨rfl, ?_, ?_⟩ (AllFrom.cons ⟨rfl, ?_, ?_⟩ (AllFrom.cons ⟨rfl, ?_, ?_⟩ (AllFrom.cons ⟨rfl, ?_, ?_⟩ (AllFrom.cons ⟨rfl, ?_, ?_⟩ (AllFrom.cons ⟨rfl, ?_, ?_⟩ (AllFrom.cons ⟨rfl, ?_, ?_⟩ (AllFrom.cons ⟨rfl, ?_, ?_⟩ (AllFrom.cons ⟨rfl, ?_, ?_⟩ (AllFrom.cons ⟨rfl, ?_, ?_⟩ (AllFrom.cons ⟨rfl, ?_, ?_⟩ AllFrom.nil))))))))))))))
      · intro _ a' b' w' hC hk hd
        have e0 : a'.eval (.tmp 0) = .pointer (some ⟨D, 0, none⟩) := hk.at 0 (by decide +kernel)
        simp only [execOp, e0]
        rfl
      · exact fun e => absurd e (by decide)
      · intro _ a' b' w' hC hk hd
        have e0 : a'.eval (.tmp 0) = .pointer (some ⟨D, 0, none⟩) := hk.at 0 (by decide +kernel)
        simp only [execOp, e0]
        rfl
      · exact fun e => absurd e (by decide)
      · intro _ a' b' w' hC hk hd
        have e0 : a'.eval (.tmp 0) = .pointer (some ⟨D, 0, none⟩) := hk.at 0 (by decide +kernel)
        simp only [execOp, e0]
        rfl
      · exact fun e => absurd e (by decide)
      · intro _ a' b' w' hC hk hd
        have e34 : a'.eval (.tmp 34) = .pointer (some ⟨D, 0, none⟩) := hd 2 34 (by decide +kernel)
        clear hd hk hC
        simp only [execOp, e34]
        go_simp
      · exact fun e => absurd e (by decide)
      · intro _ a' b' w' hC hk hd
        have e35 : a'.eval (.tmp 35) = .pointer (some ⟨D, 0, none⟩) := hd 3 35 (by decide +kernel)
        clear hd hk hC
        simp only [execOp, e35]
        go_simp
      · exact fun e => absurd e (by decide)
      · intro _ a' b' w' hC hk hd
        have e36 : a'.eval (.tmp 36) = .pointer (some ⟨D, 194, none⟩) := hd 4 36 (by decide +kernel)
        have hcc : w'.cell? ⟨D, 194, none⟩ = some (.int .i64 (c : Int)) := hC.1.cell (WC_count HA.out)
        clear hd hk hC
        simp only [execOp, e36]
        go_simp
      · exact fun e => absurd e (by decide)
      · intro _ a' b' w' hC hk hd
        have e6 : a'.eval (.tmp 6) = .pointer (some ⟨bl, 0, none⟩) := hk.at 6 (by decide +kernel)
        have hr : w'.rangeAt bl 0 [.int .i64 (lo : Int), .int .i64 (h : Int)] := (BL3.out.chg hC.2 (by have := HBL.out; omega)).range0
        simp only [execOp, e6, Instr.loadAt, Instr.sureAddr, Sem.run_bind, Sem.run_pure, Result.andThen_ok, run_loadVar_mid w' bl 0 45 _ _ hr Tryd.underlying45 rfl Tryd.sizePt]
      · exact fun e => absurd e (by decide)
      · intro _ a' b' w' hC hk hd
        have e7 : a'.eval (.tmp 7) = .pointer (some ⟨br, 0, none⟩) := hk.at 7 (by decide +kernel)
        have hr : w'.rangeAt br 0 [.int .i64 (h : Int), .int .i64 (hi : Int)] := (BR3.out.chg hC.2 (by have := HBL.out; omega)).range0
        simp only [execOp, e7, Instr.loadAt, Instr.sureAddr, Sem.run_bind, Sem.run_pure, Result.andThen_ok, run_loadVar_mid w' br 0 45 _ _ hr Tryd.underlying45 rfl Tryd.sizePt]
      · exact fun e => absurd e (by decide)
      · intro _ a' b' w' hC hk hd
        have e39 : a'.eval (.tmp 39) = .agg [.int .i64 (h : Int), .int .i64 (hi : Int)].toArray := hd 7 39 (by decide +kernel)
        clear hd hk hC
        simp only [execOp, e39, List.map_toArray, List.map_cons, List.map_nil]
        go_simp
      · exact fun e => absurd e (by decide)
      · intro _ a' b' w' hC hk hd
        have e32 : a'.eval (.tmp 32) = .pointer (some ⟨D, 0, none⟩) := hd 0 32 (by decide +kernel)
        clear hd hk hC
        simp only [execOp, e32]
        go_simp
      · exact fun e => absurd e (by decide)
      · intro _ a' b' w' hC hk hd
        have e41 : a'.eval (.tmp 41) = .pointer (some ⟨D, 0, none⟩) := hd 9 41 (by decide +kernel)
        clear hd hk hC
        simp only [execOp, e41]
        go_simp
      · exact fun e => absurd e (by decide)
      · exact fun e => absurd rfl e
      · refine fun _ => ⟨rfl, fun a' w' hC hk hd Q => ?_⟩
        have e38 : a'.eval (.tmp 38) = .agg [.int .i64 (lo : Int), .int .i64 (h : Int)].toArray := hd 6 38 (by decide +kernel)
        have e42 : a'.eval (.tmp 42) = .pointer (some ⟨D, 0, none⟩) := hd 10 42 (by decide +kernel)
        obtain ⟨hC1, hC2⟩ := hC
        simp only [Bool.false_eq_true, if_false] at hC1
        refine wp_store_over 45 _ _ rfl D 0 (WC lo hi A c) [.int .i64 (lo : Int), .int .i64 (h : Int)] 50 e42 e38 hC1 (by rw [WC_len HA.out]; simp) Tryd.sizePt (by simp [Value.oneCell']) ?_
        intro w4 hb4 hu4
        rw [WC_over0] at hb4
        exact ⟨rfl, by simpa using hb4, hC2.trans (Chg.of_but hu4 rfl)⟩
      · intro _ a' b' w' hC hk hd
        have e33 : a'.eval (.tmp 33) = .pointer (some ⟨D, 0, none⟩) := hd 1 33 (by decide +kernel)
        clear hd hk hC
        simp only [execOp, e33]
        go_simp
      · exact fun e => absurd e (by decide)
      · intro _ a' b' w' hC hk hd
        have e43 : a'.eval (.tmp 43) = .pointer (some ⟨D, 0, none⟩) := hd 12 43 (by decide +kernel)
        clear hd hk hC
        simp only [execOp, e43]
        go_simp
      · exact fun e => absurd e (by decide)
      · intro _ a' b' w' hC hk hd
        have e37 : a'.eval (.tmp 37) = .int .i64 (c : Int) := hd 5 37 (by decide +kernel)
        have e44 : a'.eval (.tmp 44) = .pointer (some ⟨D, 2, none⟩) := hd 13 44 (by decide +kernel)
        have hci : (c : Int) < 64 := by omega
        clear hd hk hC
        simp only [execOp, e37, e44]
        go_simp
      · exact fun e => absurd e (by decide)
    · intro a' w4 hsz hdf hk hall hC
      have e32 : a'.eval (.tmp 32) = .pointer (some ⟨D, 0, none⟩) := hall 0 _ 32 (by decide) rfl rfl
      have e33 : a'.eval (.tmp 33) = .pointer (some ⟨D, 0, none⟩) := hall 1 _ 33 (by decide) rfl rfl
      have e34 : a'.eval (.tmp 34) = .pointer (some ⟨D, 0, none⟩) := hall 2 _ 34 (by decide) rfl rfl
      have e35 : a'.eval (.tmp 35) = .pointer (some ⟨D, 0, none⟩) := hall 3 _ 35 (by decide) rfl rfl
      have e36 : a'.eval (.tmp 36) = .pointer (some ⟨D, 194, none⟩) := hall 4 _ 36 (by decide) rfl rfl
      have e37 : a'.eval (.tmp 37) = .int .i64 (c : Int) := hall 5 _ 37 (by decide) rfl rfl
      have e38 : a'.eval (.tmp 38) = .agg [.int .i64 (lo : Int), .int .i64 (h : Int)].toArray := hall 6 _ 38 (by decide) rfl rfl
      have e39 : a'.eval (.tmp 39) = .agg [.int .i64 (h : Int), .int .i64 (hi : Int)].toArray := hall 7 _ 39 (by decide) rfl rfl
      have e40 : a'.eval (.tmp 40) = .agg #[.int .i64 (h : Int), .int .i64 (hi : Int), .bool false] := hall 8 _ 40 (by decide) rfl rfl
      have e41 : a'.eval (.tmp 41) = .pointer (some ⟨D, 0, none⟩) := hall 9 _ 41 (by decide) rfl rfl
      have e42 : a'.eval (.tmp 42) = .pointer (some ⟨D, 0, none⟩) := hall 10 _ 42 (by decide) rfl rfl
      have e43 : a'.eval (.tmp 43) = .pointer (some ⟨D, 0, none⟩) := hall 12 _ 43 (by decide) rfl rfl
      have e44 : a'.eval (.tmp 44) = .pointer (some ⟨D, 2, none⟩) := hall 13 _ 44 (by decide) rfl rfl
      have e45 : a'.eval (.tmp 45) = .pointer (some ⟨D, 2 + c * 3, none⟩) := hall 14 _ 45 (by decide) rfl rfl
      obtain ⟨hC1, hC2⟩ := hC
      simp only [if_true] at hC1
      refine ⟨rfl, wp_store_over 47 _ _ rfl D (2 + c * 3) (WC lo h A c) (TE.c ⟨h, hi, false⟩) 50 e45 e40 hC1 (by rw [WC_len HA.out]; show 2 + c * 3 + 3 ≤ 195; omega) Tryd.sizeTn (TE.one _) ?_⟩
      intro w5 hb5 hu5
      rw [WC_over1 _ HA.out hc] at hb5
      refine ⟨undef, rfl, ?_⟩
      show Exit.then _ _ Exit.normal (a'.put none undef) w5
      have HC5 : Hid (Chg (fun k => k = D) w w5) := (Chg.of_below (by rw [HN.out]; exact L3.out)).trans (hC2.trans (Chg.of_but hu5 rfl))
      have HB5 := hide hb5
      have ha := act_puts 67 rfl hsz hdf hk [32, 33, 34, 35, 36, 37, 38, 39, 40, 41, 42, 43, 44, 45] (by decide +kernel)
      simp only [puts, List.foldl_cons, List.foldl_nil, e32, e33, e34, e35, e36, e37, e38, e39, e40, e41, e42, e43, e44, e45] at ha
      simp only [Act.put, List.setIfInBounds_toArray, List.set_cons_succ, List.set_cons_zero] at ha
      clear hall hk hsz hdf e32 e33 e34 e35 e36 e37 e38 e39 e40 e41 e42 e43 e44 e45 hC1 hC2 hu5
      subst ha
      simp only [Act.put]
      have hA2 : (A.set c (⟨h, hi, false⟩ : Tn)).length = 64 := by rw [List.length_set]; exact HA.out
      have hcc : w5.cell? ⟨D, 194, none⟩ = some (.int .i64 (c : Int)) := HB5.out.cell (WC_count hA2)
      have HA2 := hide hA2
      clear hA2 hb5
      have hfz := HB5.out.frozen 194
      go_wp2
      refine bodyPost_end (results_none rfl _ _ _) rfl ?_
      refine ⟨⟨_, rfl⟩, HC5.out.trans (Chg.setCell (F := fun k => k = D) _ rfl _ _), ?_⟩
      have := HB5.out.set 194 (.int .i64 ((c + 1 : Nat) : Int))
      rw [WC_set HA2.out] at this
      simpa using this
  · have q1 : ¬ (i : Int) < (h : Int) := by omega
    go_upto_region 5 with fail
    refine wp_region_pivots Tryd.mixed (fun i_ => match i_ with | 0 | 1 | 2 | 3 | 9 | 10 | 12 => .pointer (some ⟨D, 0, none⟩) | 4 => .pointer (some ⟨D, 194, none⟩) | 5 => .int .i64 (c : Int) | 6 => .agg [.int .i64 (h : Int), .int .i64 (hi : Int)].toArray | 7 => .agg [.int .i64 (lo : Int), .int .i64 (h : Int)].toArray | 8 => .agg #[.int .i64 (lo : Int), .int .i64 (h : Int), .bool true] | 11 => undef | 13 => .pointer (some ⟨D, 2, none⟩) | 14 => .pointer (some ⟨D, 2 + c * 3, none⟩) | _ => undef) (fun b_ w' => Blk w' D 50 (WC (if b_ = true then h else lo) (if b_ = true then hi else hi) A c) ∧ Chg (fun k => k = D) w3 w') 11 67 rfl (by decide +kernel) 15 (by decide) (by decide) (by decide +kernel) ?_ ?_ ?_
    · intro w' hh hg
      exact ⟨BD3.out.kept hg, Chg.of_below hg⟩
    · refine AllFrom.cons ⟨rfl, ?_, ?_⟩ (AllFrom.cons ⟨rfl, ?_, ?_⟩ (AllFrom.cons ⟨rfl, ?_, ?_⟩ (AllFrom.cons ⟨rfl, ?_, ?_⟩ (AllFrom.cons ⟨rfl, ?_, ?_⟩ (AllFrom.cons ⟨rfl, ?_, ?_⟩ (AllFrom.cons ⟨rfl, ?_, ?_⟩ (AllFrom.cons ⟨rfl, ?_, ?_⟩ (AllFrom.cons ⟨rfl, ?_, ?_⟩ (AllFrom.cons ⟨rfl, ?_, ?_⟩ (AllFrom.cons ⟨rfl, ?_, ?_⟩ (AllFrom.cons ⟨rfl, ?_, ?_⟩ (AllFrom.cons ⟨rfl, ?_, ?_⟩ (AllFrom.cons ⟨rfl, ?_, ?_⟩ (AllFrom.cons ⟨rfl, ?_, ?_⟩ AllFrom.nil))))))))))))))
      · intro _ a' b' w' hC hk hd
        have e0 : a'.eval (.tmp 0) = .pointer (some ⟨D, 0, none⟩) := hk.at 0 (by decide +kernel)
        simp only [execOp, e0]
        rfl
      · exact fun e => absurd e (by decide)
      · intro _ a' b' w' hC hk hd
        have e0 : a'.eval (.tmp 0) = .pointer (some ⟨D, 0, none⟩) := hk.at 0 (by decide +kernel)
        simp only [execOp, e0]
        rfl
      · exact fun e => absurd e (by decide)
      · intro _ a' b' w' hC hk hd
        have e0 : a'.eval (.tmp 0) = .pointer (some ⟨D, 0, none⟩) := hk.at 0 (by decide +kernel)
        simp only [execOp, e0]
        rfl
      · exact fun e => absurd e (by decide)
      · intro _ a' b' w' hC hk hd
        have e48 : a'.eval (.tmp 48) = .pointer (some ⟨D, 0, none⟩) := hd 2 48 (by decide +kernel)
        clear hd hk hC
        simp only [execOp, e48]
        go_simp
      · exact fun e => absurd e (by decide)
      · intro _ a' b' w' hC hk hd
        have e49 : a'.eval (.tmp 49) = .pointer (some ⟨D, 0, none⟩) := hd 3 49 (by decide +kernel)
        clear hd hk hC
        simp only [execOp, e49]
        go_simp
      · exact fun e => absurd e (by decide)
      · intro _ a' b' w' hC hk hd
        have e50 : a'.eval (.tmp 50) = .pointer (some ⟨D, 194, none⟩) := hd 4 50 (by decide +kernel)
        have hcc : w'.cell? ⟨D, 194, none⟩ = some (.int .i64 (c : Int)) := hC.1.cell (WC_count HA.out)
        clear hd hk hC
        simp only [execOp, e50]
        go_simp
      · exact fun e => absurd e (by decide)
      · intro _ a' b' w' hC hk hd
        have e7 : a'.eval (.tmp 7) = .pointer (some ⟨br, 0, none⟩) := hk.at 7 (by decide +kernel)
        have hr : w'.rangeAt br 0 [.int .i64 (h : Int), .int .i64 (hi : Int)] := (BR3.out.chg hC.2 (by have := HBL.out; omega)).range0
        simp only [execOp, e7, Instr.loadAt, Instr.sureAddr, Sem.run_bind, Sem.run_pure, Result.andThen_ok, run_loadVar_mid w' br 0 45 _ _ hr Tryd.underlying45 rfl Tryd.sizePt]
      · exact fun e => absurd e (by decide)
      · intro _ a' b' w' hC hk hd
        have e6 : a'.eval (.tmp 6) = .pointer (some ⟨bl, 0, none⟩) := hk.at 6 (by decide +kernel)
        have hr : w'.rangeAt bl 0 [.int .i64 (lo : Int), .int .i64 (h : Int)] := (BL3.out.chg hC.2 (by have := HBL.out; omega)).range0
        simp only [execOp, e6, Instr.loadAt, Instr.sureAddr, Sem.run_bind, Sem.run_pure, Result.andThen_ok, run_loadVar_mid w' bl 0 45 _ _ hr Tryd.underlying45 rfl Tryd.sizePt]
      · exact fun e => absurd e (by decide)
      · intro _ a' b' w' hC hk hd
        have e53 : a'.eval (.tmp 53) = .agg [.int .i64 (lo : Int), .int .i64 (h : Int)].toArray := hd 7 53 (by decide +kernel)
        clear hd hk hC
        simp only [execOp, e53, List.map_toArray, List.map_cons, List.map_nil]
        go_simp
      · exact fun e => absurd e (by decide)
      · intro _ a' b' w' hC hk hd
        have e46 : a'.eval (.tmp 46) = .pointer (some ⟨D, 0, none⟩) := hd 0 46 (by decide +kernel)
        clear hd hk hC
        simp only [execOp, e46]
        go_simp
      · exact fun e => absurd e (by decide)
      · intro _ a' b' w' hC hk hd
        have e55 : a'.eval (.tmp 55) = .pointer (some ⟨D, 0, none⟩) := hd 9 55 (by decide +kernel)
        clear hd hk hC
        simp only [execOp, e55]
        go_simp
      · exact fun e => absurd e (by decide)
      · exact fun e => absurd rfl e
      · refine fun _ => ⟨rfl, fun a' w' hC hk hd Q => ?_⟩
        have e52 : a'.eval (.tmp 52) = .agg [.int .i64 (h : Int), .int .i64 (hi : Int)].toArray := hd 6 52 (by decide +kernel)
        have e56 : a'.eval (.tmp 56) = .pointer (some ⟨D, 0, none⟩) := hd 10 56 (by decide +kernel)
        obtain ⟨hC1, hC2⟩ := hC
        simp only [Bool.false_eq_true, if_false] at hC1
        refine wp_store_over 45 _ _ rfl D 0 (WC lo hi A c) [.int .i64 (h : Int), .int .i64 (hi : Int)] 50 e56 e52 hC1 (by rw [WC_len HA.out]; simp) Tryd.sizePt (by simp [Value.oneCell']) ?_
        intro w4 hb4 hu4
        rw [WC_over0] at hb4
        exact ⟨rfl, by simpa using hb4, hC2.trans (Chg.of_but hu4 rfl)⟩
      · intro _ a' b' w' hC hk hd
        have e47 : a'.eval (.tmp 47) = .pointer (some ⟨D, 0, none⟩) := hd 1 47 (by decide +kernel)
        clear hd hk hC
        simp only [execOp, e47]
        go_simp
      · exact fun e => absurd e (by decide)
      · intro _ a' b' w' hC hk hd
        have e57 : a'.eval (.tmp 57) = .pointer (some ⟨D, 0, none⟩) := hd 12 57 (by decide +kernel)
        clear hd hk hC
        simp only [execOp, e57]
        go_simp
      · exact fun e => absurd e (by decide)
      · intro _ a' b' w' hC hk hd
        have e51 : a'.eval (.tmp 51) = .int .i64 (c : Int) := hd 5 51 (by decide +kernel)
        have e58 : a'.eval (.tmp 58) = .pointer (some ⟨D, 2, none⟩) := hd 13 58 (by decide +kernel)
        have hci : (c : Int) < 64 := by omega
        clear hd hk hC
        simp only [execOp, e51, e58]
        go_simp
      · exact fun e => absurd e (by decide)
    · intro a' w4 hsz hdf hk hall hC
      have e46 : a'.eval (.tmp 46) = .pointer (some ⟨D, 0, none⟩) := hall 0 _ 46 (by decide) rfl rfl
      have e47 : a'.eval (.tmp 47) = .pointer (some ⟨D, 0, none⟩) := hall 1 _ 47 (by decide) rfl rfl
      have e48 : a'.eval (.tmp 48) = .pointer (some ⟨D, 0, none⟩) := hall 2 _ 48 (by decide) rfl rfl
      have e49 : a'.eval (.tmp 49) = .pointer (some ⟨D, 0, none⟩) := hall 3 _ 49 (by decide) rfl rfl
      have e50 : a'.eval (.tmp 50) = .pointer (some ⟨D, 194, none⟩) := hall 4 _ 50 (by decide) rfl rfl
      have e51 : a'.eval (.tmp 51) = .int .i64 (c : Int) := hall 5 _ 51 (by decide) rfl rfl
      have e52 : a'.eval (.tmp 52) = .agg [.int .i64 (h : Int), .int .i64 (hi : Int)].toArray := hall 6 _ 52 (by decide) rfl rfl
      have e53 : a'.eval (.tmp 53) = .agg [.int .i64 (lo : Int), .int .i64 (h : Int)].toArray := hall 7 _ 53 (by decide) rfl rfl
      have e54 : a'.eval (.tmp 54) = .agg #[.int .i64 (lo : Int), .int .i64 (h : Int), .bool true] := hall 8 _ 54 (by decide) rfl rfl
      have e55 : a'.eval (.tmp 55) = .pointer (some ⟨D, 0, none⟩) := hall 9 _ 55 (by decide) rfl rfl
      have e56 : a'.eval (.tmp 56) = .pointer (some ⟨D, 0, none⟩) := hall 10 _ 56 (by decide) rfl rfl
      have e57 : a'.eval (.tmp 57) = .pointer (some ⟨D, 0, none⟩) := hall 12 _ 57 (by decide) rfl rfl
      have e58 : a'.eval (.tmp 58) = .pointer (some ⟨D, 2, none⟩) := hall 13 _ 58 (by decide) rfl rfl
      have e59 : a'.eval (.tmp 59) = .pointer (some ⟨D, 2 + c * 3, none⟩) := hall 14 _ 59 (by decide) rfl rfl
      obtain ⟨hC1, hC2⟩ := hC
      simp only [if_true] at hC1
      refine ⟨rfl, wp_store_over 47 _ _ rfl D (2 + c * 3) (WC h hi A c) (TE.c ⟨lo, h, true⟩) 50 e59 e54 hC1 (by rw [WC_len HA.out]; show 2 + c * 3 + 3 ≤ 195; omega) Tryd.sizeTn (TE.one _) ?_⟩
      intro w5 hb5 hu5
      rw [WC_over1 _ HA.out hc] at hb5
      refine ⟨undef, rfl, ?_⟩
      show Exit.then _ _ Exit.normal (a'.put none undef) w5
      have HC5 : Hid (Chg (fun k => k = D) w w5) := (Chg.of_below (by rw [HN.out]; exact L3.out)).trans (hC2.trans (Chg.of_but hu5 rfl))
      have HB5 := hide hb5
      have ha := act_puts 67 rfl hsz hdf hk [46, 47, 48, 49, 50, 51, 52, 53, 54, 55, 56, 57, 58, 59] (by decide +kernel)
      simp only [puts, List.foldl_cons, List.foldl_nil, e46, e47, e48, e49, e50, e51, e52, e53, e54, e55, e56, e57, e58, e59] at ha
      simp only [Act.put, List.setIfInBounds_toArray, List.set_cons_succ, List.set_cons_zero] at ha
      clear hall hk hsz hdf e46 e47 e48 e49 e50 e51 e52 e53 e54 e55 e56 e57 e58 e59 hC1 hC2 hu5
      subst ha
      simp only [Act.put]
      have hA2 : (A.set c (⟨lo, h, true⟩ : Tn)).length = 64 := by rw [List.length_set]; exact HA.out
      have hcc : w5.cell? ⟨D, 194, none⟩ = some (.int .i64 (c : Int)) := HB5.out.cell (WC_count hA2)
      have HA2 := hide hA2
      clear hA2 hb5
      have hfz := HB5.out.frozen 194
      go_wp2
      refine bodyPost_end (results_none rfl _ _ _) rfl ?_
      refine ⟨⟨_, rfl⟩, HC5.out.trans (Chg.setCell (F := fun k => k = D) _ rfl _ _), ?_⟩
      have := HB5.out.set 194 (.int .i64 ((c + 1 : Nat) : Int))
      rw [WC_set HA2.out] at this
      simpa using this
#print axioms lengthen_any
end Go.Proofs.YtfclmjfbcmjfbaaDoor

/-
  proof.wayFrom: what the call does.
-/
namespace Go.Proofs.YtfclmjfbcmjfbaaDoor
open Go.RowKit
def Tz : Tn := ⟨0, 0, false⟩
def Wz : List Value := WC 0 0 (List.replicate 64 Tz) 0
theorem zeroW (W : World) : (zeroValue 50).run Tryd.prog W = .ok (.agg Wz.toArray) W := by kernel_rfl
theorem Tryd.sizeW : (Tryd.prog.info? 50).map (·.size) = some 195 := by kernel_rfl
theorem WC_one (lo hi c : Nat) (A : List Tn) : ∀ u ∈ WC lo hi A c, u.oneCell' = true := by
  intro u hu
  unfold WC at hu
  rw [List.mem_append, List.mem_append] at hu
  rcases hu with (hu | hu) | hu
  · simp at hu; rcases hu with rfl | rfl <;> rfl
  · exact Enc.cs_one A u hu
  · simp at hu; subst hu; rfl
theorem take_set_snoc {α : Type} (A : List α) {c : Nat} (t : α) (h : c < A.length) : (A.set c t).take (c + 1) = A.take c ++ [t] := by
  rw [List.take_add_one, List.take_set_of_le (Nat.le_refl _), List.getElem?_set_self h]
  rfl
set_option maxHeartbeats 4000000 in
set_option maxRecDepth 100000 in
theorem wayFrom_any (n i : Nat) (al : Bool) (hi : i < n) (hn : n ≤ 1099511627776) (w : World) :
    Calls Tryd.prog 24 #[.int .i64 (n : Int), .int .i64 (i : Int), .bool al] w fun e w' => (∃ A, e = .returned (.agg (WC (wayP 40 0 n i al).2.1 (wayP 40 0 n i al).2.2 A (wayP 40 0 n i al).1.length).toArray) ∧ A.length = 64 ∧ A.take (wayP 40 0 n i al).1.length = (wayP 40 0 n i al).1) ∧ Below w.heap.size w w' := by
  obtain ⟨N, HN⟩ : ∃ N, Hid (w.heap.size = N) := ⟨_, rfl⟩
  obtain ⟨T, HTw⟩ : ∃ T, Hid (wayP 40 0 n i al = T) := ⟨_, rfl⟩
  rw [HTw.out]
  have hz := zeroW
  obtain ⟨Z, HZ⟩ : ∃ Z, Hid (Wz = Z) := ⟨_, rfl⟩
  rw [HZ.out] at hz
  have hzl : Z.length = 195 := by rw [← HZ.out]; rfl
  have hze : ¬ Z = [] := fun h => by rw [h] at hzl; simp at hzl
  go_enter Tryd.func24, Tryd.ntmps24
  go_upto_region 1 with fail
  obtain ⟨w0, hw0⟩ : ∃ z, z = w.alloc (.cells Z.toArray 50 (0, 0)) := ⟨_, rfl⟩
  change Code.wp _ _ _ _ (w.alloc (.cells Z.toArray 50 (0, 0)))
  rw [← hw0, HN.out]
  have B0 : Hid (Blk w0 N 50 Z) := (show Blk _ _ _ _ by rw [hw0, ← HN.out]; exact Blk.new w 50 Z)
  have L0 : Hid (Below N w w0) := (show Below _ _ _ by rw [hw0]; exact (Below.refl _ _).alloc (by rw [HN.out]; exact Nat.le_refl _) _)
  have S0 : Hid (w0.heap.size = N + 1) := (show _ = _ by rw [hw0]; simp [HN.out])
  clear hw0
  obtain ⟨Y, HY⟩ : ∃ Y, Hid (WC 0 n (List.replicate 64 Tz) 0 = Y) := ⟨_, rfl⟩
  have hyl : Y.length = 195 := by rw [← HY.out]; exact WC_len (by simp)
  have HYO : Hid (∀ u ∈ Y, u.oneCell' = true) := (show _ by rw [← HY.out]; exact WC_one _ _ _ _)
  have BN := Blk.new w0 50 Z
  rw [S0.out] at BN
  go_wp2_with (first
    | (refine wpList_build rfl 50 _ rfl (.agg Y.toArray) (by rw [← HY.out]; kernel_rfl) ?_)
    | (rw [S0.out]; refine wpList_store_blk rfl 50 _ _ rfl (N + 1) Z Y 50 rfl rfl BN (by rw [hyl, hzl]) (by rw [hyl]; exact Tryd.sizeW) HYO.out ?_; intro w1 hb1 hu1)
    | fail)
  have B1 : Hid (Blk w1 (N + 1) 50 (WC 0 n (List.replicate 64 Tz) 0)) := (show Blk _ _ _ _ by rw [HY.out]; exact hb1)
  have C1 : Hid (Blk w1 N 50 Z) := (B0.out.alloc _).but hu1 (by omega)
  have L1 : Hid (Below N w w1) := (L0.out.trans ((Below.refl _ _).alloc (by rw [S0.out]; omega) _)).trans (hu1.below (by omega) (by simp [S0.out]; omega))
  clear hb1 hu1 BN hyl
  simp only [Act.put]
  go_loopg [] 41 (fun g wr => ∃ (lo h c : Nat) (A : List Tn), g + c = 41 ∧ lo ≤ i ∧ i < h ∧ h ≤ n ∧ c ≤ 40 ∧ Hid (h - lo ≤ 2 ^ (40 - c)) ∧ Hid (A.length = 64) ∧ Hid (T = (A.take c ++ (wayP (40 - c) lo h i al).1, (wayP (40 - c) lo h i al).2)) ∧ Hid (Blk wr (N + 1) 50 (WC lo h A c)) ∧ Hid (Blk wr N 50 Z) ∧ Hid (Below N w wr))
  case atStart => exact ⟨0, n, 0, List.replicate 64 Tz, rfl, Nat.zero_le _, hi, Nat.le_refl _, by omega, (show n - 0 ≤ 2 ^ 40 by simpa using hn), (show _ = _ by simp), (show _ = _ by rw [HTw.out]; simp), B1.out, C1.out, L1.out⟩
  case round =>
    clear B1 C1 L1 B0 L0 S0
    obtain ⟨lo, h, c, A, hg, h1, h2, h3, h4, HS, HA, HT2, B1, C1, L1⟩ := hrel
    have c0 : wr.cell? ⟨N + 1, 0, none⟩ = some (.int .i64 (lo : Int)) := B1.out.cell (j := 0) rfl
    have c1 : wr.cell? ⟨N + 1, 1, none⟩ = some (.int .i64 (h : Int)) := B1.out.cell (j := 1) rfl
    by_cases hc : i < h - 1 ∨ (al = true ∧ lo < i)
    · obtain ⟨k2, kp, kl, kg⟩ := cut_facts h1 h2 hc
      obtain ⟨d, hd⟩ := pow_two_pos k2 HS.out
      have hs2 := HS.out
      rw [hd] at hs2
      have ks := spl_le k2 hs2
      have HD := hide hd
      have HCC := hide hc
      clear hs2
      by_cases ha : i < h - 1
      · have q1 : (i : Int) < (h : Int) - 1 := by omega
        clear hc ha hd
        go_wp2_with fail
        refine (lengthen_any (N + 1) lo h c i (lo + spl (h - lo)) (spl (h - lo)) A HA.out (by omega) h1 h2 (by omega) rfl rfl kl wr B1.out).mono ?_
        rintro e w2 ⟨⟨v, rfl⟩, hc2, hb2⟩
        have HC2 := hide hc2
        have HB2 := hide hb2
        clear hc2 hb2 c0 c1
        go_wp2_with fail
        go_roundg (gk - 1)
        case measure => omega
        case rel =>
          have hd := HD.out
          have C2 : Blk w2 N 50 Z := C1.out.chg HC2.out (by omega)
          have L2 : Below N w w2 := L1.out.trans (HC2.out.below (by have := C1.out.lt; omega) (fun k hk e => by omega))
          by_cases hi2 : i < lo + spl (h - lo)
          · refine ⟨lo, lo + spl (h - lo), c + 1, A.set c ⟨lo + spl (h - lo), h, false⟩, by omega, h1, hi2, by omega, by omega, (show lo + spl (h - lo) - lo ≤ _ by rw [Nat.add_sub_cancel_left, show 40 - (c + 1) = d by omega]; exact ks), (show _ = _ by rw [List.length_set]; exact HA.out), (show _ = _ by
              rw [HT2.out, HD.out, way_left (by simpa using HCC.out) hi2, show 40 - (c + 1) = d by omega, take_set_snoc _ _ (by rw [HA.out]; omega)]
              simp), ?_, C2, L2⟩
            have := HB2.out
            rwa [if_pos hi2] at this
          · refine ⟨lo + spl (h - lo), h, c + 1, A.set c ⟨lo, lo + spl (h - lo), true⟩, by omega, by omega, h2, by omega, by omega, (show h - (lo + spl (h - lo)) ≤ _ by rw [show 40 - (c + 1) = d by omega]; omega), (show _ = _ by rw [List.length_set]; exact HA.out), (show _ = _ by
              rw [HT2.out, HD.out, way_right (by simpa using HCC.out) hi2, show 40 - (c + 1) = d by omega, take_set_snoc _ _ (by rw [HA.out]; omega)]
              simp), ?_, C2, L2⟩
            have := HB2.out
            rwa [if_neg hi2] at this
      · have q1 : ¬ (i : Int) < (h : Int) - 1 := by omega
        obtain ⟨rfl, hb⟩ : al = true ∧ lo < i := by rcases hc with h | h; exact absurd h ha; exact h
        have q2 : (lo : Int) < (i : Int) := by omega
        clear hc ha hd
        go_wp2_with fail
        refine (lengthen_any (N + 1) lo h c i (lo + spl (h - lo)) (spl (h - lo)) A HA.out (by omega) h1 h2 (by omega) rfl rfl kl wr B1.out).mono ?_
        rintro e w2 ⟨⟨v, rfl⟩, hc2, hb2⟩
        have HC2 := hide hc2
        have HB2 := hide hb2
        clear hc2 hb2 c0 c1
        go_wp2_with fail
        go_roundg (gk - 1)
        case measure => omega
        case rel =>
          have hd := HD.out
          have C2 : Blk w2 N 50 Z := C1.out.chg HC2.out (by omega)
          have L2 : Below N w w2 := L1.out.trans (HC2.out.below (by have := C1.out.lt; omega) (fun k hk e => by omega))
          by_cases hi2 : i < lo + spl (h - lo)
          · refine ⟨lo, lo + spl (h - lo), c + 1, A.set c ⟨lo + spl (h - lo), h, false⟩, by omega, h1, hi2, by omega, by omega, (show lo + spl (h - lo) - lo ≤ _ by rw [Nat.add_sub_cancel_left, show 40 - (c + 1) = d by omega]; exact ks), (show _ = _ by rw [List.length_set]; exact HA.out), (show _ = _ by
              rw [HT2.out, HD.out, way_left (by simpa using HCC.out) hi2, show 40 - (c + 1) = d by omega, take_set_snoc _ _ (by rw [HA.out]; omega)]
              simp), ?_, C2, L2⟩
            have := HB2.out
            rwa [if_pos hi2] at this
          · refine ⟨lo + spl (h - lo), h, c + 1, A.set c ⟨lo, lo + spl (h - lo), true⟩, by omega, by omega, h2, by omega, by omega, (show h - (lo + spl (h - lo)) ≤ _ by rw [show 40 - (c + 1) = d by omega]; omega), (show _ = _ by rw [List.length_set]; exact HA.out), (show _ = _ by
              rw [HT2.out, HD.out, way_right (by simpa using HCC.out) hi2, show 40 - (c + 1) = d by omega, take_set_snoc _ _ (by rw [HA.out]; omega)]
              simp), ?_, C2, L2⟩
            have := HB2.out
            rwa [if_neg hi2] at this
    · have q1 : ¬ (i : Int) < (h : Int) - 1 := by omega
      have HCC := hide hc
      cases al with
      | false =>
        clear hc
        go_wp2_with (first
          | (refine wpList_load_mid rfl 50 _ rfl (N + 1) 0 rfl (WC lo h A c) _ B1.out.range0 Tryd.underlying50 rfl (by rw [WC_len HA.out]; exact Tryd.sizeW) ?_)
          | (refine wpList_store_blk rfl 50 _ _ rfl N Z (WC lo h A c) 50 rfl rfl C1.out (by rw [WC_len HA.out, hzl]) (by rw [WC_len HA.out]; exact Tryd.sizeW) (WC_one _ _ _ _) ?_; intro w2 hb2 hu2)
          | fail)
        have hT : T = (A.take c, lo, h) := by rw [HT2.out, way_stop (by simpa using HCC.out)]; simp
        have hcl : (A.take c).length = c := by rw [List.length_take, HA.out]; omega
        refine bodyPost_ret (results_cell_row rfl _ _ N 50 _ (0, 0) _ rfl hb2 Tryd.underlying50 rfl (by simpa [WC_len HA.out] using Tryd.sizeW)) rfl ⟨⟨A, ?_, HA.out, ?_⟩, ?_⟩
        · rw [hT]; simp only; rw [hcl]
        · rw [hT]; simp only; rw [hcl]
        · rw [HN.out]
          exact L1.out.trans (hu2.below (by omega) (by have := C1.out.lt; omega))
      | true =>
        have q2 : ¬ (lo : Int) < (i : Int) := by simp at hc; omega
        clear hc
        go_wp2_with (first
          | (refine wpList_load_mid rfl 50 _ rfl (N + 1) 0 rfl (WC lo h A c) _ B1.out.range0 Tryd.underlying50 rfl (by rw [WC_len HA.out]; exact Tryd.sizeW) ?_)
          | (refine wpList_store_blk rfl 50 _ _ rfl N Z (WC lo h A c) 50 rfl rfl C1.out (by rw [WC_len HA.out, hzl]) (by rw [WC_len HA.out]; exact Tryd.sizeW) (WC_one _ _ _ _) ?_; intro w2 hb2 hu2)
          | fail)
        have hT : T = (A.take c, lo, h) := by rw [HT2.out, way_stop (by simpa using HCC.out)]; simp
        have hcl : (A.take c).length = c := by rw [List.length_take, HA.out]; omega
        refine bodyPost_ret (results_cell_row rfl _ _ N 50 _ (0, 0) _ rfl hb2 Tryd.underlying50 rfl (by simpa [WC_len HA.out] using Tryd.sizeW)) rfl ⟨⟨A, ?_, HA.out, ?_⟩, ?_⟩
        · rw [hT]; simp only; rw [hcl]
        · rw [hT]; simp only; rw [hcl]
        · rw [HN.out]
          exact L1.out.trans (hu2.below (by omega) (by have := C1.out.lt; omega))
#print axioms wayFrom_any
end Go.Proofs.YtfclmjfbcmjfbaaDoor
