/-
  Texts that ride together: PfL PfF PfU PfV PfA PfO.
-/
import Derived.Test.YtfclmjfbcmjfbabDoorPfW
import Derived.Test.YtfclmjfbcmjfbabDoorRegion10
import Derived.Test.YtfclmjfbcmjfbabDoorGMa
import Derived.Test.YtfclmjfbcmjfbabDoorMtAr
/-
  (*way).lengthen: what the call does.
-/
namespace Go.Proofs.YtfclmjfbcmjfbabDoor
open Go.RowKit
theorem wr64 {x : Int} (h0 : -9223372036854775808 ≤ x) (h1 : x ≤ 9223372036854775807) : IntKind.i64.wrap x = x := by
  rw [IntKind.wrap_i64]
  omega
theorem Tryd.sizePt : (Tryd.prog.info? 30).map (·.size) = some 2 := by kernel_rfl
theorem Tryd.sizeTn : (Tryd.prog.info? 32).map (·.size) = some 3 := by kernel_rfl
/-- Cells over some of a block. -/
theorem wpList_store_over {P : Program} {w : World} {ops : Array Oper} {rest : List Oper} {op : Oper} {a : Act} {Q : Exit → Act → World → Prop} (hgd : op.guard = none) (ty : TypeId) (x y : Operand) (ho : op.op = .store ty x y)
    (b off : Nat) (cs ds : List Value) (T : TypeId) (hx : a.eval x = .pointer (some ⟨b, off, none⟩)) (hy : a.eval y = .agg ds.toArray) (hB : Blk w b T cs) (hl : off + ds.length ≤ cs.length)
    (hi : (P.info? ty).map (·.size) = some ds.length) (h1 : ∀ u ∈ ds, u.oneCell' = true)
    (h : ∀ w', Blk w' b T (over cs off ds) → But b w w' → wpList P ops Q rest (a.put op.dst undef) w') : wpList P ops Q (op :: rest) a w := by
  have t0 := hB.there off ds.length (by omega)
  refine wpList_store_mid hgd ty x y ho b off ds.toArray hx hy (by simpa using t0) (by simpa using hi) (all_one h1) ?_
  exact h _ (Blk.over ds hB off hl) (But.setCells b _ off w)
theorem wp_store_over {P : Program} {w : World} {op : Oper} {a : Act} {K : Act → World → Prop} {Q : Exit → Act → World → Prop} (ty : TypeId) (x y : Operand) (ho : op.op = .store ty x y)
    (b off : Nat) (cs ds : List Value) (T : TypeId) (hx : a.eval x = .pointer (some ⟨b, off, none⟩)) (hy : a.eval y = .agg ds.toArray) (hB : Blk w b T cs) (hl : off + ds.length ≤ cs.length)
    (hi : (P.info? ty).map (·.size) = some ds.length) (h1 : ∀ u ∈ ds, u.oneCell' = true)
    (h : ∀ w', Blk w' b T (over cs off ds) → But b w w' → K (a.put op.dst undef) w') : op.wp P a w K Q := by
  have t0 := hB.there off ds.length (by omega)
  refine wp_store_mid ty x y ho b off ds.toArray hx hy (by simpa using t0) (by simpa using hi) (all_one h1) ?_
  exact h _ (Blk.over ds hB off hl) (But.setCells b _ off w)
theorem WC_range0 {w : World} {D lo hi c : Nat} {A : List Tn} (h : Blk w D 35 (WC lo hi A c)) : w.rangeAt D 0 [.int .i64 (lo : Int), .int .i64 (hi : Int)] :=
  h.range 0 _ (fun j v hj => by
    rw [Nat.zero_add]
    unfold WC
    rw [List.append_assoc, List.getElem?_append_left (List.getElem?_eq_some_iff.1 hj).1]
    exact hj)
theorem WC_over0 {lo hi c lo' hi' : Nat} {A : List Tn} : over (WC lo hi A c) 0 [.int .i64 (lo' : Int), .int .i64 (hi' : Int)] = WC lo' hi' A c := by
  simp [over, WC]
theorem WC_over1 {lo hi c k : Nat} {A : List Tn} (t : Tn) (hA : A.length = 64) (hk : k < 64) : over (WC lo hi A c) (2 + k * 3) (TE.c t) = WC lo hi (A.set k t) c := by
  have hs : A.set k t = A.take k ++ [t] ++ A.drop (k + 1) := by
    rw [List.set_eq_take_append_cons_drop, if_pos (by omega)]
    simp
  unfold over WC
  rw [hs, Enc.cs_append, Enc.cs_append, Enc.cs_one1, Enc.cs_take, Enc.cs_drop]
  have hl : (TE.cs A).length = 192 := by rw [Enc.cs_length, hA]; rfl
  have e3 : TE.n = 3 := rfl
  have e4 : (TE.c t).length = 3 := rfl
  rw [e3, e4]
  have h1 : ([.int .i64 (lo : Int), .int .i64 (hi : Int)] ++ TE.cs A ++ [.int .i64 (c : Int)] : List Value).take (2 + k * 3) = [.int .i64 (lo : Int), .int .i64 (hi : Int)] ++ (TE.cs A).take (k * 3) := by
    rw [List.append_assoc, List.take_append, List.take_of_length_le (by simp), List.take_append_of_le_length (by simp [hl]; omega)]
    simp
  have h2 : ([.int .i64 (lo : Int), .int .i64 (hi : Int)] ++ TE.cs A ++ [.int .i64 (c : Int)] : List Value).drop (2 + k * 3 + 3) = (TE.cs A).drop ((k + 1) * 3) ++ [.int .i64 (c : Int)] := by
    rw [List.append_assoc, List.drop_append, List.drop_of_length_le (by simp), List.drop_append_of_le_length (by simp [hl]; omega)]
    simp [show 2 + k * 3 + 3 - 2 = (k + 1) * 3 by omega]
  rw [h1, h2]
  simp
theorem WC_over2 {lo hi c c' : Nat} {A : List Tn} (hA : A.length = 64) : over (WC lo hi A c) 194 [.int .i64 (c' : Int)] = WC lo hi A c' := by
  have hl : ([.int .i64 (lo : Int), .int .i64 (hi : Int)] ++ TE.cs A : List Value).length = 194 := by rw [List.length_append, Enc.cs_length, hA]; rfl
  unfold over WC
  rw [List.take_append_of_le_length (by omega), List.take_of_length_le (by omega), List.drop_of_length_le (by rw [List.length_append, hl]; simp)]
  simp
theorem WC_set {lo hi c c' : Nat} {A : List Tn} (hA : A.length = 64) : (WC lo hi A c).set 194 (.int .i64 (c' : Int)) = WC lo hi A c' := by
  have hl : ([.int .i64 (lo : Int), .int .i64 (hi : Int)] ++ TE.cs A : List Value).length = 194 := by rw [List.length_append, Enc.cs_length, hA]; rfl
  unfold WC
  rw [List.set_append_right _ _ (by omega), hl]
  rfl
set_option maxHeartbeats 4000000 in
set_option maxRecDepth 100000 in
theorem lengthen_any (D lo hi c i h s : Nat) (A : List Tn) (hA : A.length = 64) (hc : c < 64) (h1 : lo ≤ i) (h2 : i < hi) (hb : hi ≤ 1099511627776) (hs : spl (hi - lo) = s) (hh : lo + s = h) (hlt : s < hi - lo) (w : World) (hB : Blk w D 35 (WC lo hi A c)) :
    Calls Tryd.prog 11 #[.pointer (some ⟨D, 0, none⟩), .int .i64 (i : Int)] w fun e w' => (∃ v, e = .returned v) ∧ Chg (fun k => k = D) w w' ∧
      Blk w' D 35 (if i < h then WC lo h (A.set c ⟨h, hi, false⟩) (c + 1) else WC h hi (A.set c ⟨lo, h, true⟩) (c + 1)) := by
  have CS : Hid (∀ w, Calls Tryd.prog 16 #[.int .i64 ((hi : Int) - (lo : Int))] w fun e w' => e = .returned (.int .i64 (s : Int)) ∧ w' = w) := (fun w => by
    have := split_any ((hi : Int) - (lo : Int)) (by omega) w
    rw [show ((hi : Int) - (lo : Int)).toNat = hi - lo by omega, hs] at this
    exact this)
  have HA := hide hA
  have HB := hide hB
  obtain ⟨N, HN⟩ : ∃ N, Hid (w.heap.size = N) := ⟨_, rfl⟩
  have HD : Hid (D < N) := (show _ by rw [← HN.out]; exact hB.lt)
  have hr0 := WC_range0 hB
  have hsum : (lo : Int) + (s : Int) = (h : Int) := by omega
  clear hA hB hs hh
  go_enter Tryd.func11, Tryd.ntmps11
  have BN := Blk.new w 30 [.int .i64 0, .int .i64 0]
  rw [HN.out] at BN
  go_upto_region 1 with (first
    | (refine wpList_load_mid rfl 30 _ rfl D 0 rfl [.int .i64 (lo : Int), .int .i64 (hi : Int)] _ hr0 Tryd.underlying30 rfl Tryd.sizePt ?_)
    | (rw [HN.out]; refine wpList_store_blk rfl 30 _ _ rfl N [.int .i64 0, .int .i64 0] [.int .i64 (lo : Int), .int .i64 (hi : Int)] 30 rfl rfl BN rfl Tryd.sizePt (by simp [Value.oneCell']) ?_; intro w1 hb1 hu1)
    | fail)
  have B1 := hide hb1
  have BD1 : Hid (Blk w1 D 35 (WC lo hi A c)) := (HB.out.alloc _).but hu1 (by have := HD.out; omega)
  have L1 : Hid (Below N w w1) := ((Below.refl _ _).alloc (by rw [HN.out]; exact Nat.le_refl _) _).trans (hu1.below (Nat.le_refl _) (by simp [HN.out]))
  clear hb1 hu1 BN hr0
  simp only [Act.put]
  refine wp_region_inv Tryd.mixed (KS (fun i_ => match i_ with | 0 | 4 => .val (.pointer (some ⟨N, 0, none⟩)) | 1 | 5 => .val (.int .i64 (lo : Int)) | 2 => .val (.pointer (some ⟨N, 1, none⟩)) | 3 => .val (.int .i64 (hi : Int)) | 6 => .val (.int .i64 ((hi : Int) - (lo : Int))) | 7 => .val (.int .i64 (s : Int)) | 8 | 9 => .val (.int .i64 (h : Int)) | _ => .free)) 67 rfl (by decide +kernel) (KS_mono _) ?_ ?_
  · refine AllFrom.cons (fun a' w' hg hk hd => ?_) (AllFrom.cons (fun a' w' hg hk hd => ?_) (AllFrom.cons (fun a' w' hg hk hd => ?_) (AllFrom.cons (fun a' w' hg hk hd => ?_) (AllFrom.cons (fun a' w' hg hk hd => ?_) (AllFrom.cons (fun a' w' hg hk hd => ?_) (AllFrom.cons (fun a' w' hg hk hd => ?_) (AllFrom.cons (fun a' w' hg hk hd => ?_) (AllFrom.cons (fun a' w' hg hk hd => ?_) (AllFrom.cons (fun a' w' hg hk hd => ?_) AllFrom.nil)))))))))
    · skip
      intro Q
      have e4 : a'.eval (.tmp 4) = .pointer (some ⟨N, 0, none⟩) := hk.at 4 (by decide +kernel)
      clear hd hk
      exact wp_value (.pointer (some ⟨N, 0, none⟩)) (by simp only [execOp, e4]; go_simp) (KS_mkv rfl rfl)
    · skip
      intro Q
      have e12 : a'.eval (.tmp 12) = .pointer (some ⟨N, 0, none⟩) := KS_val (hd.val 0 12 (by decide +kernel)) rfl
      have hc := (B1.out.kept hg).cell (j := 0) rfl
      clear hd hk
      exact wp_value (.int .i64 (lo : Int)) (by simp only [execOp, e12]; go_simp) (KS_mkv rfl rfl)
    · skip
      intro Q
      have e4 : a'.eval (.tmp 4) = .pointer (some ⟨N, 0, none⟩) := hk.at 4 (by decide +kernel)
      clear hd hk
      exact wp_value (.pointer (some ⟨N, 1, none⟩)) (by simp only [execOp, e4]; go_simp) (KS_mkv rfl rfl)
    · skip
      intro Q
      have e14 : a'.eval (.tmp 14) = .pointer (some ⟨N, 1, none⟩) := KS_val (hd.val 2 14 (by decide +kernel)) rfl
      have hc := (B1.out.kept hg).cell (j := 1) rfl
      clear hd hk
      exact wp_value (.int .i64 (hi : Int)) (by simp only [execOp, e14]; go_simp) (KS_mkv rfl rfl)
    · skip
      intro Q
      have e4 : a'.eval (.tmp 4) = .pointer (some ⟨N, 0, none⟩) := hk.at 4 (by decide +kernel)
      clear hd hk
      exact wp_value (.pointer (some ⟨N, 0, none⟩)) (by simp only [execOp, e4]; go_simp) (KS_mkv rfl rfl)
    · skip
      intro Q
      have e16 : a'.eval (.tmp 16) = .pointer (some ⟨N, 0, none⟩) := KS_val (hd.val 4 16 (by decide +kernel)) rfl
      have hc := (B1.out.kept hg).cell (j := 0) rfl
      clear hd hk
      exact wp_value (.int .i64 (lo : Int)) (by simp only [execOp, e16]; go_simp) (KS_mkv rfl rfl)
    · skip
      intro Q
      have e15 : a'.eval (.tmp 15) = .int .i64 (hi : Int) := KS_val (hd.val 3 15 (by decide +kernel)) rfl
      have e17 : a'.eval (.tmp 17) = .int .i64 (lo : Int) := KS_val (hd.val 5 17 (by decide +kernel)) rfl
      clear hd hk
      have hw : IntKind.i64.wrap ((hi : Int) - (lo : Int)) = (hi : Int) - (lo : Int) := wr64 (by omega) (by omega)
      exact wp_value (.int .i64 ((hi : Int) - (lo : Int))) (by simp only [execOp, e15, e17]; go_simp) (KS_mkv rfl rfl)
    · skip
      intro Q
      have e18 : a'.eval (.tmp 18) = .int .i64 ((hi : Int) - (lo : Int)) := KS_val (hd.val 6 18 (by decide +kernel)) rfl
      refine wp_call 16 _ (run_enter 16 _ _ rfl (by kernel_rfl)) ?_
      simp only [List.map_toArray, List.map_nil, List.map_cons, e18]
      refine (CS.out _).mono ?_
      rintro e w5 ⟨rfl, rfl⟩
      exact ⟨_, rfl, KS_mkv rfl rfl, Gr.refl _⟩
    · skip
      intro Q
      have e13 : a'.eval (.tmp 13) = .int .i64 (lo : Int) := KS_val (hd.val 1 13 (by decide +kernel)) rfl
      have e19 : a'.eval (.tmp 19) = .int .i64 (s : Int) := KS_val (hd.val 7 19 (by decide +kernel)) rfl
      clear hd hk
      have hq := hsum
      have hw : IntKind.i64.wrap (h : Int) = (h : Int) := wr64 (by omega) (by omega)
      exact wp_value (.int .i64 (h : Int)) (by simp only [execOp, e13, e19]; go_simp) (KS_mkv rfl rfl)
    · skip
      intro Q
      have e20 : a'.eval (.tmp 20) = .int .i64 (h : Int) := KS_val (hd.val 8 20 (by decide +kernel)) rfl
      exact wp_value _ (by simp only [execOp, e20]; rfl) (KS_mkv rfl rfl)
  intro a' w2 hsz hdf hk hall hg
  have G2 := hide hg
  clear hg
  have e12 : a'.eval (.tmp 12) = .pointer (some ⟨N, 0, none⟩) := KS_val (hall 0 _ 12 rfl rfl) rfl
  have e13 : a'.eval (.tmp 13) = .int .i64 (lo : Int) := KS_val (hall 1 _ 13 rfl rfl) rfl
  have e14 : a'.eval (.tmp 14) = .pointer (some ⟨N, 1, none⟩) := KS_val (hall 2 _ 14 rfl rfl) rfl
  have e15 : a'.eval (.tmp 15) = .int .i64 (hi : Int) := KS_val (hall 3 _ 15 rfl rfl) rfl
  have e16 : a'.eval (.tmp 16) = .pointer (some ⟨N, 0, none⟩) := KS_val (hall 4 _ 16 rfl rfl) rfl
  have e17 : a'.eval (.tmp 17) = .int .i64 (lo : Int) := KS_val (hall 5 _ 17 rfl rfl) rfl
  have e18 : a'.eval (.tmp 18) = .int .i64 ((hi : Int) - (lo : Int)) := KS_val (hall 6 _ 18 rfl rfl) rfl
  have e19 : a'.eval (.tmp 19) = .int .i64 (s : Int) := KS_val (hall 7 _ 19 rfl rfl) rfl
  have e20 : a'.eval (.tmp 20) = .int .i64 (h : Int) := KS_val (hall 8 _ 20 rfl rfl) rfl
  have e5 : a'.eval (.tmp 5) = .int .i64 (h : Int) := KS_val (hall 9 _ 5 rfl rfl) rfl
  have ha := act_puts 67 rfl hsz hdf hk [12, 13, 14, 15, 16, 17, 18, 19, 20, 5] (by decide +kernel)
  simp only [puts, List.foldl_cons, List.foldl_nil, e12, e13, e14, e15, e16, e17, e18, e19, e20, e5] at ha
  simp only [Act.put, List.setIfInBounds_toArray, List.set_cons_succ, List.set_cons_zero] at ha
  clear hall hk hsz hdf e12 e13 e14 e15 e16 e17 e18 e19 e20 e5
  subst ha
  go_upto_region 2 with fail
  refine wp_region_cells Tryd.mixed (KS (fun i_ => match i_ with | 0 => .val (.pointer (some ⟨N, 0, none⟩)) | 1 => .val (.int .i64 (lo : Int)) | 2 | 4 => .val (.int .i64 (h : Int)) | 3 => .val (.agg [.int .i64 (lo : Int), .int .i64 (h : Int)].toArray) | 5 => .val (.pointer (some ⟨N, 1, none⟩)) | 6 => .val (.int .i64 (hi : Int)) | 7 => .val (.agg [.int .i64 (h : Int), .int .i64 (hi : Int)].toArray) | _ => .free)) [⟨8, 6, 10, 30, [.int .i64 0, .int .i64 0], [.int .i64 (lo : Int), .int .i64 (h : Int)]⟩, ⟨9, 7, 11, 30, [.int .i64 0, .int .i64 0], [.int .i64 (h : Int), .int .i64 (hi : Int)]⟩] 67 rfl (by decide +kernel) (KS_mono_val _ (fun i => by split <;> exact fun _ _ _ h => h)) (by intro c hc c' hc' e; simp only [List.mem_cons, List.not_mem_nil, or_false] at hc hc'; rcases hc with rfl | rfl <;> rcases hc' with rfl | rfl <;> first | rfl | (simp at e)) (by intro c hc c' hc' e; simp only [List.mem_cons, List.not_mem_nil, or_false] at hc hc'; rcases hc with rfl | rfl <;> rcases hc' with rfl | rfl <;> first | rfl | (simp at e)) (by intro c hc; simp only [List.mem_cons, List.not_mem_nil, or_false] at hc; rcases hc with rfl | rfl <;> rfl) ?_ ?_
  · refine AllFrom.cons ?_ (AllFrom.cons ?_ (AllFrom.cons ?_ (AllFrom.cons ?_ (AllFrom.cons ?_ (AllFrom.cons ?_ (AllFrom.cons ?_ (AllFrom.cons ?_ (AllFrom.cons ?_ (AllFrom.cons ?_ (AllFrom.cons ?_ (AllFrom.cons ?_ AllFrom.nil)))))))))))
    · skip
      refine .val rfl (notI rfl) (notS rfl) (fun a' w' hb hk hd Q => ?_)
      have e4 : a'.eval (.tmp 4) = .pointer (some ⟨N, 0, none⟩) := hk.at 4 (by decide +kernel)
      clear hd hk
      exact wp_value (.pointer (some ⟨N, 0, none⟩)) (by simp only [execOp, e4]; go_simp) (KS_mkv rfl rfl)
    · skip
      refine .val rfl (notI rfl) (notS rfl) (fun a' w' hb hk hd Q => ?_)
      have e21 : a'.eval (.tmp 21) = .pointer (some ⟨N, 0, none⟩) := KS_val (hd 0 21 (by decide +kernel) (notI rfl)) rfl
      have hc := (B1.out.kept (Below.trans G2.out (Below.mono hb G2.out.size))).cell (j := 0) rfl
      clear hd hk
      exact wp_value (.int .i64 (lo : Int)) (by simp only [execOp, e21]; go_simp) (KS_mkv rfl rfl)
    · skip
      refine .val rfl (notI rfl) (notS rfl) (fun a' w' hb hk hd Q => ?_)
      have e5 : a'.eval (.tmp 5) = .int .i64 (h : Int) := hk.at 5 (by decide +kernel)
      exact wp_value _ (by simp only [execOp, e5]; rfl) (KS_mkv rfl rfl)
    · skip
      refine .val rfl (notI rfl) (notS rfl) (fun a' w' hb hk hd Q => ?_)
      have e22 : a'.eval (.tmp 22) = .int .i64 (lo : Int) := KS_val (hd 1 22 (by decide +kernel) (notI rfl)) rfl
      have e23 : a'.eval (.tmp 23) = .int .i64 (h : Int) := KS_val (hd 2 23 (by decide +kernel) (notI rfl)) rfl
      clear hd hk
      exact wp_value (.agg [.int .i64 (lo : Int), .int .i64 (h : Int)].toArray) (by simp only [execOp, e22, e23, List.map_toArray, List.map_cons, List.map_nil]; go_simp) (KS_mkv rfl rfl)
    · skip
      refine .val rfl (notI rfl) (notS rfl) (fun a' w' hb hk hd Q => ?_)
      have e5 : a'.eval (.tmp 5) = .int .i64 (h : Int) := hk.at 5 (by decide +kernel)
      exact wp_value _ (by simp only [execOp, e5]; rfl) (KS_mkv rfl rfl)
    · skip
      refine .val rfl (notI rfl) (notS rfl) (fun a' w' hb hk hd Q => ?_)
      have e4 : a'.eval (.tmp 4) = .pointer (some ⟨N, 0, none⟩) := hk.at 4 (by decide +kernel)
      clear hd hk
      exact wp_value (.pointer (some ⟨N, 1, none⟩)) (by simp only [execOp, e4]; go_simp) (KS_mkv rfl rfl)
    · skip
      refine .val rfl (notI rfl) (notS rfl) (fun a' w' hb hk hd Q => ?_)
      have e26 : a'.eval (.tmp 26) = .pointer (some ⟨N, 1, none⟩) := KS_val (hd 5 26 (by decide +kernel) (notI rfl)) rfl
      have hc := (B1.out.kept (Below.trans G2.out (Below.mono hb G2.out.size))).cell (j := 1) rfl
      clear hd hk
      exact wp_value (.int .i64 (hi : Int)) (by simp only [execOp, e26]; go_simp) (KS_mkv rfl rfl)
    · skip
      refine .val rfl (notI rfl) (notS rfl) (fun a' w' hb hk hd Q => ?_)
      have e25 : a'.eval (.tmp 25) = .int .i64 (h : Int) := KS_val (hd 4 25 (by decide +kernel) (notI rfl)) rfl
      have e27 : a'.eval (.tmp 27) = .int .i64 (hi : Int) := KS_val (hd 6 27 (by decide +kernel) (notI rfl)) rfl
      clear hd hk
      exact wp_value (.agg [.int .i64 (h : Int), .int .i64 (hi : Int)].toArray) (by simp only [execOp, e25, e27, List.map_toArray, List.map_cons, List.map_nil]; go_simp) (KS_mkv rfl rfl)
    · skip
      refine .new rfl _ (List.Mem.head _) rfl (notS rfl) rfl (fun a' w' => ?_)
      simp only [execOp]; go_simp
    · skip
      refine .new rfl _ (List.Mem.tail _ (List.Mem.head _)) rfl (notS rfl) rfl (fun a' w' => ?_)
      simp only [execOp]; go_simp
    · skip
      refine .put rfl _ (List.Mem.head _) (notI rfl) rfl rfl (.tmp 24) rfl (by kernel_rfl) (fun a' w' hb hk hd => ?_) rfl Tryd.sizePt (by simp [Value.oneCell'])
      have e24 : a'.eval (.tmp 24) = .agg [.int .i64 (lo : Int), .int .i64 (h : Int)].toArray := KS_val (hd 3 24 (by decide +kernel) (notI rfl)) rfl
      exact e24
    · skip
      refine .put rfl _ (List.Mem.tail _ (List.Mem.head _)) (notI rfl) rfl rfl (.tmp 28) rfl (by kernel_rfl) (fun a' w' hb hk hd => ?_) rfl Tryd.sizePt (by simp [Value.oneCell'])
      have e28 : a'.eval (.tmp 28) = .agg [.int .i64 (h : Int), .int .i64 (hi : Int)].toArray := KS_val (hd 7 28 (by decide +kernel) (notI rfl)) rfl
      exact e28
  intro a' w3 hsz hdf hk hall hb3 hBB
  obtain ⟨BF, hB1, hB2⟩ := hBB
  obtain ⟨E6, hl6, BL⟩ := hB1 _ (List.Mem.head _) (show (8 : Nat) < 12 by decide) (show (10 : Nat) < 12 by decide)
  obtain ⟨E7, hl7, BR⟩ := hB1 _ (List.Mem.tail _ (List.Mem.head _)) (show (9 : Nat) < 12 by decide) (show (11 : Nat) < 12 by decide)
  simp only at E6 E7 hl6 hl7 BL BR
  clear hB1 hB2
  generalize BF 8 = bl at E6 hl6 BL
  generalize BF 9 = br at E7 hl7 BR
  have e21 : a'.eval (.tmp 21) = .pointer (some ⟨N, 0, none⟩) := KS_val (hall 0 _ 21 rfl (notI rfl) rfl) rfl
  have e22 : a'.eval (.tmp 22) = .int .i64 (lo : Int) := KS_val (hall 1 _ 22 rfl (notI rfl) rfl) rfl
  have e23 : a'.eval (.tmp 23) = .int .i64 (h : Int) := KS_val (hall 2 _ 23 rfl (notI rfl) rfl) rfl
  have e24 : a'.eval (.tmp 24) = .agg [.int .i64 (lo : Int), .int .i64 (h : Int)].toArray := KS_val (hall 3 _ 24 rfl (notI rfl) rfl) rfl
  have e25 : a'.eval (.tmp 25) = .int .i64 (h : Int) := KS_val (hall 4 _ 25 rfl (notI rfl) rfl) rfl
  have e26 : a'.eval (.tmp 26) = .pointer (some ⟨N, 1, none⟩) := KS_val (hall 5 _ 26 rfl (notI rfl) rfl) rfl
  have e27 : a'.eval (.tmp 27) = .int .i64 (hi : Int) := KS_val (hall 6 _ 27 rfl (notI rfl) rfl) rfl
  have e28 : a'.eval (.tmp 28) = .agg [.int .i64 (h : Int), .int .i64 (hi : Int)].toArray := KS_val (hall 7 _ 28 rfl (notI rfl) rfl) rfl
  have ha := act_puts 67 rfl hsz hdf hk [21, 22, 23, 24, 25, 26, 27, 28, 6, 7] (by decide +kernel)
  simp only [puts, List.foldl_cons, List.foldl_nil, e21, e22, e23, e24, e25, e26, e27, e28, E6, E7] at ha
  simp only [Act.put, List.setIfInBounds_toArray, List.set_cons_succ, List.set_cons_zero] at ha
  clear hall hk hsz hdf e21 e22 e23 e24 e25 e26 e27 e28 E6 E7
  subst ha
  have BL3 := hide BL
  have BR3 := hide BR
  have hDw : D < w1.heap.size := BD1.out.lt
  have hl1 := G2.out.size
  have BD3 : Hid (Blk w3 D 35 (WC lo hi A c)) := (BD1.out.kept G2.out).kept hb3
  have L3 : Hid (Below N w w3) := (L1.out.trans (G2.out.mono (Nat.le_of_lt B1.out.lt))).trans (hb3.mono (Nat.le_trans (Nat.le_of_lt B1.out.lt) hl1))
  have HBL : Hid (D < bl ∧ D < br) := ⟨by omega, by omega⟩
  clear BL BR hb3 hl6 hl7 hDw hl1

  by_cases hih : i < h
  · have q1 : (i : Int) < (h : Int) := by omega
    go_upto_region 4 with fail
    refine wp_region_pivots Tryd.mixed (fun i_ => match i_ with | 0 | 1 | 2 | 3 | 9 | 10 | 12 => .pointer (some ⟨D, 0, none⟩) | 4 => .pointer (some ⟨D, 194, none⟩) | 5 => .int .i64 (c : Int) | 6 => .agg [.int .i64 (lo : Int), .int .i64 (h : Int)].toArray | 7 => .agg [.int .i64 (h : Int), .int .i64 (hi : Int)].toArray | 8 => .agg #[.int .i64 (h : Int), .int .i64 (hi : Int), .bool false] | 11 => undef | 13 => .pointer (some ⟨D, 2, none⟩) | 14 => .pointer (some ⟨D, 2 + c * 3, none⟩) | _ => undef) (fun b_ w' => Blk w' D 35 (WC (if b_ = true then lo else lo) (if b_ = true then h else hi) A c) ∧ Chg (fun k => k = D) w3 w') 11 67 rfl (by decide +kernel) 15 (by decide) (by decide) (by decide +kernel) ?_ ?_ ?_
    · intro w' hh hg
      exact ⟨BD3.out.kept hg, Chg.of_below hg⟩
    · refine AllFrom.cons ⟨rfl, ?_, ?_⟩ (AllFrom.cons ⟨rfl, ?_, ?_⟩ (AllFrom.cons ⟨rfl, ?_, ?_⟩ (AllFrom.cons ⟨rfl, ?_, ?_⟩ (AllFrom.cons ⟨rfl, ?_, ?_⟩ (AllFrom.cons ⟨rfl, ?_, ?_⟩ (AllFrom.cons ⟨rfl, ?_, ?_⟩ (AllFrom.cons ⟨rfl, ?_, ?_⟩ (AllFrom.cons ⟨rfl, ?_, ?_⟩ (AllFrom.cons ⟨rfl, ?_, ?_⟩ (AllFrom.cons ⟨rfl, ?_, ?_⟩ (AllFrom.cons ⟨rfl, ?_, ?_⟩ (AllFrom.cons ⟨rfl, ?_, ?_⟩ (AllFrom.cons ⟨rfl, ?_, ?_⟩ (AllFrom.cons ⟨rfl, ?_, ?_⟩ AllFrom.nil))))))))))))))
      · intro _ a' b' w' hC hk hd
        have e0 : a'.eval (.tmp 0) = .pointer (some ⟨D, 0, none⟩) := hk.at 0 (by decide +kernel)
        simp only [execOp, e0]
        rfl
      · exact fun e => absurd e (by decide)
      · intro _ a' b' w' hC hk hd
        have e0 : a'.eval (.tmp 0) = .pointer (some ⟨D, 0, none⟩) := hk.at 0 (by decide +kernel)
        simp only [execOp, e0]
        rfl
      · exact fun e => absurd e (by decide)
      · intro _ a' b' w' hC hk hd
        have e0 : a'.eval (.tmp 0) = .pointer (some ⟨D, 0, none⟩) := hk.at 0 (by decide +kernel)
        simp only [execOp, e0]
        rfl
      · exact fun e => absurd e (by decide)
      · intro _ a' b' w' hC hk hd
        have e34 : a'.eval (.tmp 34) = .pointer (some ⟨D, 0, none⟩) := hd 2 34 (by decide +kernel)
        clear hd hk hC
        simp only [execOp, e34]
        go_simp
      · exact fun e => absurd e (by decide)
      · intro _ a' b' w' hC hk hd
        have e35 : a'.eval (.tmp 35) = .pointer (some ⟨D, 0, none⟩) := hd 3 35 (by decide +kernel)
        clear hd hk hC
        simp only [execOp, e35]
        go_simp
      · exact fun e => absurd e (by decide)
      · intro _ a' b' w' hC hk hd
        have e36 : a'.eval (.tmp 36) = .pointer (some ⟨D, 194, none⟩) := hd 4 36 (by decide +kernel)
        have hcc : w'.cell? ⟨D, 194, none⟩ = some (.int .i64 (c : Int)) := hC.1.cell (WC_count HA.out)
        clear hd hk hC
        simp only [execOp, e36]
        go_simp
      · exact fun e => absurd e (by decide)
      · intro _ a' b' w' hC hk hd
        have e6 : a'.eval (.tmp 6) = .pointer (some ⟨bl, 0, none⟩) := hk.at 6 (by decide +kernel)
        have hr : w'.rangeAt bl 0 [.int .i64 (lo : Int), .int .i64 (h : Int)] := (BL3.out.chg hC.2 (by have := HBL.out; omega)).range0
        simp only [execOp, e6, Instr.loadAt, Instr.sureAddr, Sem.run_bind, Sem.run_pure, Result.andThen_ok, run_loadVar_mid w' bl 0 30 _ _ hr Tryd.underlying30 rfl Tryd.sizePt]
      · exact fun e => absurd e (by decide)
      · intro _ a' b' w' hC hk hd
        have e7 : a'.eval (.tmp 7) = .pointer (some ⟨br, 0, none⟩) := hk.at 7 (by decide +kernel)
        have hr : w'.rangeAt br 0 [.int .i64 (h : Int), .int .i64 (hi : Int)] := (BR3.out.chg hC.2 (by have := HBL.out; omega)).range0
        simp only [execOp, e7, Instr.loadAt, Instr.sureAddr, Sem.run_bind, Sem.run_pure, Result.andThen_ok, run_loadVar_mid w' br 0 30 _ _ hr Tryd.underlying30 rfl Tryd.sizePt]
      · exact fun e => absurd e (by decide)
      · intro _ a' b' w' hC hk hd
        have e39 : a'.eval (.tmp 39) = .agg [.int .i64 (h : Int), .int .i64 (hi : Int)].toArray := hd 7 39 (by decide +kernel)
        clear hd hk hC
        simp only [execOp, e39, List.map_toArray, List.map_cons, List.map_nil]
        go_simp
      · exact fun e => absurd e (by decide)
      · intro _ a' b' w' hC hk hd
        have e32 : a'.eval (.tmp 32) = .pointer (some ⟨D, 0, none⟩) := hd 0 32 (by decide +kernel)
        clear hd hk hC
        simp only [execOp, e32]
        go_simp
      · exact fun e => absurd e (by decide)
      · intro _ a' b' w' hC hk hd
        have e41 : a'.eval (.tmp 41) = .pointer (some ⟨D, 0, none⟩) := hd 9 41 (by decide +kernel)
        clear hd hk hC
        simp only [execOp, e41]
        go_simp
      · exact fun e => absurd e (by decide)
      · exact fun e => absurd rfl e
      · refine fun _ => ⟨rfl, fun a' w' hC hk hd Q => ?_⟩
        have e38 : a'.eval (.tmp 38) = .agg [.int .i64 (lo : Int), .int .i64 (h : Int)].toArray := hd 6 38 (by decide +kernel)
        have e42 : a'.eval (.tmp 42) = .pointer (some ⟨D, 0, none⟩) := hd 10 42 (by decide +kernel)
        obtain ⟨hC1, hC2⟩ := hC
        simp only [Bool.false_eq_true, if_false] at hC1
        refine wp_store_over 30 _ _ rfl D 0 (WC lo hi A c) [.int .i64 (lo : Int), .int .i64 (h : Int)] 35 e42 e38 hC1 (by rw [WC_len HA.out]; simp) Tryd.sizePt (by simp [Value.oneCell']) ?_
        intro w4 hb4 hu4
        rw [WC_over0] at hb4
        exact ⟨rfl, by simpa using hb4, hC2.trans (Chg.of_but hu4 rfl)⟩
      · intro _ a' b' w' hC hk hd
        have e33 : a'.eval (.tmp 33) = .pointer (some ⟨D, 0, none⟩) := hd 1 33 (by decide +kernel)
        clear hd hk hC
        simp only [execOp, e33]
        go_simp
      · exact fun e => absurd e (by decide)
      · intro _ a' b' w' hC hk hd
        have e43 : a'.eval (.tmp 43) = .pointer (some ⟨D, 0, none⟩) := hd 12 43 (by decide +kernel)
        clear hd hk hC
        simp only [execOp, e43]
        go_simp
      · exact fun e => absurd e (by decide)
      · intro _ a' b' w' hC hk hd
        have e37 : a'.eval (.tmp 37) = .int .i64 (c : Int) := hd 5 37 (by decide +kernel)
        have e44 : a'.eval (.tmp 44) = .pointer (some ⟨D, 2, none⟩) := hd 13 44 (by decide +kernel)
        have hci : (c : Int) < 64 := by omega
        clear hd hk hC
        simp only [execOp, e37, e44]
        go_simp
      · exact fun e => absurd e (by decide)
    · intro a' w4 hsz hdf hk hall hC
      have e32 : a'.eval (.tmp 32) = .pointer (some ⟨D, 0, none⟩) := hall 0 _ 32 (by decide) rfl rfl
      have e33 : a'.eval (.tmp 33) = .pointer (some ⟨D, 0, none⟩) := hall 1 _ 33 (by decide) rfl rfl
      have e34 : a'.eval (.tmp 34) = .pointer (some ⟨D, 0, none⟩) := hall 2 _ 34 (by decide) rfl rfl
      have e35 : a'.eval (.tmp 35) = .pointer (some ⟨D, 0, none⟩) := hall 3 _ 35 (by decide) rfl rfl
      have e36 : a'.eval (.tmp 36) = .pointer (some ⟨D, 194, none⟩) := hall 4 _ 36 (by decide) rfl rfl
      have e37 : a'.eval (.tmp 37) = .int .i64 (c : Int) := hall 5 _ 37 (by decide) rfl rfl
      have e38 : a'.eval (.tmp 38) = .agg [.int .i64 (lo : Int), .int .i64 (h : Int)].toArray := hall 6 _ 38 (by decide) rfl rfl
      have e39 : a'.eval (.tmp 39) = .agg [.int .i64 (h : Int), .int .i64 (hi : Int)].toArray := hall 7 _ 39 (by decide) rfl rfl
      have e40 : a'.eval (.tmp 40) = .agg #[.int .i64 (h : Int), .int .i64 (hi : Int), .bool false] := hall 8 _ 40 (by decide) rfl rfl
      have e41 : a'.eval (.tmp 41) = .pointer (some ⟨D, 0, none⟩) := hall 9 _ 41 (by decide) rfl rfl
      have e42 : a'.eval (.tmp 42) = .pointer (some ⟨D, 0, none⟩) := hall 10 _ 42 (by decide) rfl rfl
      have e43 : a'.eval (.tmp 43) = .pointer (some ⟨D, 0, none⟩) := hall 12 _ 43 (by decide) rfl rfl
      have e44 : a'.eval (.tmp 44) = .pointer (some ⟨D, 2, none⟩) := hall 13 _ 44 (by decide) rfl rfl
      have e45 : a'.eval (.tmp 45) = .pointer (some ⟨D, 2 + c * 3, none⟩) := hall 14 _ 45 (by decide) rfl rfl
      obtain ⟨hC1, hC2⟩ := hC
      simp only [if_true] at hC1
      refine ⟨rfl, wp_store_over 32 _ _ rfl D (2 + c * 3) (WC lo h A c) (TE.c ⟨h, hi, false⟩) 35 e45 e40 hC1 (by rw [WC_len HA.out]; show 2 + c * 3 + 3 ≤ 195; omega) Tryd.sizeTn (TE.one _) ?_⟩
      intro w5 hb5 hu5
      rw [WC_over1 _ HA.out hc] at hb5
      refine ⟨undef, rfl, ?_⟩
      show Exit.then _ _ Exit.normal (a'.put none undef) w5
      have HC5 : Hid (Chg (fun k => k = D) w w5) := (Chg.of_below (by rw [HN.out]; exact L3.out)).trans (hC2.trans (Chg.of_but hu5 rfl))
      have HB5 := hide hb5
      have ha := act_puts 67 rfl hsz hdf hk [32, 33, 34, 35, 36, 37, 38, 39, 40, 41, 42, 43, 44, 45] (by decide +kernel)
      simp only [puts, List.foldl_cons, List.foldl_nil, e32, e33, e34, e35, e36, e37, e38, e39, e40, e41, e42, e43, e44, e45] at ha
      simp only [Act.put, List.setIfInBounds_toArray, List.set_cons_succ, List.set_cons_zero] at ha
      clear hall hk hsz hdf e32 e33 e34 e35 e36 e37 e38 e39 e40 e41 e42 e43 e44 e45 hC1 hC2 hu5
      subst ha
      simp only [Act.put]
      have hA2 : (A.set c (⟨h, hi, false⟩ : Tn)).length = 64 := by rw [List.length_set]; exact HA.out
      have hcc : w5.cell? ⟨D, 194, none⟩ = some (.int .i64 (c : Int)) := HB5.out.cell (WC_count hA2)
      have HA2 := hide hA2
      clear hA2 hb5
      have hfz := HB5.out.frozen 194
      go_wp2
      refine bodyPost_end (results_none rfl _ _ _) rfl ?_
      refine ⟨⟨_, rfl⟩, HC5.out.trans (Chg.setCell (F := fun k => k = D) _ rfl _ _), ?_⟩
      have := HB5.out.set 194 (.int .i64 ((c + 1 : Nat) : Int))
      rw [WC_set HA2.out] at this
      simpa using this
  · have q1 : ¬ (i : Int) < (h : Int) := by omega
    go_upto_region 5 with fail
    refine wp_region_pivots Tryd.mixed (fun i_ => match i_ with | 0 | 1 | 2 | 3 | 9 | 10 | 12 => .pointer (some ⟨D, 0, none⟩) | 4 => .pointer (some ⟨D, 194, none⟩) | 5 => .int .i64 (c : Int) | 6 => .agg [.int .i64 (h : Int), .int .i64 (hi : Int)].toArray | 7 => .agg [.int .i64 (lo : Int), .int .i64 (h : Int)].toArray | 8 => .agg #[.int .i64 (lo : Int), .int .i64 (h : Int), .bool true] | 11 => undef | 13 => .pointer (some ⟨D, 2, none⟩) | 14 => .pointer (some ⟨D, 2 + c * 3, none⟩) | _ => undef) (fun b_ w' => Blk w' D 35 (WC (if b_ = true then h else lo) (if b_ = true then hi else hi) A c) ∧ Chg (fun k => k = D) w3 w') 11 67 rfl (by decide +kernel) 15 (by decide) (by decide) (by decide +kernel) ?_ ?_ ?_
    · intro w' hh hg
      exact ⟨BD3.out.kept hg, Chg.of_below hg⟩
    · refine AllFrom.cons ⟨rfl, ?_, ?_⟩ (AllFrom.cons ⟨rfl, ?_, ?_⟩ (AllFrom.cons ⟨rfl, ?_, ?_⟩ (AllFrom.cons ⟨rfl, ?_, ?_⟩ (AllFrom.cons ⟨rfl, ?_, ?_⟩ (AllFrom.cons ⟨rfl, ?_, ?_⟩ (AllFrom.cons ⟨rfl, ?_, ?_⟩ (AllFrom.cons ⟨rfl, ?_, ?_⟩ (AllFrom.cons ⟨rfl, ?_, ?_⟩ (AllFrom.cons ⟨rfl, ?_, ?_⟩ (AllFrom.cons ⟨rfl, ?_, ?_⟩ (AllFrom.cons ⟨rfl, ?_, ?_⟩ (AllFrom.cons ⟨rfl, ?_, ?_⟩ (AllFrom.cons ⟨rfl, ?_, ?_⟩ (AllFrom.cons ⟨rfl, ?_, ?_⟩ AllFrom.nil))))))))))))))
      · intro _ a' b' w' hC hk hd
        have e0 : a'.eval (.tmp 0) = .pointer (some ⟨D, 0, none⟩) := hk.at 0 (by decide +kernel)
        simp only [execOp, e0]
        rfl
      · exact fun e => absurd e (by decide)
      · intro _ a' b' w' hC hk hd
        have e0 : a'.eval (.tmp 0) = .pointer (some ⟨D, 0, none⟩) := hk.at 0 (by decide +kernel)
        simp only [execOp, e0]
        rfl
      · exact fun e => absurd e (by decide)
      · intro _ a' b' w' hC hk hd
        have e0 : a'.eval (.tmp 0) = .pointer (some ⟨D, 0, none⟩) := hk.at 0 (by decide +kernel)
        simp only [execOp, e0]
        rfl
      · exact fun e => absurd e (by decide)
      · intro _ a' b' w' hC hk hd
        have e48 : a'.eval (.tmp 48) = .pointer (some ⟨D, 0, none⟩) := hd 2 48 (by decide +kernel)
        clear hd hk hC
        simp only [execOp, e48]
        go_simp
      · exact fun e => absurd e (by decide)
      · intro _ a' b' w' hC hk hd
        have e49 : a'.eval (.tmp 49) = .pointer (some ⟨D, 0, none⟩) := hd 3 49 (by decide +kernel)
        clear hd hk hC
        simp only [execOp, e49]
        go_simp
      · exact fun e => absurd e (by decide)
      · intro _ a' b' w' hC hk hd
        have e50 : a'.eval (.tmp 50) = .pointer (some ⟨D, 194, none⟩) := hd 4 50 (by decide +kernel)
        have hcc : w'.cell? ⟨D, 194, none⟩ = some (.int .i64 (c : Int)) := hC.1.cell (WC_count HA.out)
        clear hd hk hC
        simp only [execOp, e50]
        go_simp
      · exact fun e => absurd e (by decide)
      · intro _ a' b' w' hC hk hd
        have e7 : a'.eval (.tmp 7) = .pointer (some ⟨br, 0, none⟩) := hk.at 7 (by decide +kernel)
        have hr : w'.rangeAt br 0 [.int .i64 (h : Int), .int .i64 (hi : Int)] := (BR3.out.chg hC.2 (by have := HBL.out; omega)).range0
        simp only [execOp, e7, Instr.loadAt, Instr.sureAddr, Sem.run_bind, Sem.run_pure, Result.andThen_ok, run_loadVar_mid w' br 0 30 _ _ hr Tryd.underlying30 rfl Tryd.sizePt]
      · exact fun e => absurd e (by decide)
      · intro _ a' b' w' hC hk hd
        have e6 : a'.eval (.tmp 6) = .pointer (some ⟨bl, 0, none⟩) := hk.at 6 (by decide +kernel)
        have hr : w'.rangeAt bl 0 [.int .i64 (lo : Int), .int .i64 (h : Int)] := (BL3.out.chg hC.2 (by have := HBL.out; omega)).range0
        simp only [execOp, e6, Instr.loadAt, Instr.sureAddr, Sem.run_bind, Sem.run_pure, Result.andThen_ok, run_loadVar_mid w' bl 0 30 _ _ hr Tryd.underlying30 rfl Tryd.sizePt]
      · exact fun e => absurd e (by decide)
      · intro _ a' b' w' hC hk hd
        have e53 : a'.eval (.tmp 53) = .agg [.int .i64 (lo : Int), .int .i64 (h : Int)].toArray := hd 7 53 (by decide +kernel)
        clear hd hk hC
        simp only [execOp, e53, List.map_toArray, List.map_cons, List.map_nil]
        go_simp
      · exact fun e => absurd e (by decide)
      · intro _ a' b' w' hC hk hd
        have e46 : a'.eval (.tmp 46) = .pointer (some ⟨D, 0, none⟩) := hd 0 46 (by decide +kernel)
        clear hd hk hC
        simp only [execOp, e46]
        go_simp
      · exact fun e => absurd e (by decide)
      · intro _ a' b' w' hC hk hd
        have e55 : a'.eval (.tmp 55) = .pointer (some ⟨D, 0, none⟩) := hd 9 55 (by decide +kernel)
        clear hd hk hC
        simp only [execOp, e55]
        go_simp
      · exact fun e => absurd e (by decide)
      · exact fun e => absurd rfl e
      · refine fun _ => ⟨rfl, fun a' w' hC hk hd Q => ?_⟩
        have e52 : a'.eval (.tmp 52) = .agg [.int .i64 (h : Int), .int .i64 (hi : Int)].toArray := hd 6 52 (by decide +kernel)
        have e56 : a'.eval (.tmp 56) = .pointer (some ⟨D, 0, none⟩) := hd 10 56 (by decide +kernel)
        obtain ⟨hC1, hC2⟩ := hC
        simp only [Bool.false_eq_true, if_false] at hC1
        refine wp_store_over 30 _ _ rfl D 0 (WC lo hi A c) [.int .i64 (h : Int), .int .i64 (hi : Int)] 35 e56 e52 hC1 (by rw [WC_len HA.out]; simp) Tryd.sizePt (by simp [Value.oneCell']) ?_
        intro w4 hb4 hu4
        rw [WC_over0] at hb4
        exact ⟨rfl, by simpa using hb4, hC2.trans (Chg.of_but hu4 rfl)⟩
      · intro _ a' b' w' hC hk hd
        have e47 : a'.eval (.tmp 47) = .pointer (some ⟨D, 0, none⟩) := hd 1 47 (by decide +kernel)
        clear hd hk hC
        simp only [execOp, e47]
        go_simp
      · exact fun e => absurd e (by decide)
      · intro _ a' b' w' hC hk hd
        have e57 : a'.eval (.tmp 57) = .pointer (some ⟨D, 0, none⟩) := hd 12 57 (by decide +kernel)
        clear hd hk hC
        simp only [execOp, e57]
        go_simp
      · exact fun e => absurd e (by decide)
      · intro _ a' b' w' hC hk hd
        have e51 : a'.eval (.tmp 51) = .int .i64 (c : Int) := hd 5 51 (by decide +kernel)
        have e58 : a'.eval (.tmp 58) = .pointer (some ⟨D, 2, none⟩) := hd 13 58 (by decide +kernel)
        have hci : (c : Int) < 64 := by omega
        clear hd hk hC
        simp only [execOp, e51, e58]
        go_simp
      · exact fun e => absurd e (by decide)
    · intro a' w4 hsz hdf hk hall hC
      have e46 : a'.eval (.tmp 46) = .pointer (some ⟨D, 0, none⟩) := hall 0 _ 46 (by decide) rfl rfl
      have e47 : a'.eval (.tmp 47) = .pointer (some ⟨D, 0, none⟩) := hall 1 _ 47 (by decide) rfl rfl
      have e48 : a'.eval (.tmp 48) = .pointer (some ⟨D, 0, none⟩) := hall 2 _ 48 (by decide) rfl rfl
      have e49 : a'.eval (.tmp 49) = .pointer (some ⟨D, 0, none⟩) := hall 3 _ 49 (by decide) rfl rfl
      have e50 : a'.eval (.tmp 50) = .pointer (some ⟨D, 194, none⟩) := hall 4 _ 50 (by decide) rfl rfl
      have e51 : a'.eval (.tmp 51) = .int .i64 (c : Int) := hall 5 _ 51 (by decide) rfl rfl
      have e52 : a'.eval (.tmp 52) = .agg [.int .i64 (h : Int), .int .i64 (hi : Int)].toArray := hall 6 _ 52 (by decide) rfl rfl
      have e53 : a'.eval (.tmp 53) = .agg [.int .i64 (lo : Int), .int .i64 (h : Int)].toArray := hall 7 _ 53 (by decide) rfl rfl
      have e54 : a'.eval (.tmp 54) = .agg #[.int .i64 (lo : Int), .int .i64 (h : Int), .bool true] := hall 8 _ 54 (by decide) rfl rfl
      have e55 : a'.eval (.tmp 55) = .pointer (some ⟨D, 0, none⟩) := hall 9 _ 55 (by decide) rfl rfl
      have e56 : a'.eval (.tmp 56) = .pointer (some ⟨D, 0, none⟩) := hall 10 _ 56 (by decide) rfl rfl
      have e57 : a'.eval (.tmp 57) = .pointer (some ⟨D, 0, none⟩) := hall 12 _ 57 (by decide) rfl rfl
      have e58 : a'.eval (.tmp 58) = .pointer (some ⟨D, 2, none⟩) := hall 13 _ 58 (by decide) rfl rfl
      have e59 : a'.eval (.tmp 59) = .pointer (some ⟨D, 2 + c * 3, none⟩) := hall 14 _ 59 (by decide) rfl rfl
      obtain ⟨hC1, hC2⟩ := hC
      simp only [if_true] at hC1
      refine ⟨rfl, wp_store_over 32 _ _ rfl D (2 + c * 3) (WC h hi A c) (TE.c ⟨lo, h, true⟩) 35 e59 e54 hC1 (by rw [WC_len HA.out]; show 2 + c * 3 + 3 ≤ 195; omega) Tryd.sizeTn (TE.one _) ?_⟩
      intro w5 hb5 hu5
      rw [WC_over1 _ HA.out hc] at hb5
      refine ⟨undef, rfl, ?_⟩
      show Exit.then _ _ Exit.normal (a'.put none undef) w5
      have HC5 : Hid (Chg (fun k => k = D) w w5) := (Chg.of_below (by rw [HN.out]; exact L3.out)).trans (hC2.trans (Chg.of_but hu5 rfl))
      have HB5 := hide hb5
      have ha := act_puts 67 rfl hsz hdf hk [46, 47, 48, 49, 50, 51, 52, 53, 54, 55, 56, 57, 58, 59] (by decide +kernel)
      simp only [puts, List.foldl_cons, List.foldl_nil, e46, e47, e48, e49, e50, e51, e52, e53, e54, e55, e56, e57, e58, e59] at ha
      simp only [Act.put, List.setIfInBounds_toArray, List.set_cons_succ, List.set_cons_zero] at ha
      clear hall hk hsz hdf e46 e47 e48 e49 e50 e51 e52 e53 e54 e55 e56 e57 e58 e59 hC1 hC2 hu5
      subst ha
      simp only [Act.put]
      have hA2 : (A.set c (⟨lo, h, true⟩ : Tn)).length = 64 := by rw [List.length_set]; exact HA.out
      have hcc : w5.cell? ⟨D, 194, none⟩ = some (.int .i64 (c : Int)) := HB5.out.cell (WC_count hA2)
      have HA2 := hide hA2
      clear hA2 hb5
      have hfz := HB5.out.frozen 194
      go_wp2
      refine bodyPost_end (results_none rfl _ _ _) rfl ?_
      refine ⟨⟨_, rfl⟩, HC5.out.trans (Chg.setCell (F := fun k => k = D) _ rfl _ _), ?_⟩
      have := HB5.out.set 194 (.int .i64 ((c + 1 : Nat) : Int))
      rw [WC_set HA2.out] at this
      simpa using this
#print axioms lengthen_any
end Go.Proofs.YtfclmjfbcmjfbabDoor

/-
  proof.wayFrom: what the call does.
-/
namespace Go.Proofs.YtfclmjfbcmjfbabDoor
open Go.RowKit
def Tz : Tn := ⟨0, 0, false⟩
def Wz : List Value := WC 0 0 (List.replicate 64 Tz) 0
theorem zeroW (W : World) : (zeroValue 35).run Tryd.prog W = .ok (.agg Wz.toArray) W := by kernel_rfl
theorem Tryd.sizeW : (Tryd.prog.info? 35).map (·.size) = some 195 := by kernel_rfl
theorem WC_one (lo hi c : Nat) (A : List Tn) : ∀ u ∈ WC lo hi A c, u.oneCell' = true := by
  intro u hu
  unfold WC at hu
  rw [List.mem_append, List.mem_append] at hu
  rcases hu with (hu | hu) | hu
  · simp at hu; rcases hu with rfl | rfl <;> rfl
  · exact Enc.cs_one A u hu
  · simp at hu; subst hu; rfl
theorem take_set_snoc {α : Type} (A : List α) {c : Nat} (t : α) (h : c < A.length) : (A.set c t).take (c + 1) = A.take c ++ [t] := by
  rw [List.take_add_one, List.take_set_of_le (Nat.le_refl _), List.getElem?_set_self h]
  rfl
set_option maxHeartbeats 4000000 in
set_option maxRecDepth 100000 in
theorem wayFrom_any (n i : Nat) (al : Bool) (hi : i < n) (hn : n ≤ 1099511627776) (w : World) :
    Calls Tryd.prog 6 #[.int .i64 (n : Int), .int .i64 (i : Int), .bool al] w fun e w' => (∃ A, e = .returned (.agg (WC (wayP 40 0 n i al).2.1 (wayP 40 0 n i al).2.2 A (wayP 40 0 n i al).1.length).toArray) ∧ A.length = 64 ∧ A.take (wayP 40 0 n i al).1.length = (wayP 40 0 n i al).1) ∧ Below w.heap.size w w' := by
  obtain ⟨N, HN⟩ : ∃ N, Hid (w.heap.size = N) := ⟨_, rfl⟩
  obtain ⟨T, HTw⟩ : ∃ T, Hid (wayP 40 0 n i al = T) := ⟨_, rfl⟩
  rw [HTw.out]
  have hz := zeroW
  obtain ⟨Z, HZ⟩ : ∃ Z, Hid (Wz = Z) := ⟨_, rfl⟩
  rw [HZ.out] at hz
  have hzl : Z.length = 195 := by rw [← HZ.out]; rfl
  have hze : ¬ Z = [] := fun h => by rw [h] at hzl; simp at hzl
  go_enter Tryd.func6, Tryd.ntmps6
  go_upto_region 1 with fail
  obtain ⟨w0, hw0⟩ : ∃ z, z = w.alloc (.cells Z.toArray 35 (0, 0)) := ⟨_, rfl⟩
  change Code.wp _ _ _ _ (w.alloc (.cells Z.toArray 35 (0, 0)))
  rw [← hw0, HN.out]
  have B0 : Hid (Blk w0 N 35 Z) := (show Blk _ _ _ _ by rw [hw0, ← HN.out]; exact Blk.new w 35 Z)
  have L0 : Hid (Below N w w0) := (show Below _ _ _ by rw [hw0]; exact (Below.refl _ _).alloc (by rw [HN.out]; exact Nat.le_refl _) _)
  have S0 : Hid (w0.heap.size = N + 1) := (show _ = _ by rw [hw0]; simp [HN.out])
  clear hw0
  obtain ⟨Y, HY⟩ : ∃ Y, Hid (WC 0 n (List.replicate 64 Tz) 0 = Y) := ⟨_, rfl⟩
  have hyl : Y.length = 195 := by rw [← HY.out]; exact WC_len (by simp)
  have HYO : Hid (∀ u ∈ Y, u.oneCell' = true) := (show _ by rw [← HY.out]; exact WC_one _ _ _ _)
  have BN := Blk.new w0 35 Z
  rw [S0.out] at BN
  go_wp2_with (first
    | (refine wpList_build rfl 35 _ rfl (.agg Y.toArray) (by rw [← HY.out]; kernel_rfl) ?_)
    | (rw [S0.out]; refine wpList_store_blk rfl 35 _ _ rfl (N + 1) Z Y 35 rfl rfl BN (by rw [hyl, hzl]) (by rw [hyl]; exact Tryd.sizeW) HYO.out ?_; intro w1 hb1 hu1)
    | fail)
  have B1 : Hid (Blk w1 (N + 1) 35 (WC 0 n (List.replicate 64 Tz) 0)) := (show Blk _ _ _ _ by rw [HY.out]; exact hb1)
  have C1 : Hid (Blk w1 N 35 Z) := (B0.out.alloc _).but hu1 (by omega)
  have L1 : Hid (Below N w w1) := (L0.out.trans ((Below.refl _ _).alloc (by rw [S0.out]; omega) _)).trans (hu1.below (by omega) (by simp [S0.out]; omega))
  clear hb1 hu1 BN hyl
  simp only [Act.put]
  go_loopg [] 41 (fun g wr => ∃ (lo h c : Nat) (A : List Tn), g + c = 41 ∧ lo ≤ i ∧ i < h ∧ h ≤ n ∧ c ≤ 40 ∧ Hid (h - lo ≤ 2 ^ (40 - c)) ∧ Hid (A.length = 64) ∧ Hid (T = (A.take c ++ (wayP (40 - c) lo h i al).1, (wayP (40 - c) lo h i al).2)) ∧ Hid (Blk wr (N + 1) 35 (WC lo h A c)) ∧ Hid (Blk wr N 35 Z) ∧ Hid (Below N w wr))
  case atStart => exact ⟨0, n, 0, List.replicate 64 Tz, rfl, Nat.zero_le _, hi, Nat.le_refl _, by omega, (show n - 0 ≤ 2 ^ 40 by simpa using hn), (show _ = _ by simp), (show _ = _ by rw [HTw.out]; simp), B1.out, C1.out, L1.out⟩
  case round =>
    clear B1 C1 L1 B0 L0 S0
    obtain ⟨lo, h, c, A, hg, h1, h2, h3, h4, HS, HA, HT2, B1, C1, L1⟩ := hrel
    have c0 : wr.cell? ⟨N + 1, 0, none⟩ = some (.int .i64 (lo : Int)) := B1.out.cell (j := 0) rfl
    have c1 : wr.cell? ⟨N + 1, 1, none⟩ = some (.int .i64 (h : Int)) := B1.out.cell (j := 1) rfl
    by_cases hc : i < h - 1 ∨ (al = true ∧ lo < i)
    · obtain ⟨k2, kp, kl, kg⟩ := cut_facts h1 h2 hc
      obtain ⟨d, hd⟩ := pow_two_pos k2 HS.out
      have hs2 := HS.out
      rw [hd] at hs2
      have ks := spl_le k2 hs2
      have HD := hide hd
      have HCC := hide hc
      clear hs2
      by_cases ha : i < h - 1
      · have q1 : (i : Int) < (h : Int) - 1 := by omega
        clear hc ha hd
        go_wp2_with fail
        refine (lengthen_any (N + 1) lo h c i (lo + spl (h - lo)) (spl (h - lo)) A HA.out (by omega) h1 h2 (by omega) rfl rfl kl wr B1.out).mono ?_
        rintro e w2 ⟨⟨v, rfl⟩, hc2, hb2⟩
        have HC2 := hide hc2
        have HB2 := hide hb2
        clear hc2 hb2 c0 c1
        go_wp2_with fail
        go_roundg (gk - 1)
        case measure => omega
        case rel =>
          have hd := HD.out
          have C2 : Blk w2 N 35 Z := C1.out.chg HC2.out (by omega)
          have L2 : Below N w w2 := L1.out.trans (HC2.out.below (by have := C1.out.lt; omega) (fun k hk e => by omega))
          by_cases hi2 : i < lo + spl (h - lo)
          · refine ⟨lo, lo + spl (h - lo), c + 1, A.set c ⟨lo + spl (h - lo), h, false⟩, by omega, h1, hi2, by omega, by omega, (show lo + spl (h - lo) - lo ≤ _ by rw [Nat.add_sub_cancel_left, show 40 - (c + 1) = d by omega]; exact ks), (show _ = _ by rw [List.length_set]; exact HA.out), (show _ = _ by
              rw [HT2.out, HD.out, way_left (by simpa using HCC.out) hi2, show 40 - (c + 1) = d by omega, take_set_snoc _ _ (by rw [HA.out]; omega)]
              simp), ?_, C2, L2⟩
            have := HB2.out
            rwa [if_pos hi2] at this
          · refine ⟨lo + spl (h - lo), h, c + 1, A.set c ⟨lo, lo + spl (h - lo), true⟩, by omega, by omega, h2, by omega, by omega, (show h - (lo + spl (h - lo)) ≤ _ by rw [show 40 - (c + 1) = d by omega]; omega), (show _ = _ by rw [List.length_set]; exact HA.out), (show _ = _ by
              rw [HT2.out, HD.out, way_right (by simpa using HCC.out) hi2, show 40 - (c + 1) = d by omega, take_set_snoc _ _ (by rw [HA.out]; omega)]
              simp), ?_, C2, L2⟩
            have := HB2.out
            rwa [if_neg hi2] at this
      · have q1 : ¬ (i : Int) < (h : Int) - 1 := by omega
        obtain ⟨rfl, hb⟩ : al = true ∧ lo < i := by rcases hc with h | h; exact absurd h ha; exact h
        have q2 : (lo : Int) < (i : Int) := by omega
        clear hc ha hd
        go_wp2_with fail
        refine (lengthen_any (N + 1) lo h c i (lo + spl (h - lo)) (spl (h - lo)) A HA.out (by omega) h1 h2 (by omega) rfl rfl kl wr B1.out).mono ?_
        rintro e w2 ⟨⟨v, rfl⟩, hc2, hb2⟩
        have HC2 := hide hc2
        have HB2 := hide hb2
        clear hc2 hb2 c0 c1
        go_wp2_with fail
        go_roundg (gk - 1)
        case measure => omega
        case rel =>
          have hd := HD.out
          have C2 : Blk w2 N 35 Z := C1.out.chg HC2.out (by omega)
          have L2 : Below N w w2 := L1.out.trans (HC2.out.below (by have := C1.out.lt; omega) (fun k hk e => by omega))
          by_cases hi2 : i < lo + spl (h - lo)
          · refine ⟨lo, lo + spl (h - lo), c + 1, A.set c ⟨lo + spl (h - lo), h, false⟩, by omega, h1, hi2, by omega, by omega, (show lo + spl (h - lo) - lo ≤ _ by rw [Nat.add_sub_cancel_left, show 40 - (c + 1) = d by omega]; exact ks), (show _ = _ by rw [List.length_set]; exact HA.out), (show _ = _ by
              rw [HT2.out, HD.out, way_left (by simpa using HCC.out) hi2, show 40 - (c + 1) = d by omega, take_set_snoc _ _ (by rw [HA.out]; omega)]
              simp), ?_, C2, L2⟩
            have := HB2.out
            rwa [if_pos hi2] at this
          · refine ⟨lo + spl (h - lo), h, c + 1, A.set c ⟨lo, lo + spl (h - lo), true⟩, by omega, by omega, h2, by omega, by omega, (show h - (lo + spl (h - lo)) ≤ _ by rw [show 40 - (c + 1) = d by omega]; omega), (show _ = _ by rw [List.length_set]; exact HA.out), (show _ = _ by
              rw [HT2.out, HD.out, way_right (by simpa using HCC.out) hi2, show 40 - (c + 1) = d by omega, take_set_snoc _ _ (by rw [HA.out]; omega)]
              simp), ?_, C2, L2⟩
            have := HB2.out
            rwa [if_neg hi2] at this
    · have q1 : ¬ (i : Int) < (h : Int) - 1 := by omega
      have HCC := hide hc
      cases al with
      | false =>
        clear hc
        go_wp2_with (first
          | (refine wpList_load_mid rfl 35 _ rfl (N + 1) 0 rfl (WC lo h A c) _ B1.out.range0 Tryd.underlying35 rfl (by rw [WC_len HA.out]; exact Tryd.sizeW) ?_)
          | (refine wpList_store_blk rfl 35 _ _ rfl N Z (WC lo h A c) 35 rfl rfl C1.out (by rw [WC_len HA.out, hzl]) (by rw [WC_len HA.out]; exact Tryd.sizeW) (WC_one _ _ _ _) ?_; intro w2 hb2 hu2)
          | fail)
        have hT : T = (A.take c, lo, h) := by rw [HT2.out, way_stop (by simpa using HCC.out)]; simp
        have hcl : (A.take c).length = c := by rw [List.length_take, HA.out]; omega
        refine bodyPost_ret (results_cell_row rfl _ _ N 35 _ (0, 0) _ rfl hb2 Tryd.underlying35 rfl (by simpa [WC_len HA.out] using Tryd.sizeW)) rfl ⟨⟨A, ?_, HA.out, ?_⟩, ?_⟩
        · rw [hT]; simp only; rw [hcl]
        · rw [hT]; simp only; rw [hcl]
        · rw [HN.out]
          exact L1.out.trans (hu2.below (by omega) (by have := C1.out.lt; omega))
      | true =>
        have q2 : ¬ (lo : Int) < (i : Int) := by simp at hc; omega
        clear hc
        go_wp2_with (first
          | (refine wpList_load_mid rfl 35 _ rfl (N + 1) 0 rfl (WC lo h A c) _ B1.out.range0 Tryd.underlying35 rfl (by rw [WC_len HA.out]; exact Tryd.sizeW) ?_)
          | (refine wpList_store_blk rfl 35 _ _ rfl N Z (WC lo h A c) 35 rfl rfl C1.out (by rw [WC_len HA.out, hzl]) (by rw [WC_len HA.out]; exact Tryd.sizeW) (WC_one _ _ _ _) ?_; intro w2 hb2 hu2)
          | fail)
        have hT : T = (A.take c, lo, h) := by rw [HT2.out, way_stop (by simpa using HCC.out)]; simp
        have hcl : (A.take c).length = c := by rw [List.length_take, HA.out]; omega
        refine bodyPost_ret (results_cell_row rfl _ _ N 35 _ (0, 0) _ rfl hb2 Tryd.underlying35 rfl (by simpa [WC_len HA.out] using Tryd.sizeW)) rfl ⟨⟨A, ?_, HA.out, ?_⟩, ?_⟩
        · rw [hT]; simp only; rw [hcl]
        · rw [hT]; simp only; rw [hcl]
        · rw [HN.out]
          exact L1.out.trans (hu2.below (by omega) (by have := C1.out.lt; omega))
#print axioms wayFrom_any
end Go.Proofs.YtfclmjfbcmjfbabDoor

/-
  What goes over a way's turns: slices.Backward's function over turns, and the function that (*way).up tells.
-/
namespace Go.Proofs.YtfclmjfbcmjfbabDoor
open Go.RowKit Go.Shelf
attribute [local go_sem] Oper.semAt_some
/-- A call in a walk at the wide fence. -/
theorem wide_call {P : Program} {n m f : Nat} {args : Array Value} {w : World} {R R' : Ending → World → Prop} (h : Calls P f args w R) (hm : ∀ e w', R e w' → R' e w') :
    Fence.wide.fn f ∧ (Fence.wide.depth.isSome = true → 1 ≤ n) ∧ CallsIn Fence.wide m P f args w R' :=
  ⟨trivial, fun h => by simp [Fence.wide] at h, (callsIn_wide.2 h).mono hm⟩
theorem semAt_load9 {r : Option Nat} {ρ : Operand → Value} {op : Oper} {ty : TypeId} {x : Operand} (ho : op.op = .load ty x) : op.semAt r ρ = execOp ρ op := by
  cases r with
  | none => rfl
  | some l => exact Oper.semAt_some l ρ op (by rw [ho]; intro c h; cases h)
theorem semAt_store9 {r : Option Nat} {ρ : Operand → Value} {op : Oper} {ty : TypeId} {x y : Operand} (ho : op.op = .store ty x y) : op.semAt r ρ = execOp ρ op := by
  cases r with
  | none => rfl
  | some l => exact Oper.semAt_some l ρ op (by rw [ho]; intro c h; cases h)
/-- A whole array or struct is loaded, in a walk inside a fence. -/
theorem wpListIn_load_row9 {F : Fence} {n : Nat} {P : Program} {w : World} {ops : Array Oper} {rest : List Oper} {op : Oper} {a : Act} {Q : Exit → Act → World → Prop} (hgd : op.guard = none) (ty : TypeId) (x : Operand) (ho : op.op = .load ty x)
    (b o : Nat) (hx : a.eval x = .pointer (some ⟨b, o, none⟩)) (cs : List Value) (d : TypeDesc) (hc : w.rangeAt b o cs)
    (hu : P.underlying ty = some d) (hd : d.isRow = true) (hi : (P.info? ty).map (·.size) = some cs.length)
    (h : wpListIn F n P ops Q rest (a.put op.dst (.agg cs.toArray)) w) : wpListIn F n P ops Q (op :: rest) a w := by
  refine wpListIn_plain hgd fun K hK => ⟨fun f hf => ?_, ?_⟩
  · simp [Oper.about, ho] at hf
  · rw [semAt_load9 ho]
    simp only [execOp, ho, hx, Sem.run_bind, Sem.run_pure, Result.andThen_ok, run_loadAt_mid w b o ty cs d hc hu hd hi]
    exact hK _ _ h
/-- A whole array or struct is stored over a block, in a walk inside a fence. -/
theorem wpListIn_store_blk {F : Fence} {n : Nat} {P : Program} {w : World} {ops : Array Oper} {rest : List Oper} {op : Oper} {a : Act} {Q : Exit → Act → World → Prop} (hgd : op.guard = none) (ty : TypeId) (x y : Operand) (ho : op.op = .store ty x y)
    (b : Nat) (cs ds : List Value) (T : TypeId) (hx : a.eval x = .pointer (some ⟨b, 0, none⟩)) (hy : a.eval y = .agg ds.toArray) (hB : Blk w b T cs) (hl : ds.length = cs.length)
    (hi : (P.info? ty).map (·.size) = some ds.length) (h1 : ∀ u ∈ ds, u.oneCell' = true)
    (h : ∀ w', Blk w' b T ds → But b w w' → wpListIn F n P ops Q rest (a.put op.dst undef) w') : wpListIn F n P ops Q (op :: rest) a w := by
  refine wpListIn_plain hgd fun K hK => ⟨fun f hf => ?_, ?_⟩
  · simp [Oper.about, ho] at hf
  · have t0 := hB.there 0 ds.length (by omega)
    rw [semAt_store9 ho]
    simp only [execOp, ho, hx, hy, Sem.run_bind, Sem.run_pure, Result.andThen_ok, run_storeAt_mid w b 0 ty ds.toArray (by simpa using t0) (by simpa using hi) (all_one h1)]
    refine hK _ _ (h _ ?_ (But.setCells b _ 0 w))
    have := Blk.over ds hB 0 (by omega)
    rwa [over_all _ _ hl.symm] at this
def tbV (x : Nat × Tn) : Array Value := #[.int .i64 (x.1 : Int), .agg (TE.c x.2).toArray]
def tbR (F : List Tn) (pre : List (Nat × Tn)) (x : Nat × Tn) : Prop := pre.length + x.1 + 1 = F.length ∧ F[x.1]? = some x.2
set_option maxHeartbeats 1000000 in
set_option maxRecDepth 100000 in
theorem tbackward_any (a : Option Addr) (n cap : Nat) (w : World) : Calls Tryd.prog 18 #[.slice a n cap] w fun e w' => e = .returned (.func (.func 24) #[] #[.pointer (some ⟨w.heap.size, 0, none⟩)]) ∧ w' = w.alloc (.cells #[.slice a n cap] 54) := by
  go_enter Tryd.func18, Tryd.ntmps18
  go_wp2
  go_ret
  exact ⟨rfl, rfl⟩
set_option maxHeartbeats 1000000 in
set_option maxRecDepth 100000 in
theorem up_any (D : Nat) (w : World) : Calls Tryd.prog 12 #[.pointer (some ⟨D, 0, none⟩)] w fun e w' => e = .returned (.func (.func 17) #[] #[.pointer (some ⟨w.heap.size, 0, none⟩)]) ∧ w' = w.alloc (.cells #[.pointer (some ⟨D, 0, none⟩)] 44) := by
  go_enter Tryd.func12, Tryd.ntmps12
  go_wp2
  go_ret
  exact ⟨rfl, rfl⟩
set_option maxRecDepth 100000 in
set_option maxHeartbeats 4000000 in
theorem tbackward1_hands (Bx : Nat) (a : Option Addr) (cap : Nat) (F : List Tn) (w : World) (hbox : w.cell? ⟨Bx, 0, none⟩ = some (.slice a F.length cap)) (hBx : Bx < w.heap.size) (hr : RdG TE w (.slice a F.length cap) F) (hl : F.length ≤ 140737488300000)
    {G : Nat → Prop} (hGb : ¬ G Bx) (hGr : ∀ b, InB (.slice a F.length cap) b → ¬ G b) :
    Hands3 Tryd.prog 24 #[.pointer (some ⟨Bx, 0, none⟩)] tbV (tbR F) (fun xs => xs.length = F.length) G w := by
  intro l J Jx W hW hl1 hl2 h0 hJ hJx _ _ hY
  obtain ⟨m, HM⟩ : ∃ m, Hid (F.length = m) := ⟨_, rfl⟩
  have HR := hide hr
  have HG := hide hGr
  clear hr hGr
  rw [HM.out] at hbox HR HG hl ⊢
  have HY := hide hY
  have H0 := hide (h0 W (Below.refl _ _))
  obtain ⟨B, HB⟩ : ∃ B, Hid (W.heap.size = B) := ⟨_, rfl⟩
  rw [HB.out] at H0
  have HBW : Hid (w.heap.size ≤ B) := (show _ by rw [← HB.out]; exact hW.size)
  have HBX := hide hbox
  have hcW : W.cell? ⟨Bx, 0, none⟩ = some (.slice a m cap) := (hW.cell (p := ⟨Bx, 0, none⟩) hBx).trans hbox
  have HL1 := hide hl1
  clear hY hJ hJx h0 hbox hl1 hl2
  obtain ⟨N0, -⟩ : ∃ n : Nat, True := ⟨9, trivial⟩
  refine (callsIn_wide (n := N0)).1 ?_
  refine callsIn_of_wp Tryd.func24 rfl trivial ?_ rfl
  simp only [Tryd.ntmps24, List.size_toArray, List.length_cons, List.length_nil, Nat.reduceAdd, Nat.reduceSub, Array.replicate_succ, Array.replicate_zero, List.push_toArray, List.append_toArray, List.nil_append, List.cons_append]
  gi_wp2
  gi_loopw [3] (fun p wr => ∃ (pre : List (Nat × Tn)) (r : Nat), p = .int .i64 ((r : Int) - 1) ∧ Hid (J B pre wr) ∧ Hid (Chg (fun k => G k ∨ k = l ∨ B ≤ k) w wr) ∧ Hid (pre.length + r = m)) (fun p _ => (intOf p + 1).toNat)
  case atStart => exact ⟨[], m, rfl, H0, Chg.of_below hW, (show _ = _ by simp)⟩
  case round =>
    obtain ⟨pre, r, rfl, HP, HC, HL⟩ := hrel
    have hc0 : wr.cell? ⟨Bx, 0, none⟩ = some (.slice a m cap) := (HC.out.cellAt hBx (by rintro (h | h | h); exact hGb h; have := HL1.out; omega; have := HBW.out; omega)).trans HBX.out
    cases r with
    | zero =>
      have q1 : ¬ (0 : Int) ≤ ((0 : Nat) : Int) - 1 := by omega
      gi_wp2_with fail
      refine bodyPost_end (results_none rfl _ _ _) rfl ?_
      exact ⟨⟨_, rfl⟩, .inl ⟨B, pre, by have := HL.out; omega, HP.out⟩⟩
    | succ r =>
      have q1 : (0 : Int) ≤ (((r + 1 : Nat) : Int)) - 1 := by omega
      have er : (((r + 1 : Nat) : Int)) - 1 = (r : Int) := by omega
      rw [er] at q1 ⊢
      have hrm : r < m := by have := HL.out; omega
      obtain ⟨b, off, ha, hlb, hx⟩ := (HR.out.chg HC.out (by intro b hb; have hbw := HR.out.inB_lt hb; rintro (h | h | h); exact HG.out b hb h; have := HL1.out; omega; have := HBW.out; omega)).nth (by omega)
      have hmk : r < F.length := by rw [HM.out]; exact hrm
      have c0 : wr.rangeAt b (off + r * 3) (TE.c F[r]) := hx r hmk
      have HX : Hid (F[r]? = some F[r]) := List.getElem?_eq_getElem hmk
      generalize F[r] = km at c0 HX
      have hmn : (r : Int) < (m : Int) := by omega
      subst ha
      clear hx
      obtain ⟨fn, tmps, assign, body, hy, hR⟩ := HY.out B pre (r, km) wr (by rw [HB.out]; exact Nat.le_refl _) HP.out ⟨by have := HL.out; rw [HM.out]; omega, HX.out⟩
      simp only [tbV] at hy
      have HRR := hide hR
      clear hR
      gi_wp2_with (first
        | (refine wpListIn_load_row9 rfl 32 _ rfl b (off + r * 3) rfl (TE.c km) _ c0 Tryd.underlying32 rfl Tryd.sizeTn ?_)
        | fail)
      refine ⟨fun h => by simp [Fence.wide] at h, (round_any HRR.out).mono ?_⟩
      rintro e w3 ⟨hc3, -, ⟨rfl, hj⟩ | ⟨rfl, hj⟩⟩
      · gi_wp2_with fail
        go_roundw
        case rel => exact ⟨pre ++ [(r, km)], r, by go_num, hj, HC.out.trans hc3, (show _ = _ by have := HL.out; rw [List.length_append, List.length_singleton]; omega)⟩
        case measure => simp only [intOf]; omega
      · gi_wp2_with fail
        refine bodyPost_ret (results_none rfl _ _ _) rfl ?_
        exact ⟨⟨_, rfl⟩, .inr ⟨_, _, hj⟩⟩
#print axioms tbackward1_hands
end Go.Proofs.YtfclmjfbcmjfbabDoor

/-
  The function that (*way).up tells: what is handed to whatever loop goes over it.
-/
namespace Go.Proofs.YtfclmjfbcmjfbabDoor
open Go.RowKit Go.Shelf
attribute [local go_sem] Oper.semAt_some
def upR (F : List Tn) (pre : List (Nat × Tn)) (x : Nat × Tn) : Prop := x.1 = pre.length ∧ F[x.1]? = some x.2
/-- What was handed on: counted from 0 on. -/
def mp (l : List (Nat × Tn)) : List (Nat × Tn) := l.mapIdx (fun i x => (i, x.2))
theorem mp_snoc (l : List (Nat × Tn)) (x : Nat × Tn) : mp (l ++ [x]) = mp l ++ [(l.length, x.2)] := by
  unfold mp
  rw [List.mapIdx_concat]
theorem mp_len (l : List (Nat × Tn)) : (mp l).length = l.length := by simp [mp]
theorem WC_turns {w : World} {D lo hi c : Nat} {A : List Tn} (hB : Blk w D 35 (WC lo hi A c)) (hA : A.length = 64) (hc : c ≤ 64) : RdG TE w (.slice (some ⟨D, 2, none⟩) c 64) (A.take c) := by
  have hl : (A.take c).length = c := by rw [List.length_take]; omega
  refine ⟨some ⟨D, 2, none⟩, 64, by rw [hl], by omega, by simp [maxLen], fun h => by simp at h, fun _ => ⟨D, 2, rfl, hB.lt, fun j u hj => ?_⟩⟩
  refine hB.cell ?_
  rw [Enc.cs_take] at hj
  have hjl : j < (TE.cs A).length := by
    have := (List.getElem?_eq_some_iff.1 hj).1
    rw [List.length_take] at this
    omega
  have hj2 : (TE.cs A)[j]? = some u := by
    have : j < c * TE.n := by have := (List.getElem?_eq_some_iff.1 hj).1; rw [List.length_take] at this; omega
    rwa [List.getElem?_take_of_lt this] at hj
  unfold WC
  rw [List.append_assoc, List.getElem?_append_right (by simp), show 2 + j - ([Value.int .i64 (lo : Int), Value.int .i64 (hi : Int)] : List Value).length = j by simp, List.getElem?_append_left hjl]
  exact hj2
theorem slice_arr (D c : Nat) (hc : c ≤ 64) (W : World) : (Instr.sliceAt 33 (.pointer (some ⟨D, 2, none⟩)) none (some (.int .i64 (c : Int))) none).run Tryd.prog W = .ok (.slice (some ⟨D, 2, none⟩) c 64) W := by
  have e2 : (c : Int) ≤ 64 := by omega
  have hu : Tryd.prog.underlying 33 = some (.array 64 32) := by kernel_rfl
  cases hq : Tryd.prog.info? 32 with
  | none => have := Tryd.sizeTn; rw [hq] at this; cases this
  | some k => simp [Instr.sliceAt, run_underlying hu, Instr.sureAddr, Instr.sliceBounds, run_sliceBound, e2, sizeOf, typeInfo, hq, Addr.add]
/-- A round of the loop outside is called. -/
theorem wpIn_yield {P : Program} {n k l l0 : Nat} {o : Oper} {a : Act} {w : World} {K : Act → World → Prop} {Q : Exit → Act → World → Prop} {R : Ending → World → Prop} (x y z : Operand) (ts : Array TypeId) (ho : o.op = .call { callee := .value x, args := #[y, z], argTypes := ts })
    {v1 v2 : Value} (hx : a.eval x = .func (.yield l) #[] #[]) (h1 : a.eval y = v1) (h2 : a.eval z = v2) {fn : FuncId} {tmps : Array Value} {assign body : Code} (hy : (Instr.yield l #[v1, v2]).run P w = .ok (.round l fn tmps assign body) w)
    (hR : RoundIn Fence.wide k P l fn tmps assign body w R) (hK : ∀ e w', R e w' → ∃ v, e = .returned v ∧ K (a.put o.dst v) w') : o.wpIn (Fence.wide.inRound l0) n P a w K Q := by
  refine ⟨fun f hf => trivial, ?_⟩
  rw [Oper.semAt_eq _ _ _ (by rw [ho]; intro c h; cases h)]
  have hrun : (execOp a.eval o).run P w = .ok (.round l fn tmps assign body) w := by
    simp only [execOp, ho, hx, h1, h2, resolve, List.map_toArray, List.map_cons, List.map_nil]
    go_simp
  rw [hrun]
  refine ⟨fun h => by simp [Fence.wide] at h, (round_wide hR).mono ?_⟩
  intro e w' hr
  obtain ⟨v, rfl, hk⟩ := hK e w' hr
  exact hk
theorem wp_not {P : Program} {o : Oper} {a : Act} {w : World} {K : Act → World → Prop} {Q : Exit → Act → World → Prop} (t : TypeId) (x : Operand) (ho : o.op = .unOp .not t x) (b : Bool) (hx : a.eval x = .bool b) (hK : K (a.put o.dst (.bool (!b))) w) : o.wp P a w K Q := by
  have hrun : (execOp a.eval o).run P w = .ok (.value (.bool (!b))) w := by
    simp only [execOp, ho, hx]
    go_simp
  unfold Oper.wp
  rw [hrun]
  exact hK
/-- What is kept while the turns are handed on. -/
structure UI (J : Nat → List (Nat × Tn) → World → Prop) (G : Nat → Prop) (l : Nat) (w2 : World) (B : Nat) (pre : List (Nat × Tn)) (X : World) : Prop where
  j : J B (mp pre) X
  b : w2.heap.size < B
  c : Chg (fun k => (G k ∨ k = l) ∨ w2.heap.size ≤ k) w2 X
set_option maxHeartbeats 4000000 in
set_option maxRecDepth 100000 in
theorem up1_hands (Bx D lo hi c : Nat) (A : List Tn) (hA : A.length = 64) (hc : c ≤ 64) (w : World) (hbox : Blk w Bx 44 [.pointer (some ⟨D, 0, none⟩)]) (hD : Blk w D 35 (WC lo hi A c)) {G : Nat → Prop} (hGl : ∀ k, G k → k < w.heap.size) (hGb : ¬ G Bx) (hGd : ¬ G D) :
    Hands3 Tryd.prog 17 #[.pointer (some ⟨Bx, 0, none⟩)] tbV (upR (A.take c).reverse) (fun xs => xs.length = (A.take c).reverse.length) G w := by
  intro l J Jx W hW hl1 hl2 h0 hJ hJx hJp hJxp hY
  have HA := hide hA
  have HY := hide hY
  have H0 := hide h0
  have HJ := hide hJ
  have HJX := hide hJx
  have HJP := hide hJp
  have HJXP := hide hJxp
  have HGL := hide hGl
  have HGB := hide hGb
  have HGD := hide hGd
  have HL1 := hide hl1
  have HL2 := hide hl2
  have HBX := hide hbox
  have HDD := hide hD
  have HTL : Hid ((A.take c).length = c) := (show _ = _ by rw [List.length_take, hA]; omega)
  have hws := hW.size
  have BX0 := hide (hbox.kept hW)
  have BD0 := hide (hD.kept hW)
  obtain ⟨M, HM⟩ : ∃ M, Hid (W.heap.size = M) := ⟨_, rfl⟩
  have hsl := slice_arr D c hc
  clear hY h0 hJ hJx hJp hJxp hGl hGb hGd hl1 hl2 hbox hD hA hws
  obtain ⟨N0, -⟩ : ∃ n : Nat, True := ⟨9, trivial⟩
  refine (callsIn_wide (n := N0)).1 ?_
  refine callsIn_of_wp_marks Tryd.func17 rfl trivial ?_ rfl
  simp only [Tryd.ntmps17, List.size_toArray, List.length_cons, List.length_nil, Nat.reduceAdd, Nat.reduceSub, Array.replicate_succ, Array.replicate_zero, List.push_toArray, List.append_toArray, List.nil_append, List.cons_append]
  gi_wp2_with fail
  obtain ⟨W1, hW1⟩ : ∃ z, z = W.alloc (.cells #[.func (.yield l) #[] #[]] 52 (0, 0)) := ⟨_, rfl⟩
  change Code.wpIn _ _ _ _ _ _ (W.alloc (.cells #[.func (.yield l) #[] #[]] 52 (0, 0)))
  rw [show W.alloc (.cells #[.func (.yield l) #[] #[]] 52 (0, 0)) = W1 from hW1.symm, HM.out]
  have BY1 : Hid (Blk W1 M 52 [.func (.yield l) #[] #[]]) := (show Blk _ _ _ _ by rw [hW1, ← HM.out]; exact Blk.new W _ [.func (.yield l) #[] #[]])
  have LM1 : Hid (Below W.heap.size W W1) := (show Below _ _ _ by rw [hW1]; exact (Below.refl _ _).alloc (Nat.le_refl _) _)
  have S1 : Hid (W1.heap.size = M + 1) := (show _ = _ by rw [hW1]; simp [HM.out])
  have BX1 := hide (BX0.out.kept LM1.out)
  have BD1 := hide (BD0.out.kept LM1.out)
  clear hW1
  refine wpIn_region_tails op_inW Tryd.mixed (by decide +kernel) (KS (fun i_ => match i_ with | 0 | 1 | 3 | 4 => .val (.pointer (some ⟨D, 0, none⟩)) | 2 => .val (.pointer (some ⟨D, 2, none⟩)) | 5 => .val (.pointer (some ⟨D, 194, none⟩)) | 6 => .val (.int .i64 (c : Int)) | 7 => .val (.slice (some ⟨D, 2, none⟩) c 64) | _ => .free)) 27 rfl (by decide +kernel) 8 (by decide) (by decide +kernel) (KS_mono _) ?_ ?_
  · refine AllFrom.cons ⟨rfl, fun a' w' hg hk hd => ?_⟩ (AllFrom.cons ⟨rfl, fun a' w' hg hk hd => ?_⟩ (AllFrom.cons ⟨rfl, fun a' w' hg hk hd => ?_⟩ (AllFrom.cons ⟨rfl, fun a' w' hg hk hd => ?_⟩ (AllFrom.cons ⟨rfl, fun a' w' hg hk hd => ?_⟩ (AllFrom.cons ⟨rfl, fun a' w' hg hk hd => ?_⟩ (AllFrom.cons ⟨rfl, fun a' w' hg hk hd => ?_⟩ (AllFrom.cons ⟨rfl, fun a' w' hg hk hd => ?_⟩ AllFrom.nil)))))))
    · skip
      intro Q
      have e1 : a'.eval (.tmp 1) = .pointer (some ⟨Bx, 0, none⟩) := hk.at 1 (by decide +kernel)
      have hc := (BX1.out.kept hg).cell (j := 0) rfl
      clear hd hk
      exact wp_value (.pointer (some ⟨D, 0, none⟩)) (by simp only [execOp, e1]; go_simp) (KS_mkv rfl rfl)
    · skip
      intro Q
      have e5 : a'.eval (.tmp 5) = .pointer (some ⟨D, 0, none⟩) := KS_val (hd.val 0 5 (by decide +kernel)) rfl
      clear hd hk
      exact wp_value (.pointer (some ⟨D, 0, none⟩)) (by simp only [execOp, e5]; go_simp) (KS_mkv rfl rfl)
    · skip
      intro Q
      have e6 : a'.eval (.tmp 6) = .pointer (some ⟨D, 0, none⟩) := KS_val (hd.val 1 6 (by decide +kernel)) rfl
      clear hd hk
      exact wp_value (.pointer (some ⟨D, 2, none⟩)) (by simp only [execOp, e6]; go_simp) (KS_mkv rfl rfl)
    · skip
      intro Q
      have e1 : a'.eval (.tmp 1) = .pointer (some ⟨Bx, 0, none⟩) := hk.at 1 (by decide +kernel)
      have hc := (BX1.out.kept hg).cell (j := 0) rfl
      clear hd hk
      exact wp_value (.pointer (some ⟨D, 0, none⟩)) (by simp only [execOp, e1]; go_simp) (KS_mkv rfl rfl)
    · skip
      intro Q
      have e8 : a'.eval (.tmp 8) = .pointer (some ⟨D, 0, none⟩) := KS_val (hd.val 3 8 (by decide +kernel)) rfl
      clear hd hk
      exact wp_value (.pointer (some ⟨D, 0, none⟩)) (by simp only [execOp, e8]; go_simp) (KS_mkv rfl rfl)
    · skip
      intro Q
      have e9 : a'.eval (.tmp 9) = .pointer (some ⟨D, 0, none⟩) := KS_val (hd.val 4 9 (by decide +kernel)) rfl
      clear hd hk
      exact wp_value (.pointer (some ⟨D, 194, none⟩)) (by simp only [execOp, e9]; go_simp) (KS_mkv rfl rfl)
    · skip
      intro Q
      have e10 : a'.eval (.tmp 10) = .pointer (some ⟨D, 194, none⟩) := KS_val (hd.val 5 10 (by decide +kernel)) rfl
      have hc := (BD1.out.kept hg).cell (WC_count HA.out)
      clear hd hk
      exact wp_value (.int .i64 (c : Int)) (by simp only [execOp, e10]; go_simp) (KS_mkv rfl rfl)
    · skip
      intro Q
      have e7 : a'.eval (.tmp 7) = .pointer (some ⟨D, 2, none⟩) := KS_val (hd.val 2 7 (by decide +kernel)) rfl
      have e11 : a'.eval (.tmp 11) = .int .i64 (c : Int) := KS_val (hd.val 6 11 (by decide +kernel)) rfl
      clear hd hk
      exact wp_value (.slice (some ⟨D, 2, none⟩) c 64) (by simp only [execOp, e7, e11, hsl, Option.map_none, Option.map_some, Sem.run_bind, Sem.run_pure, Result.andThen_ok]) (KS_mkv rfl rfl)
  intro a' w' hsz hdf hk hall hg
  have e5 : a'.eval (.tmp 5) = .pointer (some ⟨D, 0, none⟩) := KS_val (hall 0 _ 5 (by decide) rfl rfl) rfl
  have e6 : a'.eval (.tmp 6) = .pointer (some ⟨D, 0, none⟩) := KS_val (hall 1 _ 6 (by decide) rfl rfl) rfl
  have e7 : a'.eval (.tmp 7) = .pointer (some ⟨D, 2, none⟩) := KS_val (hall 2 _ 7 (by decide) rfl rfl) rfl
  have e8 : a'.eval (.tmp 8) = .pointer (some ⟨D, 0, none⟩) := KS_val (hall 3 _ 8 (by decide) rfl rfl) rfl
  have e9 : a'.eval (.tmp 9) = .pointer (some ⟨D, 0, none⟩) := KS_val (hall 4 _ 9 (by decide) rfl rfl) rfl
  have e10 : a'.eval (.tmp 10) = .pointer (some ⟨D, 194, none⟩) := KS_val (hall 5 _ 10 (by decide) rfl rfl) rfl
  have e11 : a'.eval (.tmp 11) = .int .i64 (c : Int) := KS_val (hall 6 _ 11 (by decide) rfl rfl) rfl
  have e12 : a'.eval (.tmp 12) = .slice (some ⟨D, 2, none⟩) c 64 := KS_val (hall 7 _ 12 (by decide) rfl rfl) rfl
  refine ⟨rfl, op_inW (fun c h => by cases h) ?_⟩
  refine Oper.wp_mono ?_ (wp_call (S := fun w v => (∃ b, v = .func (.func 24) #[] #[.pointer (some ⟨b, 0, none⟩)] ∧ Blk w b 54 [.slice (some ⟨D, 2, none⟩) c 64] ∧ M + 1 ≤ b) ∧ Below W1.heap.size W1 w) 18 _ (run_enter 18 _ _ rfl (by kernel_rfl)) ?_)
  rotate_left
  · simp only [List.map_toArray, List.map_nil, List.map_cons, e12]
    refine (tbackward_any _ _ _ _).mono ?_
    rintro e w5 ⟨rfl, rfl⟩
    exact ⟨_, rfl, ⟨⟨_, rfl, Blk.new _ _ _, by have := hg.size; have := S1.out; omega⟩, Below.trans hg ((Below.refl _ _).alloc hg.size _)⟩, (Below.refl _ _).alloc (Nat.le_refl _) _⟩
  rintro a2 w2 ⟨v, rfl, ⟨⟨E, rfl, hE, hME⟩, hg2⟩, -⟩
  refine ⟨_, rfl, ?_⟩
  show Exit.then _ _ Exit.normal (a'.put (some 13) (.func (.func 24) #[] #[.pointer (some ⟨E, 0, none⟩)])) w2
  have ha := act_puts 27 rfl hsz hdf hk [5, 6, 7, 8, 9, 10, 11, 12, 13] (by decide +kernel)
  obtain ⟨z13, e13⟩ : ∃ v, a'.eval (.tmp 13) = v := ⟨_, rfl⟩
  simp only [puts, List.foldl_cons, List.foldl_nil, e5, e6, e7, e8, e9, e10, e11, e12, e13] at ha
  simp only [Act.put, List.setIfInBounds_toArray, List.set_cons_succ, List.set_cons_zero] at ha
  clear hall hk hsz hdf hg e5 e6 e7 e8 e9 e10 e11 e12 e13
  subst ha
  simp only [Act.put, List.setIfInBounds_toArray, List.set_cons_succ, List.set_cons_zero]
  have hg := hg2
  clear hg2
  have BE2 := hide hE
  have HME := hide hME
  have G2 := hide hg
  have BY2 := hide (BY1.out.kept hg)
  have BX2 := hide (BX1.out.kept hg)
  have BD2 := hide (BD1.out.kept hg)
  have L2 : Hid (Below W.heap.size W w2) := LM1.out.trans (Below.mono hg LM1.out.size)
  have RT2 := hide (WC_turns BD2.out HA.out hc)
  have hw2 : M + 1 ≤ w2.heap.size := by have := hg.size; rw [S1.out] at this; exact this
  have hwM : w.heap.size ≤ M := by rw [← HM.out]; exact hW.size
  have hlM : l < M := by rw [← HM.out]; exact HL2.out
  have hDw := HDD.out.lt
  have hBw := HBX.out.lt
  have hlw := HL1.out
  clear hg hE hME
  gi_wp2_with fail
  refine wp_ranged4 (n := N0) (gf := 24) (lb := #[.pointer (some ⟨E, 0, none⟩)]) rfl (enters_of Tryd.func24 (by kernel_rfl) rfl) (encs := tbV) (fun _ => rfl) (R := tbR (A.take c)) (S := fun xs => xs.length = (A.take c).length) (UI J G l w2) (fun c_ B pre X => c_ = .ret ∧ w2.heap.size < B ∧ Jx B (mp pre) X) ?ip ?xp ?ib ?xb ?h0 (G := fun k => G k ∨ k = l)
    (tbackward1_hands E (some ⟨D, 2, none⟩) 64 (A.take c) w2 ?c1 BE2.out.lt ?c3 ?c4 ?c5 ?c6)
    (fun x h => { tmps := #[.func (.yield l) #[] #[], .pointer (some ⟨Bx, 0, none⟩), .pointer (some ⟨M, 0, none⟩), .int .i64 (x.1 : Int), .pointer (some ⟨h, 0, none⟩), .pointer (some ⟨D, 0, none⟩), .pointer (some ⟨D, 0, none⟩), .pointer (some ⟨D, 2, none⟩), .pointer (some ⟨D, 0, none⟩), .pointer (some ⟨D, 0, none⟩), .pointer (some ⟨D, 194, none⟩), .int .i64 (c : Int), .slice (some ⟨D, 2, none⟩) c 64, .func (.func 24) #[] #[.pointer (some ⟨E, 0, none⟩)], .int .i64 (x.1 : Int), .agg (TE.c x.2).toArray, undef, undef, undef, undef, undef, undef, undef, undef, undef, undef, undef], defers := [] }) (fun x h X => Blk X h 32 (TE.c x.2)) ?ap ?assign ?body ?done ?left
  case c1 => rw [HTL.out]; exact BE2.out.cell rfl
  case c3 => rw [HTL.out]; exact RT2.out
  case c4 => rw [HTL.out]; omega
  case c5 =>
    rintro (h | h)
    · have := HGL.out _ h; have := HME.out; omega
    · have := HME.out; omega
  case c6 =>
    rw [HTL.out]
    intro b' hb' h
    obtain ⟨o', n', c', e', hp'⟩ := hb'
    simp only [Value.slice.injEq, Option.some.injEq, Addr.mk.injEq, and_true] at e'
    obtain ⟨⟨rfl, -⟩, -, -⟩ := e'
    rcases h with h | h
    · exact HGD.out h
    · omega
  case ip =>
    intro B pre X k o0 o hk hX hn hI
    exact ⟨HJP.out _ _ _ _ _ _ (by rw [HM.out]; omega) hX hn hI.j, hI.b, hI.c.trans (chg_put (.inr hk) o)⟩
  case xp =>
    rintro c_ B pre X k o0 o hk hX hn ⟨rfl, hb, hj⟩
    exact ⟨rfl, hb, HJXP.out _ _ _ _ _ _ (by rw [HM.out]; omega) hX hn hj⟩
  case ib =>
    intro B pre X Y hI hb
    exact ⟨HJ.out _ _ _ _ hI.j hb, hI.b, hI.c.trans (Chg.of_below hb)⟩
  case xb =>
    rintro c_ B pre X Y ⟨rfl, h1, hj⟩ hb
    exact ⟨rfl, h1, HJX.out _ _ _ _ hj hb⟩
  case h0 =>
    intro X hX hlt
    exact ⟨H0.out X (L2.out.trans (hX.mono L2.out.size)), hlt, Chg.of_below hX⟩
  case ap =>
    intro x h X k o0 o hk hX hn hB
    exact hB.put10 hX hn
  case assign =>
    intro m l' x X K' hle hK
    have BW := Blk.new X 32 (TE.c Tz)
    simp only [tbV]
    gi_wp2_with (first
      | (refine wpListIn_store_blk rfl 32 _ _ rfl X.heap.size (TE.c Tz) (TE.c x.2) 32 rfl rfl BW rfl Tryd.sizeTn (TE.one _) ?_; intro w5 hb5 hu5)
      | fail)
    exact hK w5 (((Below.refl _ _).alloc (Nat.le_refl _) _).trans (hu5.below (Nat.le_refl _) (by simp))) hb5
  case body =>
    rintro m l' B pre ⟨r, t⟩ h X hwB hBh hle hI hR hA
    obtain ⟨hR1, hR2⟩ := hR
    rw [HTL.out] at hR1
    simp only at hR1 hR2 hA
    have ij := hide hI.j
    have ic := hide hI.c
    have BY := hide (BY2.out.chg hI.c (by rintro ((h | h) | h); have := HGL.out _ h; omega; omega; have := BY2.out.lt; omega))
    have BXr := hide (BX2.out.chg hI.c (by rintro ((h | h) | h); exact HGB.out h; omega; have := BX2.out.lt; omega))
    have BDr := hide (BD2.out.chg hI.c (by rintro ((h | h) | h); exact HGD.out h; omega; have := BD2.out.lt; omega))
    have HAf := hide hA
    obtain ⟨p, HPL⟩ : ∃ p, Hid (pre.length = p) := ⟨_, rfl⟩
    rw [HPL.out] at hR1
    have hpr : (c : Int) - 1 - (r : Int) = (p : Int) := by omega
    have hidx : (A.take c).reverse[p]? = some t := by
      rw [List.getElem?_reverse (by rw [HTL.out]; omega), HTL.out, show c - 1 - p = r by omega]
      exact hR2
    have HIDX := hide hidx
    have HIB := hide hI.b
    clear hI hA hidx hR2
    gi_wp2_with fail
    refine wpIn_region_tails op_in Tryd.mixed (by decide +kernel) (KS (fun i_ => match i_ with | 0 => .val (.func (.yield l) #[] #[]) | 1 | 2 => .val (.pointer (some ⟨D, 0, none⟩)) | 3 => .val (.pointer (some ⟨D, 194, none⟩)) | 4 => .val (.int .i64 (c : Int)) | 5 => .val (.int .i64 ((c : Int) - 1)) | 6 => .val (.int .i64 (r : Int)) | 7 => .val (.int .i64 (p : Int)) | 8 => .val (.agg (TE.c t).toArray) | _ => .free)) 27 rfl (by decide +kernel) 9 (by decide) (by decide +kernel) (KS_mono _) ?_ ?_
    · refine AllFrom.cons ⟨rfl, fun a' w' hg hk hd => ?_⟩ (AllFrom.cons ⟨rfl, fun a' w' hg hk hd => ?_⟩ (AllFrom.cons ⟨rfl, fun a' w' hg hk hd => ?_⟩ (AllFrom.cons ⟨rfl, fun a' w' hg hk hd => ?_⟩ (AllFrom.cons ⟨rfl, fun a' w' hg hk hd => ?_⟩ (AllFrom.cons ⟨rfl, fun a' w' hg hk hd => ?_⟩ (AllFrom.cons ⟨rfl, fun a' w' hg hk hd => ?_⟩ (AllFrom.cons ⟨rfl, fun a' w' hg hk hd => ?_⟩ (AllFrom.cons ⟨rfl, fun a' w' hg hk hd => ?_⟩ AllFrom.nil))))))))
      · skip
        intro Q
        have e2 : a'.eval (.tmp 2) = .pointer (some ⟨M, 0, none⟩) := hk.at 2 (by decide +kernel)
        have hc := (BY.out.kept hg).cell (j := 0) rfl
        clear hd hk
        exact wp_value (.func (.yield l) #[] #[]) (by simp only [execOp, e2]; go_simp) (KS_mkv rfl rfl)
      · skip
        intro Q
        have e1 : a'.eval (.tmp 1) = .pointer (some ⟨Bx, 0, none⟩) := hk.at 1 (by decide +kernel)
        have hc := (BXr.out.kept hg).cell (j := 0) rfl
        clear hd hk
        exact wp_value (.pointer (some ⟨D, 0, none⟩)) (by simp only [execOp, e1]; go_simp) (KS_mkv rfl rfl)
      · skip
        intro Q
        have e17 : a'.eval (.tmp 17) = .pointer (some ⟨D, 0, none⟩) := KS_val (hd.val 1 17 (by decide +kernel)) rfl
        clear hd hk
        exact wp_value (.pointer (some ⟨D, 0, none⟩)) (by simp only [execOp, e17]; go_simp) (KS_mkv rfl rfl)
      · skip
        intro Q
        have e18 : a'.eval (.tmp 18) = .pointer (some ⟨D, 0, none⟩) := KS_val (hd.val 2 18 (by decide +kernel)) rfl
        clear hd hk
        exact wp_value (.pointer (some ⟨D, 194, none⟩)) (by simp only [execOp, e18]; go_simp) (KS_mkv rfl rfl)
      · skip
        intro Q
        have e19 : a'.eval (.tmp 19) = .pointer (some ⟨D, 194, none⟩) := KS_val (hd.val 3 19 (by decide +kernel)) rfl
        have hc := (BDr.out.kept hg).cell (WC_count HA.out)
        clear hd hk
        exact wp_value (.int .i64 (c : Int)) (by simp only [execOp, e19]; go_simp) (KS_mkv rfl rfl)
      · skip
        intro Q
        have e20 : a'.eval (.tmp 20) = .int .i64 (c : Int) := KS_val (hd.val 4 20 (by decide +kernel)) rfl
        clear hd hk
        have hw : IntKind.i64.wrap ((c : Int) - 1) = (c : Int) - 1 := wr64 (by omega) (by omega)
        exact wp_value (.int .i64 ((c : Int) - 1)) (by simp only [execOp, e20]; go_simp) (KS_mkv rfl rfl)
      · skip
        intro Q
        have e3 : a'.eval (.tmp 3) = .int .i64 (r : Int) := hk.at 3 (by decide +kernel)
        exact wp_value _ (by simp only [execOp, e3]; rfl) (KS_mkv rfl rfl)
      · skip
        intro Q
        have e21 : a'.eval (.tmp 21) = .int .i64 ((c : Int) - 1) := KS_val (hd.val 5 21 (by decide +kernel)) rfl
        have e22 : a'.eval (.tmp 22) = .int .i64 (r : Int) := KS_val (hd.val 6 22 (by decide +kernel)) rfl
        clear hd hk
        have hw : IntKind.i64.wrap ((p : Int)) = (p : Int) := wr64 (by omega) (by omega)
        have hq : (c : Int) - 1 - (r : Int) = (p : Int) := hpr
        exact wp_value (.int .i64 (p : Int)) (by simp only [execOp, e21, e22]; go_simp) (KS_mkv rfl rfl)
      · skip
        intro Q
        have e4 : a'.eval (.tmp 4) = .pointer (some ⟨h, 0, none⟩) := hk.at 4 (by decide +kernel)
        exact wp_load_row 32 _ rfl _ _ e4 (TE.c t) _ ((HAf.out.kept hg).range0) Tryd.underlying32 rfl (Tryd.sizeTn) (KS_mkv rfl rfl)
    · intro a' w5 hsz hdf hk hall hg
      have e16 : a'.eval (.tmp 16) = .func (.yield l) #[] #[] := KS_val (hall 0 _ 16 (by decide) rfl rfl) rfl
      have e17 : a'.eval (.tmp 17) = .pointer (some ⟨D, 0, none⟩) := KS_val (hall 1 _ 17 (by decide) rfl rfl) rfl
      have e18 : a'.eval (.tmp 18) = .pointer (some ⟨D, 0, none⟩) := KS_val (hall 2 _ 18 (by decide) rfl rfl) rfl
      have e19 : a'.eval (.tmp 19) = .pointer (some ⟨D, 194, none⟩) := KS_val (hall 3 _ 19 (by decide) rfl rfl) rfl
      have e20 : a'.eval (.tmp 20) = .int .i64 (c : Int) := KS_val (hall 4 _ 20 (by decide) rfl rfl) rfl
      have e21 : a'.eval (.tmp 21) = .int .i64 ((c : Int) - 1) := KS_val (hall 5 _ 21 (by decide) rfl rfl) rfl
      have e22 : a'.eval (.tmp 22) = .int .i64 (r : Int) := KS_val (hall 6 _ 22 (by decide) rfl rfl) rfl
      have e23 : a'.eval (.tmp 23) = .int .i64 (p : Int) := KS_val (hall 7 _ 23 (by decide) rfl rfl) rfl
      have e24 : a'.eval (.tmp 24) = .agg (TE.c t).toArray := KS_val (hall 8 _ 24 (by decide) rfl rfl) rfl
      obtain ⟨fn, tmps, assign, body, hy, hRR⟩ := HY.out B (mp pre) (p, t) w5 (by rw [HM.out]; omega) (HJ.out _ _ _ _ ij.out hg) ⟨by rw [mp_len, HPL.out], HIDX.out⟩
      simp only [tbV] at hy
      refine ⟨rfl, wpIn_yield _ _ _ _ rfl e16 e23 e24 hy hRR ?_⟩
      rintro e w6 ⟨hc6, hk6, hcase⟩
      have hc7 : Chg (fun k => (G k ∨ k = l) ∨ B ≤ k) X w6 := (Chg.of_below hg).trans (hc6.mono (fun i _ h => by rcases h with h | h | h; exact .inl (.inl h); exact .inl (.inr h); exact .inr h))
      have hk7 : KeepsFrom w2.heap.size X w6 := (keeps_below hg).trans (keeps_mono hk6 (by have := L2.out.size; omega))
      have hc8 : Chg (fun k => (G k ∨ k = l) ∨ w2.heap.size ≤ k) w2 w6 := ic.out.trans (hc7.mono (fun i _ h => by rcases h with h | h; exact .inl h; exact .inr (by have := HIB.out; omega)))
      have ha := act_puts 27 rfl hsz hdf hk [16, 17, 18, 19, 20, 21, 22, 23, 24, 25, 26] (by decide +kernel)
      have hs0 : a'.tmps.size = 27 := hsz
      obtain ⟨z25, e25⟩ : ∃ v, a'.eval (.tmp 25) = v := ⟨_, rfl⟩
      obtain ⟨z26, e26⟩ : ∃ v, a'.eval (.tmp 26) = v := ⟨_, rfl⟩
      simp only [puts, List.foldl_cons, List.foldl_nil, e16, e17, e18, e19, e20, e21, e22, e23, e24, e25, e26] at ha
      simp only [Act.put, List.setIfInBounds_toArray, List.set_cons_succ, List.set_cons_zero] at ha
      clear hall hk hsz hdf e16 e17 e18 e19 e20 e21 e22 e23 e24 e25 e26 hy hRR hc6 hk6
      have HJS : Hid (mp pre ++ [(p, t)] = mp (pre ++ [(r, t)])) := (show _ = _ by rw [mp_snoc, HPL.out])
      rw [HJS.out] at hcase
      rcases hcase with ⟨rfl, hj⟩ | ⟨rfl, hj⟩
      · refine ⟨_, rfl, _, rfl, rfl, op_in (fun c h => by cases h) (wp_not _ _ rfl true (eval_put_same (by rw [hs0]; decide)) ⟨_, rfl, ?_⟩)⟩
        show Exit.then _ _ Exit.normal _ w6
        subst ha
        simp only [Act.put, List.setIfInBounds_toArray, List.set_cons_succ, List.set_cons_zero]
        gi_wp2_with fail
        exact ⟨hk7, hc7, hj, HIB.out, hc8⟩
      · refine ⟨_, rfl, _, rfl, rfl, op_in (fun c h => by cases h) (wp_not _ _ rfl false (eval_put_same (by rw [hs0]; decide)) ⟨_, rfl, ?_⟩)⟩
        show Exit.then _ _ Exit.normal _ w6
        subst ha
        simp only [Act.put, List.setIfInBounds_toArray, List.set_cons_succ, List.set_cons_zero]
        gi_wp2_with fail
        exact ⟨hk7, hc7, rfl, hj⟩

  case done =>
    rintro Dd B xs X hDd hDB hS hI hd
    gi_wp2_with fail
    refine ⟨by simp, .inl ⟨_, _, rfl, run_takeDeferred hd, ?_⟩⟩
    refine ⟨_, results_none rfl _ _ _, ⟨_, rfl⟩, .inl ⟨B, mp xs, ?_, HJP.out _ _ _ _ _ _ (by rw [HM.out]; omega) hd rfl hI.j⟩⟩
    rw [mp_len, List.length_reverse]
    exact hS
  case left =>
    rintro Dd B c_ xs X hDd hDB ⟨rfl, hb, hj⟩ hd
    gi_wp2_with fail
    refine ⟨by simp, .inl ⟨_, _, rfl, run_takeDeferred hd, ?_⟩⟩
    exact ⟨_, results_none rfl _ _ _, ⟨_, rfl⟩, .inr ⟨B, mp xs, HJXP.out _ _ _ _ _ _ (by rw [HM.out]; omega) hd rfl hj⟩⟩
#print axioms up1_hands
end Go.Proofs.YtfclmjfbcmjfbabDoor

/-
  append onto a row of the call's own, where it lies; a slice is stored into a variable.
-/
namespace Go.Proofs.YtfclmjfbcmjfbabDoor
open Go.RowKit
/-- append onto a row of the call's own: where what comes lies. -/
theorem run_append_at {P : Program} (w : World) (base : Nat) (t tx ty e : TypeId) (i : TypeInfo) (z : Value) (size bytes : Nat) (ht : P.underlying t = some (.slice e)) (hi : P.info? e = some i) (hz : i.zero = some z)
    (hsize : i.size = size) (hby : i.bytes = bytes) (hzs : z.cells.size = size)
    (v : Value) (n : Nat) (xs : List Value) (hown : w.ownsRow base e size v n xs)
    (x : Value) (m : Nat) (news : List Value) (hs : Src P size tx x m news w)
    (h63 : n + m ≤ maxLen) (hbytes : (n + m) * bytes ≤ 140737488355328) (hbase : base ≤ w.heap.size) :
    ∃ v' w', (Builtin.append_ #[t, tx] ty #[v, x]).run P w = .ok v' w' ∧ w'.ownsRow base e size v' (n + m) (xs ++ news) ∧ w.grownBy w' v.ownBlock ∧ ∀ b, v'.ownBlock = some b → v.ownBlock = some b ∨ b = w.heap.size := by
  subst hsize
  subst hby
  have hl := hs.newsLen
  have hsmall : n + m ≤ 9223372036854775807 := by simp only [maxLen] at h63; omega
  have hlen : (xs ++ news).length = (n + m) * i.size := by rw [List.length_append, hown.1, hl, Nat.add_mul]
  have grown : ∀ (old : Nat), old < n + m → ∀ (row : Option Nat),
      (w.drew.alloc (.cells ((xs ++ news).toArray ++ Builtin.zeroCells z.cells (grownCap w (n + m) old e - (n + m))) e)).ownsRow base e i.size
        (.slice (some ⟨w.heap.size, 0, none⟩) (n + m) (grownCap w (n + m) old e)) (n + m) (xs ++ news) ∧
      w.grownBy (w.drew.alloc (.cells ((xs ++ news).toArray ++ Builtin.zeroCells z.cells (grownCap w (n + m) old e - (n + m))) e)) row := by
    intro old ho row
    have hge := grownCap_ge w (n + m) old e
    have hcm : grownCap w (n + m) old e ≤ maxLen := grownCap_le_maxLen w (n + m) old e h63
    refine ⟨⟨hlen, .inr ⟨w.heap.size, _, _, rfl, hbase, heap_alloc_new w.drew _, hge, hcm, ?_, ?_⟩⟩, ⟨rfl, rfl, rfl, by simp, fun k hk _ => Below.heap_alloc w.drew _ k hk⟩⟩
    · simp only [Array.size_append, List.size_toArray, size_zeroCells, hzs, hlen, ← Nat.add_mul]
      congr 1
      omega
    · simp only [Array.toList_append]
      rw [← hlen]
      exact List.take_left
  rcases hown.2 with ⟨rfl, rfl⟩ | ⟨g, cap, cur, rfl, hbg, hg, hnc, hcm, hcs, htake⟩
  · have hx : xs = [] := List.eq_nil_of_length_eq_zero (by simpa using hown.1)
    subst hx
    by_cases hm : m = 0
    · subst hm
      have hn : news = [] := List.eq_nil_of_length_eq_zero (by simpa using hl)
      subst hn
      refine ⟨.slice none 0 0, w, ?_, World.ownsRow_nil w base e i.size, ⟨rfl, rfl, rfl, Nat.le_refl _, fun _ _ _ => rfl⟩, fun _ h => .inl h⟩
      rcases hs.kind with ⟨e', hk⟩ | hk <;> simp [Builtin.append_, run_underlying ht, run_underlying hk, sizeOf, typeInfo, hi, hs.len, hs.cells]
    · have hr := run_append_grow_src (P := P) w t tx ty e i z ht hi hz none 0 0 [] (run_firstCells_none w.drew i.size 0 0 0) x m news hs (by omega) (by omega) (growslice_fits (by omega) hbytes)
      have hgr := grown 0 (by omega) (Value.ownBlock (.slice none 0 0))
      exact ⟨_, _, hr, hgr.1, hgr.2, fun b hb => .inr (by simpa [Value.ownBlock] using hb.symm)⟩
  · by_cases hroom : n + m ≤ cap
    · have hfit : n * i.size + news.length ≤ cur.size := by rw [hl, hcs, ← Nat.add_mul]; exact Nat.mul_le_mul_right _ hroom
      have hst := run_storeCells_at P g (n * i.size) e news 0 cur w hg (by simpa using hfit) hs.one
      simp only [Nat.add_zero] at hst
      have hr : (Builtin.append_ #[t, tx] ty #[.slice (some ⟨g, 0, none⟩) n cap, x]).run P w =
          .ok (.slice (some ⟨g, 0, none⟩) (n + m) cap) (w.setRow g (cur.toList.take (n * i.size) ++ news ++ cur.toList.drop (n * i.size + news.length)).toArray) := by
        rcases hs.kind with ⟨e', hk⟩ | hk <;> simp [Builtin.append_, run_underlying ht, run_underlying hk, sizeOf, typeInfo, hi, hs.len, hroom, hs.cells, Addr.add_lit, hst]
      refine ⟨_, _, hr, ⟨hlen, .inr ⟨g, cap, _, rfl, hbg, setRow_heap w g cur _ e _ hg, hroom, hcm, ?_, ?_⟩⟩, ⟨rfl, rfl, rfl, by simp, fun k _ hk => setRow_other w g k _ (fun e => hk (by simp [Value.ownBlock, e]))⟩, fun _ h => .inl h⟩
      · simp only [List.size_toArray, List.length_append, List.length_take, List.length_drop, Array.length_toList]
        omega
      · rw [htake, ← hlen]
        exact List.take_left
    · have holds : ∀ j u, xs[j]? = some u → w.drew.cell? ((⟨g, 0, none⟩ : Addr).add j) = some u := fun j u hj => by simpa using hown.cells (g := g) rfl j u hj
      have hr := run_append_grow_src (P := P) w t tx ty e i z ht hi hz (some ⟨g, 0, none⟩) n cap xs (run_firstCells_some w.drew i.size n ⟨g, 0, none⟩ n cap xs hown.1 holds) x m news hs (by omega) (by omega) (growslice_fits (by omega) hbytes)
      have hgr := grown cap (by omega) (Value.ownBlock (.slice (some ⟨g, 0, none⟩) n cap))
      exact ⟨_, _, hr, hgr.1, hgr.2, fun b hb => .inr (by simpa [Value.ownBlock] using hb.symm)⟩
theorem append_own {w : World} {base : Nat} {v xv : Value} {L M : List Hs} (hown : OwnG HE w base 23 v L) (hr : RdG HE w xv M) (hl : L.length + M.length ≤ 100000) (hbase : base ≤ w.heap.size) :
    ∃ v' w', (Builtin.append_ #[26, 26] 26 #[v, xv]).run Tryd.prog w = .ok v' w' ∧ OwnG HE w' base 23 v' (L ++ M) ∧ w.grownBy w' v.ownBlock ∧ ∀ b, v'.ownBlock = some b → v.ownBlock = some b ∨ b = w.heap.size := by
  obtain ⟨i, z, h1, h2, h3, h4, h5⟩ := infoH9
  obtain ⟨v', w', g1, g2, g3, g4⟩ := run_append_at (P := Tryd.prog) w base 26 26 26 23 i z HE.n 32 Tryd.underlying26 h1 h2 h3 h4 h5 v L.length (HE.cs L) hown xv M.length (HE.cs M) (hr.src 26 23 Tryd.underlying26) (by unfold maxLen; omega) (by omega) hbase
  refine ⟨v', w', g1, ?_, g3, g4⟩
  unfold OwnG
  rw [List.length_append, Enc.cs_append]
  exact g2
theorem wp_append10 {P : Program} {w : World} {o : Oper} {a : Act} {K : Act → World → Prop} {Q : Exit → Act → World → Prop} (s x : Operand) (t tx : TypeId) (ho : o.op = .call { callee := .builtin .append, args := #[s, x], argTypes := #[t, tx] })
    {v xv v' : Value} {w' : World} (hv : a.eval s = v) (hx : a.eval x = xv) (hr : (Builtin.append_ #[t, tx] o.type #[v, xv]).run P w = .ok v' w') (hK : K (a.put o.dst v') w') : o.wp P a w K Q := by
  unfold Oper.wp execOp
  simp only [ho, resolve, invoke, builtin, Sem.run_bind, Sem.run_pure, Result.andThen_ok, List.map_toArray, List.map_cons, List.map_nil, hv, hx, hr]
  exact hK
theorem wp_store_slice {w : World} {o : Oper} {a : Act} {K : Act → World → Prop} {Q : Exit → Act → World → Prop} (x y : Operand) (ho : o.op = .store 26 x y) (b : Nat) (T : TypeId) (u : Value) (p : Option Addr) (n c : Nat)
    (hx : a.eval x = .pointer (some ⟨b, 0, none⟩)) (hy : a.eval y = .slice p n c) (hB : Blk w b T [u]) (h : ∀ w', Blk w' b T [.slice p n c] → But b w w' → K (a.put o.dst undef) w') : o.wp Tryd.prog a w K Q := by
  have hc := hB.cell (j := 0) (v := u) rfl
  have hf := hB.frozen 0
  have hrun : (execOp a.eval o).run Tryd.prog w = .ok .skip (w.setCell ⟨b, 0, none⟩ (.slice p n c)) := by
    simp only [execOp, ho, hx, hy]
    go_simp
  unfold Oper.wp
  rw [hrun]
  exact h _ (hB.set 0 (.slice p n c)) (But.setCell b w 0 _)
#print axioms wp_store_slice
end Go.Proofs.YtfclmjfbcmjfbabDoor

/-
  (*way).others: what the call does.
-/
namespace Go.Proofs.YtfclmjfbcmjfbabDoor
open Go.RowKit Go.Shelf
attribute [local go_sem] Oper.semAt_some
theorem TE_head {t : Tn} {j : Nat} {v : Value} (h : ([.int .i64 (t.a : Int), .int .i64 (t.b : Int)] : List Value)[j]? = some v) : (TE.c t)[j]? = some v := by
  match j, h with
  | 0, h => exact h
  | 1, h => exact h
theorem OwnG.form {w : World} {B : Nat} {e : TypeId} {v : Value} {L : List Hs} (h : OwnG HE w B e v L) : ∃ a c, v = .slice a L.length c := h.rd.slice
/-- What is kept while hashes are told. -/
structure OI (w3 : World) (N Bo : Nat) (v0 : Value) (O : List Hs) (L : List Hs) (F : List Tn) (B : Nat) (pre : List (Nat × Tn)) (X : World) : Prop where
  own : ∃ v', Blk X N 26 [v'] ∧ OwnG HE X Bo 23 v' (O ++ (F.take pre.length).map (rt L)) ∧ ∀ b, v'.ownBlock = some b → v0.ownBlock = some b ∨ B ≤ b
  c : Chg (fun k => (k = N ∨ v0.ownBlock = some k) ∨ w3.heap.size ≤ k) w3 X
  b : w3.heap.size < B
  s : B ≤ X.heap.size
theorem OI.chg {w3 : World} {N Bo : Nat} {v0 : Value} {O L : List Hs} {F : List Tn} {B : Nat} {pre : List (Nat × Tn)} {X Y : World} (h : OI w3 N Bo v0 O L F B pre X) {G : Nat → Prop} (hc : Chg G X Y) (hG : ∀ k, G k → w3.heap.size ≤ k) (hN : N < w3.heap.size) (hO : ∀ k cur, G k → X.heap[k]? ≠ some (.cells cur 23 (0, 0))) : OI w3 N Bo v0 O L F B pre Y := by
  obtain ⟨v', h1, h2, h3⟩ := h.own
  refine ⟨⟨v', h1.chg hc (fun g => by have := hG _ g; omega), h2.chg hc (fun b hb g => ?_), h3⟩, h.c.trans (hc.mono (fun i _ g => .inr (hG i g))), h.b, Nat.le_trans h.s hc.size⟩
  obtain ⟨_, _, cur, hcur⟩ := h2.block hb
  exact hO b cur g hcur
set_option maxHeartbeats 4000000 in
set_option maxRecDepth 100000 in
theorem others_any (D lo hi c Bo : Nat) (A : List Tn) (v lv : Value) (O L : List Hs) (hA : A.length = 64) (hc : c ≤ 64) (hin : ∀ t ∈ A.take c, t.a ≤ t.b ∧ t.b ≤ L.length) (hOl : O.length ≤ 1000) (w : World) (hT : Tabs w) (hBo : 2 ≤ Bo) (hBw : Bo ≤ w.heap.size)
    (hD : Blk w D 35 (WC lo hi A c)) (hO : OwnG HE w Bo 23 v O) (hL : RdG HE w lv L) (hap : ∀ b, v.ownBlock = some b → ¬ InB lv b) :
    Calls Tryd.prog 14 #[.pointer (some ⟨D, 0, none⟩), v, lv] w fun e w' => (∃ v', e = .returned v' ∧ OwnG HE w' Bo 23 v' (O ++ (A.take c).reverse.map (rt L))) ∧ Chg (fun k => v.ownBlock = some k) w w' := by
  have HO := hide hO
  have RL := hide hL
  have HAP := hide hap
  have HIN := hide hin
  have HA := hide hA
  have HC64 := hide hc
  have HD := hide hD
  have HT := hide hT
  have HTL : Hid ((A.take c).length = c) := (show _ = _ by rw [List.length_take, hA]; omega)
  obtain ⟨p, cp, rfl⟩ := hL.slice
  obtain ⟨vo, vc, rfl⟩ := hO.rd.slice
  obtain ⟨n, HN⟩ : ∃ n, Hid (L.length = n) := ⟨_, rfl⟩
  obtain ⟨no, HNO⟩ : ∃ n, Hid (O.length = n) := ⟨_, rfl⟩
  rw [HN.out] at RL HAP ⊢
  rw [HNO.out] at HO HAP hOl ⊢
  have hHD : Hid (¬ (Value.slice vo no vc).ownBlock = some D) := (show _ from fun h => by
    obtain ⟨_, _, cur, hcur⟩ := HO.out.block h
    have := hD.symm.trans hcur
    simp at this)
  have hDl := hD.lt
  have HOB : Hid (∀ k, (Value.slice vo no vc).ownBlock = some k → Bo ≤ k ∧ k < w.heap.size) := (show _ from fun k h => by have := HO.out.block h; exact ⟨this.1, this.2.1⟩)
  obtain ⟨N, HNw⟩ : ∃ N, Hid (w.heap.size = N) := ⟨_, rfl⟩
  rw [HNw.out] at hDl hBw HOB
  clear hO hL hap hin hA hD hT
  obtain ⟨N0, -⟩ : ∃ n : Nat, True := ⟨9, trivial⟩
  refine (callsIn_wide (n := N0)).1 ?_
  refine callsIn_of_wp_marks Tryd.func14 rfl trivial ?_ rfl
  simp only [Tryd.ntmps14, List.size_toArray, List.length_cons, List.length_nil, Nat.reduceAdd, Nat.reduceSub, Array.replicate_succ, Array.replicate_zero, List.push_toArray, List.append_toArray, List.nil_append, List.cons_append]
  gi_wp2_with fail
  obtain ⟨w0, hw0⟩ : ∃ z, z = (w.alloc (.cells [.slice vo no vc].toArray 26 (0, 0))).alloc (.cells [.slice p n cp].toArray 26 (0, 0)) := ⟨_, rfl⟩
  change Fence.wide.fn _ ∧ _ ∧ CallsIn _ _ _ _ _ ((w.alloc (.cells [.slice vo no vc].toArray 26 (0, 0))).alloc (.cells [.slice p n cp].toArray 26 (0, 0))) _
  rw [← hw0, HNw.out]
  obtain ⟨b0, b1, ln⟩ := boxes2' HNw hw0
  have s0 : w0.heap.size = N + 1 + 1 := by rw [hw0]; simp [HNw.out]
  clear hw0
  refine wide_call (up_any D w0) ?_
  rintro e w3 ⟨rfl, hw3⟩
  rw [s0]
  have hb3 : Below w0.heap.size w0 w3 := by rw [hw3]; exact (Below.refl _ _).alloc (Nat.le_refl _) _
  have BU : Hid (Blk w3 (N + 1 + 1) 44 [.pointer (some ⟨D, 0, none⟩)]) := (show Blk _ _ _ _ by rw [hw3, ← s0]; exact Blk.new w0 44 [.pointer (some ⟨D, 0, none⟩)])
  have S3 : Hid (w3.heap.size = N + 1 + 1 + 1) := (show _ = _ by rw [hw3]; simp [s0])
  have B3 := hide (b0.kept hb3)
  have B4 := hide (b1.kept hb3)
  have L3 : Hid (Below N w w3) := ln.trans (hb3.mono (by omega))
  have L3w : Hid (Below w.heap.size w w3) := (show Below _ _ _ by rw [HNw.out]; exact L3.out)
  have HD3 := hide (HD.out.kept L3w.out)
  have HO3 := hide (HO.out.kept L3w.out)
  have RL3 := hide (RL.out.kept L3w.out)
  have T3 : Hid (Tabs w3) := HT.out.kept (L3.out.mono (by omega))
  clear hw3 hb3 b0 b1 ln s0
  gi_wp2_with fail
  refine wp_ranged4 (n := N0) (gf := 17) (lb := #[.pointer (some ⟨N + 1 + 1, 0, none⟩)]) rfl (enters_of Tryd.func17 (by kernel_rfl) rfl) (encs := tbV) (fun _ => rfl) (R := upR (A.take c).reverse) (S := fun xs => xs.length = (A.take c).reverse.length) (OI w3 N Bo (.slice vo no vc) O L (A.take c).reverse) (fun _ _ _ _ => False) ?ip (fun _ _ _ _ _ _ _ _ _ _ h => h) ?ib (fun _ _ _ _ _ h _ => h) ?h0 (G := fun k => k = N ∨ (Value.slice vo no vc).ownBlock = some k)
    (up1_hands (N + 1 + 1) D lo hi c A HA.out hc w3 BU.out HD3.out ?c1 ?c2 ?c3)
    (fun x h => { tmps := #[.pointer (some ⟨D, 0, none⟩), .slice vo no vc, .slice p n cp, undef, .pointer (some ⟨N, 0, none⟩), .pointer (some ⟨N + 1, 0, none⟩), .slice none 0 0, undef, .pointer (some ⟨h, 0, none⟩), .pointer (some ⟨D, 0, none⟩), .func (.func 17) #[] #[.pointer (some ⟨N + 1 + 1, 0, none⟩)], .int .i64 (x.1 : Int), .agg (TE.c x.2).toArray, undef, undef, undef, undef, undef, undef, undef, undef], defers := [] }) (fun x h X => Blk X h 32 (TE.c x.2)) ?ap ?assign ?body ?done (fun _ _ _ _ _ _ _ h _ => h.elim)
  case c1 =>
    rintro k (h | h)
    · have := S3.out; omega
    · have := S3.out; have := HOB.out k h; omega
  case c2 =>
    rintro (h | h)
    · omega
    · have := HOB.out _ h; omega
  case c3 =>
    rintro (h | h)
    · omega
    · exact hHD.out h
  case ip =>
    intro B pre X k o0 o hk hX hn hI
    refine hI.chg (chg_put (G := fun j => j = k) rfl o) (fun j hj => by subst hj; exact hk) (by have := S3.out; omega) (fun j cur hj hcur => ?_)
    subst hj
    rw [hX] at hcur
    cases hcur
    cases hn
  case ib =>
    intro B pre X Y hI hb
    exact hI.chg (G := fun _ => False) (Chg.of_below hb) (fun _ h => h.elim) (by have := S3.out; omega) (fun _ _ h => h.elim)
  case h0 =>
    intro X hX hlt
    refine ⟨⟨.slice vo no vc, B3.out.kept hX, ?_, fun b hb => .inl hb⟩, Chg.of_below hX, hlt, Nat.le_refl _⟩
    rw [List.length_nil, List.take_zero, List.map_nil, List.append_nil]
    exact HO3.out.kept hX
  case ap =>
    intro x h X k o0 o hk hX hn hB
    exact hB.put10 hX hn
  case assign =>
    intro m l' x X K' hle hK
    have BW := Blk.new X 32 (TE.c Tz)
    simp only [tbV]
    gi_wp2_with (first
      | (refine wpListIn_store_blk rfl 32 _ _ rfl X.heap.size (TE.c Tz) (TE.c x.2) 32 rfl rfl BW rfl Tryd.sizeTn (TE.one _) ?_; intro w5 hb5 hu5)
      | fail)
    exact hK w5 (((Below.refl _ _).alloc (Nat.le_refl _) _).trans (hu5.below (Nat.le_refl _) (by simp))) hb5
  case body =>
    rintro m l' B pre ⟨r, t⟩ h X hwB hBh hle hI hR hA
    obtain ⟨hR1, hR2⟩ := hR
    simp only at hR1 hR2 hA
    subst hR1
    have hs3 := S3.out
    obtain ⟨v1, IB0, IO0, IH0⟩ := hI.own
    obtain ⟨a1, c1, hv1⟩ := IO0.form
    obtain ⟨n1, hn1⟩ : ∃ k, (O ++ ((A.take c).reverse.take pre.length).map (rt L)).length = k := ⟨_, rfl⟩
    rw [hn1] at hv1
    subst hv1
    have IB := hide IB0
    have IO1 := hide IO0
    have IH := hide IH0
    have IC := hide hI.c
    have IS := hide hI.s
    have HAf := hide hA
    have BLr := hide (B4.out.chg hI.c (by rintro ((h | h) | h); omega; have := HOB.out _ h; omega; have := B4.out.lt; omega))
    have RLr := hide (RL3.out.chg hI.c (by
      intro b hb
      have hbl := RL.out.inB_lt hb
      rw [HNw.out] at hbl
      rintro ((h | h) | h)
      · omega
      · exact HAP.out b h hb
      · omega))
    have TW : Hid (Tabs X) := T3.out.kept (hI.c.below (by omega) (fun k hk h => by
      rcases h with (h | h) | h
      · omega
      · have := HOB.out _ h; omega
      · omega))
    have hpl : pre.length < (A.take c).reverse.length := (List.getElem?_eq_some_iff.1 hR2).1
    have hmem : t ∈ A.take c := by
      have := List.mem_of_getElem? hR2
      simpa using this
    have hin := HIN.out t hmem
    have HPL : Hid ((A.take c).reverse.take (pre.length + 1) = (A.take c).reverse.take pre.length ++ [t]) := (show _ = _ by
      rw [List.take_succ_eq_append_getElem hpl]
      congr 2
      rw [List.getElem?_eq_getElem hpl] at hR2
      exact Option.some.inj hR2)
    have HLEN : Hid (n1 ≤ 1100) := (show n1 ≤ 1100 by
      have h9 : pre.length < c := by rw [List.length_reverse, HTL.out] at hpl; exact hpl
      have h8 := HNO.out
      have h6 := HC64.out
      have h7 : n1 ≤ O.length + pre.length := by
        rw [← hn1, List.length_append, List.length_map, List.length_take]
        exact Nat.add_le_add_left (Nat.min_le_left _ _) _
      omega)
    have HN1 := hide hn1
    clear hI hA hR2 hmem IB0 IO0 IH0 hn1 hpl
    gi_wp2_with fail
    refine wpIn_region_tails op_in Tryd.mixed (by decide +kernel) (KS (fun i_ => match i_ with | 0 => .val (.slice a1 n1 c1) | 1 => .val (.pointer (some ⟨h, 0, none⟩)) | 2 => .val (.agg #[.int .i64 (t.a : Int), .int .i64 (t.b : Int)]) | 3 => .val (.slice p n cp) | 4 => .val (HV (rt L t)) | 5 => .of (fun w v_ => RdG HE w v_ [rt L t]) (fun _ _ _ hg h => RdG.kept h hg) | _ => .free)) 21 rfl (by decide +kernel) 6 (by decide) (by decide +kernel) (KS_mono _) ?_ ?_
    · refine AllFrom.cons ⟨rfl, fun a' w' hg hk hd => ?_⟩ (AllFrom.cons ⟨rfl, fun a' w' hg hk hd => ?_⟩ (AllFrom.cons ⟨rfl, fun a' w' hg hk hd => ?_⟩ (AllFrom.cons ⟨rfl, fun a' w' hg hk hd => ?_⟩ (AllFrom.cons ⟨rfl, fun a' w' hg hk hd => ?_⟩ (AllFrom.cons ⟨rfl, fun a' w' hg hk hd => ?_⟩ AllFrom.nil)))))
      · skip
        intro Q
        have e4 : a'.eval (.tmp 4) = .pointer (some ⟨N, 0, none⟩) := hk.at 4 (by decide +kernel)
        have hc := (IB.out.kept hg).cell (j := 0) rfl
        clear hd hk
        exact wp_value (.slice a1 n1 c1) (by simp only [execOp, e4]; go_simp) (KS_mkv rfl rfl)
      · skip
        intro Q
        have e8 : a'.eval (.tmp 8) = .pointer (some ⟨h, 0, none⟩) := hk.at 8 (by decide +kernel)
        clear hd hk
        exact wp_value (.pointer (some ⟨h, 0, none⟩)) (by simp only [execOp, e8]; go_simp) (KS_mkv rfl rfl)
      · skip
        intro Q
        have e14 : a'.eval (.tmp 14) = .pointer (some ⟨h, 0, none⟩) := KS_val (hd.val 1 14 (by decide +kernel)) rfl
        exact wp_load_row 30 _ rfl _ _ e14 [.int .i64 (t.a : Int), .int .i64 (t.b : Int)] _ ((HAf.out.kept hg).range 0 _ (fun j v_ hj => by rw [Nat.zero_add]; exact TE_head hj)) Tryd.underlying30 rfl Tryd.sizePt (KS_mkv rfl rfl)
      · skip
        intro Q
        have e5 : a'.eval (.tmp 5) = .pointer (some ⟨N + 1, 0, none⟩) := hk.at 5 (by decide +kernel)
        have hc := (BLr.out.kept hg).cell (j := 0) rfl
        clear hd hk
        exact wp_value (.slice p n cp) (by simp only [execOp, e5]; go_simp) (KS_mkv rfl rfl)
      · skip
        intro Q
        have e15 : a'.eval (.tmp 15) = .agg #[.int .i64 (t.a : Int), .int .i64 (t.b : Int)] := KS_val (hd.val 2 15 (by decide +kernel)) rfl
        have e16 : a'.eval (.tmp 16) = .slice p n cp := KS_val (hd.val 3 16 (by decide +kernel)) rfl
        refine wp_call 20 _ (run_enter 20 _ _ rfl (by kernel_rfl)) ?_
        simp only [List.map_toArray, List.map_nil, List.map_cons, e15, e16]
        refine (ptroot_any t.a t.b _ L hin.1 hin.2 _ (TW.out.gr hg) (RLr.out.kept hg)).mono ?_
        rintro e w5 ⟨rfl, hb5⟩
        exact ⟨_, rfl, KS_mkv rfl rfl, hb5⟩
      · skip
        intro Q
        have e17 : a'.eval (.tmp 17) = HV (rt L t) := KS_val (hd.val 4 17 (by decide +kernel)) rfl
        obtain ⟨w9, hr9, hg9, hrd9⟩ := hash_new w' (rt L t)
        exact wp_grow _ w9 (by simp only [execOp, List.map_toArray, List.map_cons, List.map_nil, e17, hr9, Sem.run_bind, Sem.run_pure, Result.andThen_ok]) hg9 (KS_mko rfl hrd9)
    · intro a' w5 hsz hdf hk hall hg
      have e13 : a'.eval (.tmp 13) = .slice a1 n1 c1 := KS_val (hall 0 _ 13 (by decide) rfl rfl) rfl
      have e14 : a'.eval (.tmp 14) = .pointer (some ⟨h, 0, none⟩) := KS_val (hall 1 _ 14 (by decide) rfl rfl) rfl
      have e15 : a'.eval (.tmp 15) = .agg #[.int .i64 (t.a : Int), .int .i64 (t.b : Int)] := KS_val (hall 2 _ 15 (by decide) rfl rfl) rfl
      have e16 : a'.eval (.tmp 16) = .slice p n cp := KS_val (hall 3 _ 16 (by decide) rfl rfl) rfl
      have e17 : a'.eval (.tmp 17) = HV (rt L t) := KS_val (hall 4 _ 17 (by decide) rfl rfl) rfl
      have r18 : RdG HE w5 (a'.eval (.tmp 18)) [rt L t] := KS_of (hall 5 _ 18 (by decide) rfl rfl) rfl
      have e4 : a'.eval (.tmp 4) = .pointer (some ⟨N, 0, none⟩) := hk.at 4 (by decide +kernel)
      have O5 : OwnG HE w5 Bo 23 (.slice a1 n1 c1) (O ++ ((A.take c).reverse.take pre.length).map (rt L)) := IO1.out.kept hg
      have s0 : a'.tmps.size = 21 := hsz
      have hgs : X.heap.size ≤ w5.heap.size := hg.size
      obtain ⟨v2, w6, hr6, O6, G6, H6⟩ := append_own O5 r18 (by rw [HN1.out]; have := HLEN.out; simp; omega) (by have := IS.out; omega)
      refine ⟨rfl, op_in (fun c h => by cases h) (wp_append10 _ _ _ _ rfl e13 rfl hr6 ⟨_, rfl, rfl, op_in (fun c h => by cases h) ?_⟩)⟩
      obtain ⟨a2, c2, hv2⟩ := O6.form
      rw [List.append_assoc, List.length_append] at hv2
      have ev := (eval_put_same (a := a') (d := 19) (v := v2) (by rw [s0]; decide)).trans hv2
      have ep : (a'.put (some 19) v2).eval (.tmp 4) = .pointer (some ⟨N, 0, none⟩) := (eval_put_other (by simp)).trans e4
      have hNo : ¬ (Value.slice a1 n1 c1).ownBlock = some N := fun hh => by
        rcases IH.out _ hh with h | h
        · have := HOB.out _ h; omega
        · omega
      have hc6 : Chg (fun k => (Value.slice a1 n1 c1).ownBlock = some k) X w6 := (Chg.of_below hg).trans (Chg.of_grown G6 (fun k hk _ => hk))
      have B6 : Blk w6 N 26 [.slice a1 n1 c1] := IB.out.chg hc6 hNo
      have hne : ¬ v2.ownBlock = some N := fun hh => by
        rcases H6 _ hh with h | h
        · exact hNo h
        · have := IS.out; omega
      refine wp_store_slice _ _ rfl N _ _ _ _ _ ep ev B6 ?_
      intro w7 hb7 hu7
      refine ⟨_, rfl, ?_⟩
      rw [← hv2] at hb7
      have hc7 : Chg (fun k => k = N ∨ (Value.slice a1 n1 c1).ownBlock = some k) X w7 := (hc6.mono (fun i _ h => .inr h)).trans (Chg.of_but hu7 (.inl rfl))
      refine ⟨keeps_chg hc7 (fun k o hk ho => ?_), hc7.mono (fun i _ hh => ?_), ⟨⟨v2, hb7, ?_, fun b hb => ?_⟩, IC.out.trans (hc7.mono (fun i _ hh => ?_)), hwB, Nat.le_trans IS.out hc7.size⟩⟩
      · rcases hk with hk | hk
        · subst hk
          have := IB.out.symm.trans ho
          cases this
          rfl
        · obtain ⟨_, _, cur, hcur⟩ := IO1.out.block hk
          rw [ho] at hcur
          cases hcur
          rfl
      · rcases hh with hh | hh
        · exact .inl (.inl hh)
        · rcases IH.out _ hh with h | h
          · exact .inl (.inr h)
          · exact .inr h
      · rw [List.length_append, List.length_singleton, HPL.out, List.map_append, ← List.append_assoc]
        exact O6.chg (Chg.of_but hu7 (F := fun k => k = N) rfl) (fun b hb e => hne (e ▸ hb))
      · rcases H6 b hb with h | h
        · exact IH.out b h
        · have := IS.out; exact .inr (by omega)
      · rcases hh with hh | hh
        · exact .inl (.inl hh)
        · rcases IH.out _ hh with h | h
          · exact .inl (.inr h)
          · exact .inr (by omega)

  case done =>
    rintro Dd B xs X hDd hDB hS hI hd
    obtain ⟨v1, IB0, IO0, IH0⟩ := hI.own
    obtain ⟨a1, c1, hv1⟩ := IO0.form
    obtain ⟨n1, hn1⟩ : ∃ k, (O ++ ((A.take c).reverse.take xs.length).map (rt L)).length = k := ⟨_, rfl⟩
    rw [hn1] at hv1
    subst hv1
    have IO1 := hide IO0
    have cX : X.cell? ⟨N, 0, none⟩ = some (.slice a1 n1 c1) := IB0.cell (j := 0) rfl
    have IC := hide hI.c
    clear hI IB0 IO0 IH0
    have hs3 := S3.out
    gi_wp2_with fail
    refine ⟨by simp, .inl ⟨_, _, rfl, run_takeDeferred hd, ?_⟩⟩
    refine ⟨_, results_tmp rfl _ _ _, ⟨_, rfl, ?_⟩, ?_⟩
    · have := IO1.out
      rw [hS, List.take_length] at this
      refine this.chg (chg_put (G := fun k => k = Dd) rfl _) (fun b hb g => ?_)
      subst g
      obtain ⟨_, _, cur, hcur⟩ := IO1.out.block hb
      rw [hd] at hcur
      cases hcur
    · refine ((Chg.of_below L3w.out).then IC.out (fun i hi h => ?_)).then (chg_put (G := fun k => k = Dd) rfl _) (fun i hi h => ?_)
      · rw [HNw.out] at hi
        rcases h with (h | h) | h
        · omega
        · exact h
        · omega
      · rw [HNw.out] at hi
        omega
#print axioms others_any
end Go.Proofs.YtfclmjfbcmjfbabDoor
