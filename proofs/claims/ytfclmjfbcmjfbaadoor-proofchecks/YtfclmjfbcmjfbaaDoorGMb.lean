/-
  Texts that ride together: MtH MtR MtG MtC.
-/
import Derived.Test.YtfclmjfbcmjfbaaDoorGMa
import Derived.Test.YtfclmjfbcmjfbaaDoorTag2
/-
  Hashes in lists, peaks: how they lie in memory, and laws for them.
-/
namespace Go.Proofs.YtfclmjfbcmjfbaaDoor
open Go.RowKit

/-- A hash. -/
abbrev Hs := {l : List UInt8 // l.length = 32}
/-- Hashes as cells. -/
def HE : Enc Hs := ⟨fun x => By x.1, 32, fun x => by rw [By_length]; exact x.2, fun x => By_one x.1⟩
/-- A hash as a value. -/
def HV (x : Hs) : Value := .agg (By x.1).toArray
def nd (x y : Hs) : Hs := ⟨tg 1 [x.1, y.1], tg_length _ _⟩
def em : Hs := ⟨sha [], sha_length _⟩
def zh : Hs := ⟨List.replicate 32 0, by simp⟩
theorem By_len (x : Hs) : (By x.1).length = 32 := by rw [By_length]; exact x.2
theorem Tryd.sizeH (x : Hs) : (Tryd.prog.info? 30).map (·.size) = some (By x.1).length := by rw [By_len]; exact Tryd.size30
theorem HV_inj {x y : Hs} : (x.1 == y.1) = decide (x = y) := by
  rw [Bool.eq_iff_iff]
  simp [Subtype.ext_iff]
theorem eqA (x y : Hs) (W : World) : (Op.equalIn 10000 30 (.agg (By x.1).toArray) (.agg (By y.1).toArray)).run Tryd.prog W = .ok (decide (x = y)) W := by
  rw [← HV_inj]
  exact eq30 x.1 y.1 x.2 y.2 W
/-- Two hashes held against each other. -/
theorem eqH (x y : Hs) (W : World) : (Op.equalIn 10000 30 (HV x) (HV y)).run Tryd.prog W = .ok (decide (x = y)) W := by
  rw [← HV_inj]
  exact eq30 x.1 y.1 x.2 y.2 W
/-- A whole array or struct over a block. -/
theorem wpList_store_blk {P : Program} {w : World} {ops : Array Oper} {rest : List Oper} {op : Oper} {a : Act} {Q : Exit → Act → World → Prop} (hgd : op.guard = none) (ty : TypeId) (x y : Operand) (ho : op.op = .store ty x y)
    (b : Nat) (cs ds : List Value) (T : TypeId) (hx : a.eval x = .pointer (some ⟨b, 0, none⟩)) (hy : a.eval y = .agg ds.toArray) (hB : Blk w b T cs) (hl : ds.length = cs.length)
    (hi : (P.info? ty).map (·.size) = some ds.length) (h1 : ∀ u ∈ ds, u.oneCell' = true)
    (h : ∀ w', Blk w' b T ds → But b w w' → wpList P ops Q rest (a.put op.dst undef) w') : wpList P ops Q (op :: rest) a w := by
  have t0 := hB.there 0 ds.length (by omega)
  refine wpList_store_mid hgd ty x y ho b 0 ds.toArray hx hy (by simpa using t0) (by simpa using hi) (all_one h1) ?_
  refine h _ ?_ (But.setCells b _ 0 w)
  have := Blk.over ds hB 0 (by omega)
  rwa [over_all _ _ hl.symm] at this
theorem wp_store_blk {P : Program} {w : World} {op : Oper} {a : Act} {K : Act → World → Prop} {Q : Exit → Act → World → Prop} (ty : TypeId) (x y : Operand) (ho : op.op = .store ty x y)
    (b : Nat) (cs ds : List Value) (T : TypeId) (hx : a.eval x = .pointer (some ⟨b, 0, none⟩)) (hy : a.eval y = .agg ds.toArray) (hB : Blk w b T cs) (hl : ds.length = cs.length)
    (hi : (P.info? ty).map (·.size) = some ds.length) (h1 : ∀ u ∈ ds, u.oneCell' = true)
    (h : ∀ w', Blk w' b T ds → But b w w' → K (a.put op.dst undef) w') : op.wp P a w K Q := by
  have t0 := hB.there 0 ds.length (by omega)
  refine wp_store_mid ty x y ho b 0 ds.toArray hx hy (by simpa using t0) (by simpa using hi) (all_one h1) ?_
  refine h _ ?_ (But.setCells b _ 0 w)
  have := Blk.over ds hB 0 (by omega)
  rwa [over_all _ _ hl.symm] at this
/-- A hash that a variable holds is what the call returns. -/
theorem ret_hash {fn : Func} {p : Tmp} (h : fn.results = #[.cell p 30]) (tmps : Array Value) (w : World) (g : Nat) (x : Hs) (hp : tmps.getD p undef = .pointer (some ⟨g, 0, none⟩)) (hB : Blk w g 30 (By x.1)) :
    (results fn tmps).run Tryd.prog w = .ok (HV x) w :=
  results_cell_row h _ _ g 30 _ (0, 0) _ hp hB Tryd.underlying30 rfl (by simpa using Tryd.sizeH x)
theorem hroot_len {l : List Hs} : (root nd em l).1.length = 32 := (root nd em l).2
/-- Room for a hash, and what was there. -/
theorem room_hash {w w0 : World} {N : Nat} (HN : Hid (w.heap.size = N)) (hw : w0 = w.alloc (.cells (By (List.replicate 32 0)).toArray 30 (0, 0))) :
    Blk w0 N 30 (By zh.1) ∧ Below N w w0 ∧ w0.heap.size = N + 1 := by
  subst hw
  refine ⟨by rw [← HN.out]; exact Blk.new w 30 (By (List.replicate 32 0)), (Below.refl _ _).alloc (by rw [HN.out]; exact Nat.le_refl _) _, by simp [HN.out]⟩
theorem hnode_any (x y : Hs) (w : World) (hT : Tabs w) : Calls Tryd.prog 41 #[HV x, HV y] w fun e w' => e = .returned (HV (nd x y)) ∧ Below w.heap.size w w' := node_any x.1 y.1 x.2 y.2 w hT
theorem rnode_any (x y : Hs) (w : World) : Calls Tryd.prog 23 #[HV x, HV y] w fun e w' => e = .returned (HV (nd x y)) ∧ Below w.heap.size w w' := refNode_any x.1 y.1 x.2 y.2 w
theorem hempty_any (w : World) (hT : Tabs w) : Calls Tryd.prog 45 #[] w fun e w' => e = .returned (HV em) ∧ Below w.heap.size w w' := empty_any w hT
theorem rempty_any (w : World) : Calls Tryd.prog 35 #[] w fun e w' => e = .returned (HV em) ∧ Below w.heap.size w w' := refEmpty_any w
theorem RdG.cap' {α : Type} {E : Enc α} {w : World} {v : Value} {L : List α} (h : RdG E w v L) : L.length ≤ 9223372036854775807 := by
  obtain ⟨a, cap, rfl, h1, h2, -⟩ := h
  unfold maxLen at h2
  omega
#print axioms wpList_store_blk
end Go.Proofs.YtfclmjfbcmjfbaaDoor

/-
  mountain.Root and indentureref09.Root: what the calls do.
-/
namespace Go.Proofs.YtfclmjfbcmjfbaaDoor
open Go.RowKit
set_option maxHeartbeats 2000000 in
set_option maxRecDepth 100000 in
theorem root_any (l : List Hs) (v : Value) (w : World) (hT : Tabs w) (hr : RdG HE w v l) : Calls Tryd.prog 38 #[v] w fun e w' => e = .returned (HV (root nd em l)) ∧ Below w.heap.size w w' := by
  obtain ⟨m, hm⟩ : ∃ m, l.length = m := ⟨_, rfl⟩
  induction m using Nat.strongRecOn generalizing l v w with
  | _ m ih =>
  have HR := hide hr
  have hcap := hr.cap'
  obtain ⟨a, cp, rfl⟩ := hr.slice
  have hcp := hr.cap
  rw [hm] at HR hcap hcp ⊢
  have HM := hide hm
  have IH := hide ih
  obtain ⟨N, HN⟩ : ∃ N, Hid (w.heap.size = N) := ⟨_, rfl⟩
  have HT := hide hT
  have HNT : Hid (2 ≤ N) := (show _ by rw [← HN.out]; exact HT.out.size)
  clear hT
  clear hr hm ih
  go_enter Tryd.func38, Tryd.ntmps38
  go_upto_region 1 with fail
  obtain ⟨w0, hw0⟩ : ∃ z, z = w.alloc (.cells (By (List.replicate 32 0)).toArray 30 (0, 0)) := ⟨_, rfl⟩
  change Code.wp _ _ _ _ (w.alloc (.cells (By (List.replicate 32 0)).toArray 30 (0, 0)))
  rw [← hw0, HN.out]
  obtain ⟨b0, l0, s0⟩ := room_hash HN hw0
  have O0 := hide b0
  have L0 := hide l0
  have HS0 := hide s0
  have R0 : Hid (RdG HE w0 (.slice a m cp) l) := HR.out.kept (by rw [HN.out]; exact l0)
  clear hw0 b0 l0 s0
  by_cases h0 : m = 0
  · subst h0
    have HL : Hid (root nd em l = em) := (show _ = _ by rw [List.eq_nil_of_length_eq_zero HM.out, root_nil])
    go_wp2_with fail
    refine (hempty_any _ (HT.out.kept (L0.out.mono HNT.out))).mono ?_
    rintro e w1 ⟨rfl, hb1⟩
    have O1 := hide (O0.out.kept hb1)
    have L1 : Hid (Below N w w1) := L0.out.trans (hb1.mono (Nat.le_of_lt O0.out.lt))
    clear hb1
    go_wp2_with (first
      | (refine wpList_store_blk rfl 30 _ _ rfl N (By zh.1) (By em.1) 30 rfl rfl O1.out (by rw [By_len, By_len]) (Tryd.sizeH em) (By_one _) ?_; intro w2 hb2 hu2)
      | fail)
    refine bodyPost_ret (ret_hash rfl _ _ N em rfl hb2) rfl ⟨by rw [HL.out], ?_⟩
    rw [HN.out]
    exact L1.out.trans (hu2.below (Nat.le_refl _) (by have := O1.out.lt; omega))
  · by_cases h1 : m = 1
    · subst h1
      obtain ⟨b, off, rfl, hlb, hx⟩ := R0.out.nth (by omega)
      have hl0 : 0 < l.length := by rw [HM.out]; decide
      have hr0 : w0.rangeAt b off (By l[0].1) := by have := hx 0 hl0; simpa [HE] using this
      have HL : Hid (root nd em l = l[0]) := (show _ = _ by
        match l, HM.out with
        | [x], _ => exact root_one nd em x)
      generalize l[0] = x at *
      clear hx
      go_wp2_with (first
        | (refine wpList_load_mid rfl 30 _ rfl b off rfl (By x.1) _ hr0 Tryd.underlying30 rfl (Tryd.sizeH x) ?_)
        | (refine wpList_store_blk rfl 30 _ _ rfl N (By zh.1) (By x.1) 30 rfl rfl O0.out (by rw [By_len, By_len]) (Tryd.sizeH x) (By_one _) ?_; intro w2 hb2 hu2)
        | fail)
      refine bodyPost_ret (ret_hash rfl _ _ N x rfl hb2) rfl ⟨by rw [HL.out], ?_⟩
      rw [HN.out]
      exact L0.out.trans (hu2.below (Nat.le_refl _) (by have := O0.out.lt; omega))
    · have h2 : 2 ≤ m := by omega
      have HL : Hid (root nd em l = nd (root nd em (l.take (spl m))) (root nd em (l.drop (spl m)))) := (show _ = _ by rw [root_split nd em (by rw [HM.out]; exact h2), HM.out])
      have hk1 := spl_lt h2
      have hk0 := spl_pos h2
      have hm63 : (m : Int) ≤ 9223372036854775807 := by omega
      have C1 := hide (fun w => split_any (m : Int) hm63 w)
      rw [show ((m : Int)).toNat = m by omega] at C1
      generalize spl m = k at *
      obtain ⟨hs1, hs1r⟩ := slice_G_to (E := HE) (P := Tryd.prog) Tryd.underlying22 Tryd.size30 a m cp k (by omega) (by omega)
      obtain ⟨a2, hs2, -, hs2r⟩ := slice_G (E := HE) (P := Tryd.prog) Tryd.underlying22 Tryd.size30 a m cp k (by omega) (by omega)
      have RT := hide (hs1r _ _ R0.out)
      have RD := hide (hs2r _ _ R0.out)
      have HTL : Hid ((l.take k).length = k) := (show _ = _ by rw [List.length_take, HM.out]; omega)
      have HDL : Hid ((l.drop k).length = m - k) := (show _ = _ by rw [List.length_drop, HM.out])
      clear hs1r hs2r
      have q0 : ¬ (m : Int) = 0 := by omega
      have q1 : ¬ (m : Int) = 1 := by omega
      go_upto_region 7 with (first
        | (go_at_call 44; refine (C1.out _).mono ?_; rintro e w' ⟨rfl, rfl⟩)
        | fail)
      have T0 := hide (HT.out.kept (L0.out.mono HNT.out))
      refine wp_region_tail Tryd.mixed (KS (fun i_ => match i_ with | 0 | 4 => .val (.slice a m cp) | 1 | 5 => .val (.int .i64 (k : Int)) | 2 => .val (.slice a k cp) | 3 => .val (HV (root nd em (l.take k))) | 6 => .val (.slice a2 (m - k) (cp - k)) | 7 => .val (HV (root nd em (l.drop k))) | 8 => .val (HV (nd (root nd em (l.take k)) (root nd em (l.drop k)))) | _ => .free)) 26 rfl (by decide +kernel) 9 _ rfl (by decide +kernel) (KS_mono _) ?_ ?_
      · refine AllFrom.cons (fun a' w' hg hk hd => ?_) (AllFrom.cons (fun a' w' hg hk hd => ?_) (AllFrom.cons (fun a' w' hg hk hd => ?_) (AllFrom.cons (fun a' w' hg hk hd => ?_) (AllFrom.cons (fun a' w' hg hk hd => ?_) (AllFrom.cons (fun a' w' hg hk hd => ?_) (AllFrom.cons (fun a' w' hg hk hd => ?_) (AllFrom.cons (fun a' w' hg hk hd => ?_) (AllFrom.cons (fun a' w' hg hk hd => ?_) AllFrom.nil))))))))
        · skip
          intro Q
          have e0 : a'.eval (.tmp 0) = .slice a m cp := hk.at 0 (by decide +kernel)
          exact wp_value _ (by simp only [execOp, e0]; rfl) (KS_mkv rfl rfl)
        · skip
          intro Q
          have e3 : a'.eval (.tmp 3) = .int .i64 (k : Int) := hk.at 3 (by decide +kernel)
          exact wp_value _ (by simp only [execOp, e3]; rfl) (KS_mkv rfl rfl)
        · skip
          intro Q
          have e17 : a'.eval (.tmp 17) = .slice a m cp := KS_val (hd.val 0 17 (by decide +kernel)) rfl
          have e18 : a'.eval (.tmp 18) = .int .i64 (k : Int) := KS_val (hd.val 1 18 (by decide +kernel)) rfl
          exact wp_value _ (by simp only [execOp, e17, e18, hs1, Sem.run_bind, Result.andThen_ok, Option.map_none, Option.map_some]; rfl) (KS_mkv rfl rfl)
        · skip
          intro Q
          have e19 : a'.eval (.tmp 19) = .slice a k cp := KS_val (hd.val 2 19 (by decide +kernel)) rfl
          refine wp_call 38 _ (run_enter 38 _ _ rfl (by kernel_rfl)) ?_
          simp only [List.map_toArray, List.map_nil, List.map_cons, e19]
          refine (IH.out k (by omega) (l.take k) _ _ (T0.out.gr hg) (RT.out.kept hg) HTL.out).mono ?_
          rintro e w5 ⟨rfl, hb5⟩
          exact ⟨_, rfl, KS_mkv rfl rfl, hb5⟩
        · skip
          intro Q
          have e0 : a'.eval (.tmp 0) = .slice a m cp := hk.at 0 (by decide +kernel)
          exact wp_value _ (by simp only [execOp, e0]; rfl) (KS_mkv rfl rfl)
        · skip
          intro Q
          have e3 : a'.eval (.tmp 3) = .int .i64 (k : Int) := hk.at 3 (by decide +kernel)
          exact wp_value _ (by simp only [execOp, e3]; rfl) (KS_mkv rfl rfl)
        · skip
          intro Q
          have e21 : a'.eval (.tmp 21) = .slice a m cp := KS_val (hd.val 4 21 (by decide +kernel)) rfl
          have e22 : a'.eval (.tmp 22) = .int .i64 (k : Int) := KS_val (hd.val 5 22 (by decide +kernel)) rfl
          exact wp_value _ (by simp only [execOp, e21, e22, hs2, Sem.run_bind, Result.andThen_ok, Option.map_none, Option.map_some]; rfl) (KS_mkv rfl rfl)
        · skip
          intro Q
          have e23 : a'.eval (.tmp 23) = .slice a2 (m - k) (cp - k) := KS_val (hd.val 6 23 (by decide +kernel)) rfl
          refine wp_call 38 _ (run_enter 38 _ _ rfl (by kernel_rfl)) ?_
          simp only [List.map_toArray, List.map_nil, List.map_cons, e23]
          refine (IH.out (m - k) (by omega) (l.drop k) _ _ (T0.out.gr hg) (RD.out.kept hg) HDL.out).mono ?_
          rintro e w5 ⟨rfl, hb5⟩
          exact ⟨_, rfl, KS_mkv rfl rfl, hb5⟩
        · skip
          intro Q
          have e20 : a'.eval (.tmp 20) = HV (root nd em (l.take k)) := KS_val (hd.val 3 20 (by decide +kernel)) rfl
          have e24 : a'.eval (.tmp 24) = HV (root nd em (l.drop k)) := KS_val (hd.val 7 24 (by decide +kernel)) rfl
          refine wp_call 41 _ (run_enter 41 _ _ rfl (by kernel_rfl)) ?_
          simp only [List.map_toArray, List.map_nil, List.map_cons, e20, e24]
          refine (hnode_any _ _ _ (T0.out.gr hg)).mono ?_
          rintro e w5 ⟨rfl, hb5⟩
          exact ⟨_, rfl, KS_mkv rfl rfl, hb5⟩
      · intro a' w' hsz hdf hk hall hg
        have ev : a'.eval (.tmp 25) = HV (nd (root nd em (l.take k)) (root nd em (l.drop k))) := KS_val (hall 8 _ 25 (by decide) rfl rfl) rfl
        have ep : a'.eval (.tmp 2) = .pointer (some ⟨N, 0, none⟩) := hk.at 2 (by decide +kernel)
        have O1 := O0.out.kept hg
        have L1 : Below N w w' := L0.out.trans (Below.mono hg (Nat.le_of_lt O0.out.lt))
        rw [← HL.out] at ev
        refine wp_store_blk 30 _ _ rfl N (By zh.1) (By (root nd em l).1) 30 ep ev O1 (by rw [By_len, By_len]) (Tryd.sizeH _) (By_one _) ?_
        intro w2 hb2 hu2
        go_wp2
        refine bodyPost_ret (ret_hash rfl _ _ N (root nd em l) ?_ hb2) ?_ ⟨rfl, ?_⟩
        · exact ep
        · exact hdf
        · rw [HN.out]
          exact L1.trans (hu2.below (Nat.le_refl _) (by have := O1.lt; omega))
set_option maxHeartbeats 2000000 in
set_option maxRecDepth 100000 in
theorem nroot_any (l : List Hs) (v : Value) (w : World) (hr : RdG HE w v l) : Calls Tryd.prog 22 #[v] w fun e w' => e = .returned (HV (root nd em l)) ∧ Below w.heap.size w w' := by
  obtain ⟨m, hm⟩ : ∃ m, l.length = m := ⟨_, rfl⟩
  induction m using Nat.strongRecOn generalizing l v w with
  | _ m ih =>
  have HR := hide hr
  have hcap := hr.cap'
  obtain ⟨a, cp, rfl⟩ := hr.slice
  have hcp := hr.cap
  rw [hm] at HR hcap hcp ⊢
  have HM := hide hm
  have IH := hide ih
  obtain ⟨N, HN⟩ : ∃ N, Hid (w.heap.size = N) := ⟨_, rfl⟩
  clear hr hm ih
  go_enter Tryd.func22, Tryd.ntmps22
  go_upto_region 1 with fail
  obtain ⟨w0, hw0⟩ : ∃ z, z = w.alloc (.cells (By (List.replicate 32 0)).toArray 30 (0, 0)) := ⟨_, rfl⟩
  change Code.wp _ _ _ _ (w.alloc (.cells (By (List.replicate 32 0)).toArray 30 (0, 0)))
  rw [← hw0, HN.out]
  obtain ⟨b0, l0, s0⟩ := room_hash HN hw0
  have O0 := hide b0
  have L0 := hide l0
  have HS0 := hide s0
  have R0 : Hid (RdG HE w0 (.slice a m cp) l) := HR.out.kept (by rw [HN.out]; exact l0)
  clear hw0 b0 l0 s0
  by_cases h0 : m = 0
  · subst h0
    have HL : Hid (root nd em l = em) := (show _ = _ by rw [List.eq_nil_of_length_eq_zero HM.out, root_nil])
    go_wp2_with fail
    refine (rempty_any _).mono ?_
    rintro e w1 ⟨rfl, hb1⟩
    have O1 := hide (O0.out.kept hb1)
    have L1 : Hid (Below N w w1) := L0.out.trans (hb1.mono (Nat.le_of_lt O0.out.lt))
    clear hb1
    go_wp2_with (first
      | (refine wpList_store_blk rfl 30 _ _ rfl N (By zh.1) (By em.1) 30 rfl rfl O1.out (by rw [By_len, By_len]) (Tryd.sizeH em) (By_one _) ?_; intro w2 hb2 hu2)
      | fail)
    refine bodyPost_ret (ret_hash rfl _ _ N em rfl hb2) rfl ⟨by rw [HL.out], ?_⟩
    rw [HN.out]
    exact L1.out.trans (hu2.below (Nat.le_refl _) (by have := O1.out.lt; omega))
  · by_cases h1 : m = 1
    · subst h1
      obtain ⟨b, off, rfl, hlb, hx⟩ := R0.out.nth (by omega)
      have hl0 : 0 < l.length := by rw [HM.out]; decide
      have hr0 : w0.rangeAt b off (By l[0].1) := by have := hx 0 hl0; simpa [HE] using this
      have HL : Hid (root nd em l = l[0]) := (show _ = _ by
        match l, HM.out with
        | [x], _ => exact root_one nd em x)
      generalize l[0] = x at *
      clear hx
      go_wp2_with (first
        | (refine wpList_load_mid rfl 30 _ rfl b off rfl (By x.1) _ hr0 Tryd.underlying30 rfl (Tryd.sizeH x) ?_)
        | (refine wpList_store_blk rfl 30 _ _ rfl N (By zh.1) (By x.1) 30 rfl rfl O0.out (by rw [By_len, By_len]) (Tryd.sizeH x) (By_one _) ?_; intro w2 hb2 hu2)
        | fail)
      refine bodyPost_ret (ret_hash rfl _ _ N x rfl hb2) rfl ⟨by rw [HL.out], ?_⟩
      rw [HN.out]
      exact L0.out.trans (hu2.below (Nat.le_refl _) (by have := O0.out.lt; omega))
    · have h2 : 2 ≤ m := by omega
      have HL : Hid (root nd em l = nd (root nd em (l.take (spl m))) (root nd em (l.drop (spl m)))) := (show _ = _ by rw [root_split nd em (by rw [HM.out]; exact h2), HM.out])
      have hk1 := spl_lt h2
      have hk0 := spl_pos h2
      have hm63 : (m : Int) ≤ 9223372036854775807 := by omega
      have C1 := hide (fun w => nsplit_any (m : Int) hm63 w)
      rw [show ((m : Int)).toNat = m by omega] at C1
      generalize spl m = k at *
      obtain ⟨hs1, hs1r⟩ := slice_G_to (E := HE) (P := Tryd.prog) Tryd.underlying22 Tryd.size30 a m cp k (by omega) (by omega)
      obtain ⟨a2, hs2, -, hs2r⟩ := slice_G (E := HE) (P := Tryd.prog) Tryd.underlying22 Tryd.size30 a m cp k (by omega) (by omega)
      have RT := hide (hs1r _ _ R0.out)
      have RD := hide (hs2r _ _ R0.out)
      have HTL : Hid ((l.take k).length = k) := (show _ = _ by rw [List.length_take, HM.out]; omega)
      have HDL : Hid ((l.drop k).length = m - k) := (show _ = _ by rw [List.length_drop, HM.out])
      clear hs1r hs2r
      have q0 : ¬ (m : Int) = 0 := by omega
      have q1 : ¬ (m : Int) = 1 := by omega
      go_upto_region 7 with (first
        | (go_at_call 26; refine (C1.out _).mono ?_; rintro e w' ⟨rfl, rfl⟩)
        | fail)
      refine wp_region_tail Tryd.mixed (KS (fun i_ => match i_ with | 0 | 4 => .val (.slice a m cp) | 1 | 5 => .val (.int .i64 (k : Int)) | 2 => .val (.slice a k cp) | 3 => .val (HV (root nd em (l.take k))) | 6 => .val (.slice a2 (m - k) (cp - k)) | 7 => .val (HV (root nd em (l.drop k))) | 8 => .val (HV (nd (root nd em (l.take k)) (root nd em (l.drop k)))) | _ => .free)) 26 rfl (by decide +kernel) 9 _ rfl (by decide +kernel) (KS_mono _) ?_ ?_
      · refine AllFrom.cons (fun a' w' hg hk hd => ?_) (AllFrom.cons (fun a' w' hg hk hd => ?_) (AllFrom.cons (fun a' w' hg hk hd => ?_) (AllFrom.cons (fun a' w' hg hk hd => ?_) (AllFrom.cons (fun a' w' hg hk hd => ?_) (AllFrom.cons (fun a' w' hg hk hd => ?_) (AllFrom.cons (fun a' w' hg hk hd => ?_) (AllFrom.cons (fun a' w' hg hk hd => ?_) (AllFrom.cons (fun a' w' hg hk hd => ?_) AllFrom.nil))))))))
        · skip
          intro Q
          have e0 : a'.eval (.tmp 0) = .slice a m cp := hk.at 0 (by decide +kernel)
          exact wp_value _ (by simp only [execOp, e0]; rfl) (KS_mkv rfl rfl)
        · skip
          intro Q
          have e3 : a'.eval (.tmp 3) = .int .i64 (k : Int) := hk.at 3 (by decide +kernel)
          exact wp_value _ (by simp only [execOp, e3]; rfl) (KS_mkv rfl rfl)
        · skip
          intro Q
          have e17 : a'.eval (.tmp 17) = .slice a m cp := KS_val (hd.val 0 17 (by decide +kernel)) rfl
          have e18 : a'.eval (.tmp 18) = .int .i64 (k : Int) := KS_val (hd.val 1 18 (by decide +kernel)) rfl
          exact wp_value _ (by simp only [execOp, e17, e18, hs1, Sem.run_bind, Result.andThen_ok, Option.map_none, Option.map_some]; rfl) (KS_mkv rfl rfl)
        · skip
          intro Q
          have e19 : a'.eval (.tmp 19) = .slice a k cp := KS_val (hd.val 2 19 (by decide +kernel)) rfl
          refine wp_call 22 _ (run_enter 22 _ _ rfl (by kernel_rfl)) ?_
          simp only [List.map_toArray, List.map_nil, List.map_cons, e19]
          refine (IH.out k (by omega) (l.take k) _ _ (RT.out.kept hg) HTL.out).mono ?_
          rintro e w5 ⟨rfl, hb5⟩
          exact ⟨_, rfl, KS_mkv rfl rfl, hb5⟩
        · skip
          intro Q
          have e0 : a'.eval (.tmp 0) = .slice a m cp := hk.at 0 (by decide +kernel)
          exact wp_value _ (by simp only [execOp, e0]; rfl) (KS_mkv rfl rfl)
        · skip
          intro Q
          have e3 : a'.eval (.tmp 3) = .int .i64 (k : Int) := hk.at 3 (by decide +kernel)
          exact wp_value _ (by simp only [execOp, e3]; rfl) (KS_mkv rfl rfl)
        · skip
          intro Q
          have e21 : a'.eval (.tmp 21) = .slice a m cp := KS_val (hd.val 4 21 (by decide +kernel)) rfl
          have e22 : a'.eval (.tmp 22) = .int .i64 (k : Int) := KS_val (hd.val 5 22 (by decide +kernel)) rfl
          exact wp_value _ (by simp only [execOp, e21, e22, hs2, Sem.run_bind, Result.andThen_ok, Option.map_none, Option.map_some]; rfl) (KS_mkv rfl rfl)
        · skip
          intro Q
          have e23 : a'.eval (.tmp 23) = .slice a2 (m - k) (cp - k) := KS_val (hd.val 6 23 (by decide +kernel)) rfl
          refine wp_call 22 _ (run_enter 22 _ _ rfl (by kernel_rfl)) ?_
          simp only [List.map_toArray, List.map_nil, List.map_cons, e23]
          refine (IH.out (m - k) (by omega) (l.drop k) _ _ (RD.out.kept hg) HDL.out).mono ?_
          rintro e w5 ⟨rfl, hb5⟩
          exact ⟨_, rfl, KS_mkv rfl rfl, hb5⟩
        · skip
          intro Q
          have e20 : a'.eval (.tmp 20) = HV (root nd em (l.take k)) := KS_val (hd.val 3 20 (by decide +kernel)) rfl
          have e24 : a'.eval (.tmp 24) = HV (root nd em (l.drop k)) := KS_val (hd.val 7 24 (by decide +kernel)) rfl
          refine wp_call 23 _ (run_enter 23 _ _ rfl (by kernel_rfl)) ?_
          simp only [List.map_toArray, List.map_nil, List.map_cons, e20, e24]
          refine (rnode_any _ _ _).mono ?_
          rintro e w5 ⟨rfl, hb5⟩
          exact ⟨_, rfl, KS_mkv rfl rfl, hb5⟩
      · intro a' w' hsz hdf hk hall hg
        have ev : a'.eval (.tmp 25) = HV (nd (root nd em (l.take k)) (root nd em (l.drop k))) := KS_val (hall 8 _ 25 (by decide) rfl rfl) rfl
        have ep : a'.eval (.tmp 2) = .pointer (some ⟨N, 0, none⟩) := hk.at 2 (by decide +kernel)
        have O1 := O0.out.kept hg
        have L1 : Below N w w' := L0.out.trans (Below.mono hg (Nat.le_of_lt O0.out.lt))
        rw [← HL.out] at ev
        refine wp_store_blk 30 _ _ rfl N (By zh.1) (By (root nd em l).1) 30 ep ev O1 (by rw [By_len, By_len]) (Tryd.sizeH _) (By_one _) ?_
        intro w2 hb2 hu2
        go_wp2
        refine bodyPost_ret (ret_hash rfl _ _ N (root nd em l) ?_ hb2) ?_ ⟨rfl, ?_⟩
        · exact ep
        · exact hdf
        · rw [HN.out]
          exact L1.trans (hu2.below (Nat.le_refl _) (by have := O1.lt; omega))
end Go.Proofs.YtfclmjfbcmjfbaaDoor

/-
  mountain.Peaks.Good and the reference's: what the calls do.
-/
namespace Go.Proofs.YtfclmjfbcmjfbaaDoor
open Go.RowKit
/-- May a tree have this size, and as many peaks? -/
def goodB (s : Int) (n : Nat) : Bool := decide (0 ≤ s) && decide (s ≤ 1099511627776) && decide (n = (bitsFrom 63 s.toNat).length)
end Go.Proofs.YtfclmjfbcmjfbaaDoor

/-
  Rows of elements of any make: made, copied into; mountain.behind: what the call does.
-/
namespace Go.Proofs.YtfclmjfbcmjfbaaDoor
open Go.RowKit
section
variable {α : Type} {E : Enc α}
/-- make of elements: new memory. -/
theorem wpList_make_G {P : Program} (w : World) {ops : Array Oper} {rest : List Oper} {o : Oper} {a : Act} {Q : Exit → Act → World → Prop}
    (hg : o.guard = none) (l c : Operand) (t e : TypeId) (hop : o.op = Op.makeSlice t l c)
    (i : TypeInfo) (z : Value) (h1 : P.underlying t = some (.slice e)) (h2 : P.info? e = some i) (h3 : i.zero = some z) (h4 : i.size = E.n)
    (kl kc : IntKind) (L C : Int) (n m : Nat) (hl : a.eval l = .int kl L) (hc : a.eval c = .int kc C) (hL : L = (n : Int)) (hC : C = (m : Int)) (hnm : n ≤ m) (b2 : (i.bytes : Int) * (m : Int) ≤ 281474976710656) (b3 : m ≤ 281474976710656)
    (hK : ∀ cs : List Value, cs.length = m * E.n → wpList P ops Q rest (a.put o.dst (.slice (some ⟨w.heap.size, 0, none⟩) n m)) (w.alloc (.cells cs.toArray e))) :
    wpList P ops Q (o :: rest) a w := by
  refine wpList_plain hg fun K hK' => ?_
  subst hL
  subst hC
  have hrun := run_make (P := P) w t e i _ h1 h2 h3 kl kc n m (by omega) (by omega) b2 (by omega)
  have hk := hK (madeCells z.cells ((m : Int).toNat * i.size)).toList (by rw [Array.length_toList, size_madeCells, Int.toNat_natCast, h4])
  simp only [Int.toNat_natCast] at hrun hk
  unfold Oper.wp
  simp only [execOp, hop, hl, hc, hrun, Result.andThen, Sem.run_bind, Sem.run_pure]
  exact hK' _ _ hk
/-- copy of elements into a block. -/
theorem wpList_copy_G {P : Program} {w : World} {ops : Array Oper} {rest : List Oper} {o : Oper} {a : Act} {Q : Exit → Act → World → Prop} (hgd : o.guard = none) (d s : Operand) (dT sT : TypeId)
    (ho : o.op = .call { callee := .builtin .copy, args := #[d, s], argTypes := #[dT, sT] }) (elem : TypeId) (hu : P.underlying dT = some (.slice elem)) (hsz : (P.info? elem).map (·.size) = some E.n)
    (b off dLen dCap : Nat) (v : Value) (L : List α) (hd : a.eval d = .slice (some ⟨b, off, none⟩) dLen dCap) (hs : a.eval s = v) (hr : RdG E w v L) (hl : L.length ≤ dLen)
    (T : TypeId) (cs : List Value) (hB : Blk w b T cs) (hfit : off + L.length * E.n ≤ cs.length)
    (h : ∀ w', Blk w' b T (over cs off (E.cs L)) → But b w w' → wpList P ops Q rest (a.put o.dst (goInt L.length)) w') : wpList P ops Q (o :: rest) a w := by
  obtain ⟨ad, cap, rfl, h1, h2, h3, h4⟩ := hr
  have hc3 := Enc.cs_length (E := E) L
  have hrun : (Builtin.copy_ #[dT, sT] o.type #[.slice (some ⟨b, off, none⟩) dLen dCap, .slice ad L.length cap]).run P w = .ok (goInt L.length) (w.setCells b off (E.cs L)) := by
    have hmin : Nat.min L.length dLen = L.length := Nat.min_eq_left hl
    cases hq : P.info? elem with
    | none => simp [hq] at hsz
    | some i =>
      have hi : i.size = E.n := by simpa [hq] using hsz
      have hst := run_storeCells_cells (P := P) b off (E.cs L) 0 w (fun j hj => by rw [hB.cell (v := cs[off + 0 + j]'(by omega)) (by simp)]; rfl) (fun j _ => hB.frozen _) (Enc.cs_one L)
      by_cases hp : 0 < L.length
      · obtain ⟨c, of, rfl, hlt, hc⟩ := h4 hp
        have hld := run_loadCells_list (P := P) w ⟨c, of, none⟩ (E.cs L) (fun j u hj => by rw [Addr.add_mid]; exact hc j u hj)
        rw [hc3] at hld
        simp [Builtin.copy_, run_underlying hu, Builtin.lenOf, Builtin.firstCells, sizeOf, typeInfo, hq, hi, hmin, hld, hst]
      · have hL : L = [] := List.eq_nil_of_length_eq_zero (by omega)
        subst hL
        have hld : ∀ (x : Addr), (loadCells x 0).run P w = .ok #[] w := fun x => by simpa using run_loadCells_list (P := P) w x [] (by simp)
        cases ad <;> simp [Builtin.copy_, run_underlying hu, Builtin.lenOf, Builtin.firstCells, sizeOf, typeInfo, hq, storeCells, hld, World.setCells, Enc.cs_nil]
  refine wpList_plain hgd fun K hK => ?_
  unfold Oper.wp
  simp [execOp, ho, resolve, invoke, builtin, hd, hs, hrun, Result.andThen]
  exact hK _ _ (h _ (Blk.over (E.cs L) hB off (by omega)) (But.setCells b _ off w))
theorem over_two (cs : List Value) (L M : List α) (hl : cs.length = (L.length + M.length) * E.n) (off : Nat) (ho : off = L.length * E.n ∨ M = []) (hoff : off ≤ cs.length) : over (over cs 0 (E.cs L)) off (E.cs M) = E.cs (L ++ M) := by
  have h1 := Enc.cs_length (E := E) L
  have h2 := Enc.cs_length (E := E) M
  rw [Nat.add_mul] at hl
  rcases ho with rfl | rfl
  · unfold over
    rw [Enc.cs_append]
    simp only [List.take_zero, List.nil_append, Nat.zero_add]
    rw [← h1, List.take_left, List.drop_append, List.drop_of_length_le (l := E.cs L) (by omega), List.drop_of_length_le (l := cs.drop _) (by rw [List.length_drop]; omega)]
    simp
  · simp only [Enc.cs_nil, List.append_nil]
    have hz : cs.length = (E.cs L).length := by simp at hl; omega
    rw [over_all cs (E.cs L) hz]
    simp [over]
end
theorem Tryd.infoH : (Tryd.prog.info? 30).map (fun i => (i.zero.isSome, i.size, i.bytes)) = some (true, HE.n, 32) := by kernel_rfl
end Go.Proofs.YtfclmjfbcmjfbaaDoor
