/-
  indentureref09.Peaks.Add: what the call does.
-/
import Derived.Test.YtinlpaabmojmkaaDoorMtA
import Derived.Test.YtinlpaabmojmkaaDoorGR9
namespace Go.Proofs.YtinlpaabmojmkaaDoor
open Go.RowKit
section
variable {α : Type} {E : Enc α}
/-- Append to a row that is full, of something: a new row. -/
theorem run_append_full {P : Program} (w : World) (base : Nat) (t tx ty e : TypeId) (i : TypeInfo) (z : Value) (bytes : Nat) (ht : P.underlying t = some (.slice e)) (hi : P.info? e = some i) (hz : i.zero = some z)
    (hsize : i.size = E.n) (hby : i.bytes = bytes) (hzs : z.cells.size = E.n) (a : Option Addr) (n : Nat) (L : List α) (hr : RdG E w (.slice a n n) L) (x : Value) (M : List α) (hs : Src P E.n tx x M.length (E.cs M) w) (hm : 0 < M.length)
    (h63 : n + M.length ≤ maxLen) (hbytes : (n + M.length) * bytes ≤ 140737488355328) (hbase : base ≤ w.heap.size) :
    ∃ v' w', (Builtin.append_ #[t, tx] ty #[.slice a n n, x]).run P w = .ok v' w' ∧ OwnG E w' base e v' (L ++ M) ∧ Below w.heap.size w w' ∧ ∀ b, v'.ownBlock = some b → b = w.heap.size := by
  subst hby
  have hln := hr.len
  have hsmall : n + M.length ≤ 9223372036854775807 := by simp only [maxLen] at h63; omega
  have hold : (Builtin.firstCells i.size n (.slice a n n)).run P w.drew = .ok (E.cs L).toArray w.drew := by
    obtain ⟨a', cap', e', h1, h2, h3, h4⟩ := hr
    simp only [Value.slice.injEq] at e'
    obtain ⟨rfl, -, rfl⟩ := e'
    cases a with
    | none =>
      have hn0 := h3 rfl
      have hL : L = [] := List.eq_nil_of_length_eq_zero (by omega)
      subst hL
      exact run_firstCells_none w.drew i.size n n n
    | some b =>
      refine run_firstCells_some w.drew i.size n b n n (E.cs L) (by rw [Enc.cs_length, hsize, hln]) (fun j u hj => ?_)
      have hp : 0 < L.length := by
        have := (List.getElem?_eq_some_iff.1 hj).1
        rw [Enc.cs_length] at this
        exact Nat.pos_of_ne_zero fun h0 => by rw [h0] at this; omega
      obtain ⟨b', off, eb, -, hc⟩ := h4 hp
      cases eb
      rw [Addr.add_mid]
      exact hc j u hj
  have hs' : Src P i.size tx x M.length (E.cs M) w := by rw [hsize]; exact hs
  have hrun := run_append_grow_src (P := P) w t tx ty e i z ht hi hz a n n (E.cs L) hold x M.length (E.cs M) hs' (by omega) (by omega) (growslice_fits (by omega) hbytes)
  have hge := grownCap_ge w (n + M.length) n e
  have hcm : grownCap w (n + M.length) n e ≤ maxLen := grownCap_le_maxLen w (n + M.length) n e h63
  refine ⟨_, _, hrun, ?_, ⟨rfl, rfl, rfl, by simp, fun k hk => Below.heap_alloc w.drew _ k hk⟩, fun b hb => by simpa [Value.ownBlock] using hb.symm⟩
  have hlen : (E.cs L ++ E.cs M).length = (n + M.length) * E.n := by rw [← Enc.cs_append, Enc.cs_length, List.length_append, hln]
  unfold OwnG
  rw [Enc.cs_append, List.length_append, hln]
  refine ⟨hlen, .inr ⟨w.heap.size, _, _, rfl, hbase, heap_alloc_new w.drew _, hge, hcm, ?_, ?_⟩⟩
  · simp only [Array.size_append, List.size_toArray, size_zeroCells, hzs, hlen, ← Nat.add_mul]
    congr 1
    omega
  · simp only [Array.toList_append]
    rw [← hlen]
    exact List.take_left
/-- The first j, with no room behind. -/
theorem slice_G_cap {P : Program} {t e : TypeId} (ht : P.underlying t = some (.slice e)) (hsz : (P.info? e).map (·.size) = some E.n) (a : Option Addr) (n cap j : Nat) (hj : j ≤ n) (hn : n ≤ cap) :
    (∀ W, (Instr.sliceAt t (.slice a n cap) none (some (.int .i64 (j : Int))) (some (.int .i64 (j : Int)))).run P W = .ok (.slice a j j) W) ∧
      (∀ w (L : List α), RdG E w (.slice a n cap) L → RdG E w (.slice a j j) (L.take j)) := by
  have e2 : (j : Int) ≤ (cap : Int) := by omega
  refine ⟨fun W => ?_, fun w L hr => ?_⟩
  · cases hq : P.info? e with
    | none => simp [hq] at hsz
    | some k =>
      cases a <;> simp [Instr.sliceAt, Instr.slice, run_underlying ht, Instr.sliceBounds, run_sliceBound, e2, sizeOf, typeInfo, hq, Addr.add]
  · obtain ⟨a0, cap0, e, h1, h2, h3, h4⟩ := hr
    simp only [Value.slice.injEq] at e
    obtain ⟨rfl, rfl, rfl⟩ := e
    refine ⟨a, j, by rw [List.length_take]; congr 1; omega, by rw [List.length_take]; omega, by omega, fun h => by have := h3 h; omega, fun hp => ?_⟩
    rw [List.length_take] at hp
    obtain ⟨b, off, rfl, hlt, hcell⟩ := h4 (by omega)
    refine ⟨b, off, rfl, hlt, fun k u hk => hcell k u ?_⟩
    rw [Enc.cs_take] at hk
    have : k < j * E.n := by have := (List.getElem?_eq_some_iff.1 hk).1; rw [List.length_take] at this; omega
    rwa [List.getElem?_take_of_lt this] at hk
end
theorem Kept.put9 {ops : Array Oper} {a0 a : Act} {d : Nat} {v : Value} (h : Kept ops a0 a) (i : Nat) (o : Oper) (ho : ops[i]? = some o) (hd : o.dst = some d) : Kept ops a0 (a.put (some d) v) := fun t ht => by
  rw [eval_put_other (fun e => ht i o ho (hd.trans e))]
  exact h t ht
theorem Tryd.sizeQ : (Tryd.prog.info? 27).map (·.size) = some 2 := by kernel_rfl
theorem infoH9 : ∃ i z, Tryd.prog.info? 30 = some i ∧ i.zero = some z ∧ i.size = HE.n ∧ i.bytes = 32 ∧ z.cells.size = HE.n := by
  have h : (Tryd.prog.info? 30).map (fun i => (i.zero, i.size, i.bytes)) = some (some (HV zh), HE.n, 32) := by kernel_rfl
  obtain ⟨i, h1, h2, h3, h4⟩ := info_parts h
  exact ⟨i, _, h1, h2, h3, h4, by kernel_rfl⟩
theorem build0H (w : World) : (Instr.buildSlice 22 0 #[]).run Tryd.prog w = .ok (.slice (some ⟨w.heap.size, 0, none⟩) 0 0) (w.alloc (.cells #[] 30 (0, 0))) := by kernel_rfl
theorem run_append_full9 (w : World) (base : Nat) (t tx ty : TypeId) (a : Option Addr) (n : Nat) (L : List Hs) (hr : RdG HE w (.slice a n n) L) (x : Value) (M : List Hs) (hs : RdG HE w x M) (hm : 0 < M.length) (hl : n + M.length ≤ 1000000) (hbase : base ≤ w.heap.size) (ht : Tryd.prog.underlying t = some (.slice 30)) (htx : Tryd.prog.underlying tx = some (.slice 30)) :
    ∃ v' w', (Builtin.append_ #[t, tx] ty #[.slice a n n, x]).run Tryd.prog w = .ok v' w' ∧ Below w.heap.size w w' ∧ OwnG HE w' base 30 v' (L ++ M) := by
  obtain ⟨i, z, h1, h2, h3, h4, h5⟩ := infoH9
  obtain ⟨v', w', g1, g2, g3, -⟩ := run_append_full (E := HE) (P := Tryd.prog) w base t tx ty 30 i z 32 ht h1 h2 h3 h4 h5 a n L hr x M (hs.src tx 30 htx) hm (by unfold maxLen; omega) (by omega) hbase
  exact ⟨v', w', g1, g3, g2⟩
theorem run_append_own (w : World) (base : Nat) (t tx ty : TypeId) (g : Nat) (ho : OwnG HE w base 30 (.slice (some ⟨g, 0, none⟩) 0 0) []) (x : Value) (M : List Hs) (hs : RdG HE w x M) (hl : M.length ≤ 1000000) (ht : Tryd.prog.underlying t = some (.slice 30)) (htx : Tryd.prog.underlying tx = some (.slice 30)) :
    ∃ v' w', (Builtin.append_ #[t, tx] ty #[.slice (some ⟨g, 0, none⟩) 0 0, x]).run Tryd.prog w = .ok v' w' ∧ OwnG HE w' base 30 v' M ∧ Below w.heap.size w w' := by
  obtain ⟨i, z, h1, h2, h3, h4, h5⟩ := infoH9
  have hbase : base ≤ w.heap.size := by
    have := ho.block (b := g) rfl
    omega
  by_cases hm : M.length = 0
  · have hM : M = [] := List.eq_nil_of_length_eq_zero hm
    subst hM
    refine ⟨.slice (some ⟨g, 0, none⟩) 0 0, w, ?_, ho, Below.refl _ _⟩
    have q := hs.src tx 30 htx
    have q1 := q.len
    have q2 := q.cells
    simp only [List.length_nil, Enc.cs_nil] at q1 q2
    rcases q.kind with ⟨e', hk⟩ | hk <;> simp [Builtin.append_, run_underlying ht, run_underlying hk, sizeOf, typeInfo, h1, q1, q2, h3, storeCells]
  · obtain ⟨v', w', g1, g3, g2⟩ := run_append_full9 w base t tx ty (some ⟨g, 0, none⟩) 0 [] ho.rd x M hs (by omega) (by omega) hbase ht htx
    rw [List.nil_append] at g2
    exact ⟨v', w', g1, g2, g3⟩
set_option maxHeartbeats 4000000 in
set_option maxRecDepth 100000 in
theorem nadd_any (s : Int) (t : Value) (L : List Hs) (h : Hs) (h1 : s ≤ 9223372036854775807) (hlb : L.length ≤ 100000) (w : World) (hr : RdG HE w t L) :
    Calls Tryd.prog 14 #[.agg #[.int .i64 s, t], HV h] w fun e w' => ∃ t', e = .returned (.tuple #[.agg #[.int .i64 (addS s L.length), t'], .bool (addOk s L.length)]) ∧ RdG HE w' t' (addT s L h) ∧ (addOk s L.length = true → ∀ b, InB t' b → w.heap.size ≤ b) ∧ Below w.heap.size w w' := by
  have R := hide hr
  have hcap := hr.cap'
  obtain ⟨a, cp, rfl⟩ := hr.slice
  have hcp := hr.cap
  have HLB := hide hlb
  obtain ⟨n, HN⟩ : ∃ n, Hid (L.length = n) := ⟨_, rfl⟩
  rw [HN.out] at R hcap hcp ⊢
  clear hr hlb
  obtain ⟨N, HNw⟩ : ∃ N, Hid (w.heap.size = N) := ⟨_, rfl⟩
  go_enter Tryd.func14, Tryd.ntmps14
  go_upto_region 1 with fail
  obtain ⟨w0, hw0⟩ : ∃ z, z = ((w.alloc (.cells [.int .i64 s, .slice a n cp].toArray 27 (0, 0))).alloc (.cells (By h.1).toArray 30 (0, 0))).alloc (.cells [.int .i64 0, .slice none 0 0].toArray 27 (0, 0)) := ⟨_, rfl⟩
  change Code.wp _ _ _ _ (((w.alloc (.cells [.int .i64 s, .slice a n cp].toArray 27 (0, 0))).alloc (.cells (By h.1).toArray 30 (0, 0))).alloc (.cells [.int .i64 0, .slice none 0 0].toArray 27 (0, 0)))
  rw [← hw0, HNw.out]
  obtain ⟨b0, b1, b2, ln⟩ := boxes9 HNw hw0
  have r0 := R.out.kept (by rw [HNw.out]; exact ln)
  clear hw0
  have CG := ngood_any s (.slice a n cp) L h1 w0 r0
  rw [HN.out] at CG
  have D0 := hide b0
  go_wp2_with (first
    | (refine wpList_load_mid rfl 27 _ rfl N 0 rfl [.int .i64 s, .slice a n cp] _ D0.out.range0 Tryd.underlying27 rfl Tryd.sizeQ ?_)
    | fail)
  refine CG.mono ?_
  clear CG
  rintro e w1 ⟨rfl, hb1⟩
  have LN : Hid (Below N w w1) := ln.trans (hb1.mono (Nat.le_trans (by omega) (Nat.le_of_lt b2.lt)))
  have B0 := hide (b0.kept hb1)
  have B1 := hide (b1.kept hb1)
  have B2 := hide (b2.kept hb1)
  have R0 := hide (r0.kept hb1)
  have c0 : w1.cell? ⟨N, 0, none⟩ = some (.int .i64 s) := B0.out.cell (j := 0) rfl
  have c1 : w1.cell? ⟨N, 1, none⟩ = some (.slice a n cp) := B0.out.cell (j := 1) rfl
  clear b0 b1 b2 r0 ln hb1 D0
  cases hgd : goodB s n with
  | false =>
    have HA : Hid (addOk s n = false) := (show _ = _ by unfold addOk; rw [hgd]; rfl)
    have HGD := hide hgd
    clear hgd
    go_wp2_with (first
      | (refine wpList_load_mid rfl 27 _ rfl N 0 rfl [.int .i64 s, .slice a n cp] _ B0.out.range0 Tryd.underlying27 rfl Tryd.sizeQ ?_)
      | (refine wpList_store_blk rfl 27 _ _ rfl (N + 1 + 1) _ [.int .i64 s, .slice a n cp] 27 rfl rfl B2.out rfl Tryd.sizeQ (by simp [Value.oneCell']) ?_; intro w2 hb2 hu2)
      | fail)
    refine bodyPost_ret (results_peaks rfl _ _ (N + 1 + 1) _ [.int .i64 s, .slice a n cp] (.bool false) rfl rfl hb2 Tryd.underlying27 rfl Tryd.sizeQ) rfl ⟨.slice a n cp, by rw [HA.out]; unfold addS; rw [HA.out]; rfl, ?_, (fun h => by rw [HA.out] at h; cases h), by rw [HNw.out]; exact LN.out.trans (hu2.below (by omega) (by have := B2.out.lt; omega))⟩
    unfold addT
    rw [HN.out, HA.out]
    exact R0.out.chg (F := fun b => b = N + 1 + 1) (Chg.of_but hu2 rfl) (fun b' hb' e => by have h9 := R.out.inB_lt hb'; rw [HNw.out] at h9; omega)
  | true =>
    by_cases h40 : s = 1099511627776
    · have HA : Hid (addOk s n = false) := (show _ = _ by unfold addOk; rw [hgd, h40]; rfl)
      have HGD := hide hgd
      have q40 : (s == (1099511627776 : Int)) = true := by simpa using h40
      clear hgd
      go_wp2_with (first
        | (refine wpList_load_mid rfl 27 _ rfl N 0 rfl [.int .i64 s, .slice a n cp] _ B0.out.range0 Tryd.underlying27 rfl Tryd.sizeQ ?_)
        | (refine wpList_store_blk rfl 27 _ _ rfl (N + 1 + 1) _ [.int .i64 s, .slice a n cp] 27 rfl rfl B2.out rfl Tryd.sizeQ (by simp [Value.oneCell']) ?_; intro w2 hb2 hu2)
        | fail)
      refine bodyPost_ret (results_peaks rfl _ _ (N + 1 + 1) _ [.int .i64 s, .slice a n cp] (.bool false) rfl rfl hb2 Tryd.underlying27 rfl Tryd.sizeQ) rfl ⟨.slice a n cp, by rw [HA.out]; unfold addS; rw [HA.out]; rfl, ?_, (fun h => by rw [HA.out] at h; cases h), by rw [HNw.out]; exact LN.out.trans (hu2.below (by omega) (by have := B2.out.lt; omega))⟩
      unfold addT
      rw [HN.out, HA.out]
      exact R0.out.chg (F := fun b => b = N + 1 + 1) (Chg.of_but hu2 rfl) (fun b' hb' e => by have h9 := R.out.inB_lt hb'; rw [HNw.out] at h9; omega)
    · have HA : Hid (addOk s n = true) := (show _ = _ by unfold addOk; rw [hgd, decide_eq_false h40]; rfl)
      have hs0 : 0 ≤ s ∧ s ≤ 1099511627776 ∧ n = (bitsFrom 63 s.toNat).length := by
        unfold goodB at hgd
        simp only [Bool.and_eq_true, decide_eq_true_eq] at hgd
        exact ⟨hgd.1.1, hgd.1.2, hgd.2⟩
      obtain ⟨hs0, hs40, hbn⟩ := hs0
      have HBN := hide hbn
      have HGD := hide hgd
      have HTL : Hid (addT s L h = (carry nd s.toNat L.reverse h).reverse) := (show _ = _ by unfold addT; rw [HN.out, HA.out]; rfl)
      have hsn : ((s.toNat : Nat) : Int) = s := by omega
      have HSN := hide hsn
      have q40 : (s == (1099511627776 : Int)) = false := by simpa using h40
      obtain ⟨B9, HB9e⟩ : ∃ B9, Hid (w1.heap.size = B9) := ⟨_, rfl⟩
      have HB9 : Hid (B9 ≤ w1.heap.size) := (show B9 ≤ w1.heap.size by rw [HB9e.out]; exact Nat.le_refl _)
      have HNB : Hid (N + 1 + 1 < B9) := (show N + 1 + 1 < B9 by rw [← HB9e.out]; exact B2.out.lt)
      have hn63 : n ≤ 63 := by rw [hbn]; exact bits_le _ _
      clear hgd hbn hsn
      go_upto_region 3 with fail
      refine wp_region_tails Tryd.mixed (KS (fun i_ => match i_ with | 0 => .of (fun w v_ => ∃ g, v_ = .slice (some ⟨g, 0, none⟩) 0 0 ∧ OwnG HE w B9 30 v_ []) (fun _ _ _ hg h => by obtain ⟨g, e, ho⟩ := h; exact ⟨g, e, ho.kept hg⟩) | 1 => .val (.pointer (some ⟨N, 1, none⟩)) | 2 => .val (.slice a n cp) | 3 => .of (fun w v_ => OwnG HE w B9 30 v_ (L)) (fun _ _ _ hg h => OwnG.kept h hg) | 4 => .val (HV h) | 5 => .of (fun w v_ => RdG HE w v_ [h]) (fun _ _ _ hg h => RdG.kept h hg) | _ => .free)) 56 rfl (by decide +kernel) 6 (by decide) (by decide +kernel) (KS_mono _) ?_ ?_
      · refine AllFrom.cons ⟨rfl, fun a' w' hg hk hd => ?_⟩ (AllFrom.cons ⟨rfl, fun a' w' hg hk hd => ?_⟩ (AllFrom.cons ⟨rfl, fun a' w' hg hk hd => ?_⟩ (AllFrom.cons ⟨rfl, fun a' w' hg hk hd => ?_⟩ (AllFrom.cons ⟨rfl, fun a' w' hg hk hd => ?_⟩ (AllFrom.cons ⟨rfl, fun a' w' hg hk hd => ?_⟩ AllFrom.nil)))))
        · -- 0: Op.buildSlice 22 0 #[]
          intro Q
          have hr := build0H w'
          exact wp_grow (.slice (some ⟨w'.heap.size, 0, none⟩) 0 0) (w'.alloc (.cells #[] 30 (0, 0))) (by simp only [execOp, List.map_toArray, List.map_nil, hr, Sem.run_bind, Sem.run_pure, Result.andThen_ok]) ((Below.refl _ _).alloc (Nat.le_refl _) _) (KS_mko rfl ⟨_, rfl, ownG_none w' B9 30 (Nat.le_trans HB9.out hg.size)⟩)
        · -- 1: Op.fieldAddr 27 (Operand.tmp 2) 1
          intro Q
          have e2 : a'.eval (.tmp 2) = .pointer (some ⟨N, 0, none⟩) := hk.at 2 (by decide +kernel)
          clear hd hk
          exact wp_value (.pointer (some ⟨N, 1, none⟩)) (by simp only [execOp, e2]; go_simp) (KS_mkv rfl rfl)
        · -- 2: Op.load 22 (Operand.tmp 19)
          intro Q
          have e19 : a'.eval (.tmp 19) = .pointer (some ⟨N, 1, none⟩) := KS_val (hd.val 1 19 (by decide +kernel)) rfl
          have hc := (B0.out.kept hg).cell (j := 1) rfl
          clear hd hk
          exact wp_value (.slice a n cp) (by simp only [execOp, e19]; go_simp) (KS_mkv rfl rfl)
        · -- 3: Op.call ( callee := Callee.builtin Builtin.append, args := #[Operand.t
          intro Q
          have r18 := KS_of (hd.val 0 18 (by decide +kernel)) rfl
          have e20 : a'.eval (.tmp 20) = .slice a n cp := KS_val (hd.val 2 20 (by decide +kernel)) rfl
          obtain ⟨g, e18, o18⟩ := r18
          rw [e18] at o18
          obtain ⟨v9, w9, hr, ho9, hg9⟩ := run_append_own w' B9 22 22 22 g o18 (.slice a n cp) L (R0.out.kept hg) (by have := HLB.out; omega) Tryd.underlying22 Tryd.underlying22
          exact wp_grow v9 w9 (by simp only [execOp, resolve, invoke, builtin, Sem.run_bind, Sem.run_pure, Result.andThen_ok, List.map_toArray, List.map_cons, List.map_nil, e18, e20, hr]) hg9 (KS_mko rfl ho9)
        · -- 4: Op.load 30 (Operand.tmp 3)
          intro Q
          have e3 : a'.eval (.tmp 3) = .pointer (some ⟨N + 1, 0, none⟩) := hk.at 3 (by decide +kernel)
          exact wp_load_row 30 _ rfl _ _ e3 (By (h).1) _ ((B1.out.kept hg).range0) Tryd.underlying30 rfl (Tryd.sizeH _) (KS_mkv rfl rfl)
        · -- 5: Op.buildSlice 22 1 #[(0, Operand.tmp 22)]
          intro Q
          have e22 : a'.eval (.tmp 22) = HV h := KS_val (hd.val 4 22 (by decide +kernel)) rfl
          obtain ⟨w9, hr, hg9, hr9⟩ := hash_new w' (h)
          exact wp_grow _ w9 (by simp only [execOp, List.map_toArray, List.map_cons, List.map_nil, e22, hr, Sem.run_bind, Sem.run_pure, Result.andThen_ok]) hg9 (KS_mko rfl hr9)
      · intro a' w' hsz hdf hk hall hg
        have o21 : OwnG HE w' B9 30 (a'.eval (.tmp 21)) L := KS_of (hall 3 _ 21 (by decide) rfl rfl) rfl
        have r23 : RdG HE w' (a'.eval (.tmp 23)) [h] := KS_of (hall 5 _ 23 (by decide) rfl rfl) rfl
        obtain ⟨i9, z9, hi1, hi2, hi3, hi4, hi5⟩ := infoH9
        obtain ⟨v9, w9, hrun, ho9, hgr9⟩ := run_append_mine (P := Tryd.prog) w' B9 22 22 22 30 i9 z9 HE.n 32 Tryd.underlying22 hi1 hi2 hi3 hi4 hi5 (a'.eval (.tmp 21)) L.length (HE.cs L) o21 (a'.eval (.tmp 23)) 1 (HE.cs [h]) (r23.src 22 30 Tryd.underlying22) (by rw [HN.out]; unfold maxLen; omega) (by rw [HN.out]; omega) (Nat.le_trans HB9.out hg.size)
        have o9 : OwnG HE w9 B9 30 v9 (L ++ [h]) := by
          unfold OwnG
          rw [List.length_append, Enc.cs_append]
          exact ho9
        have hb9 : Below B9 w' w9 := below_of_grown w' o21 hgr9 (Nat.le_trans HB9.out hg.size)
        have hb19 : Below B9 w1 w9 := (Below.mono hg HB9.out).trans hb9
        have e24 : (a'.put (some 24) v9).eval (.tmp 24) = v9 := eval_put_same (by rw [show a'.tmps.size = 56 from hsz]; decide)
        refine ⟨rfl, ?_⟩
        unfold Oper.wp execOp
        simp only [resolve, invoke, builtin, Sem.run_bind, Sem.run_pure, Result.andThen_ok, List.map_toArray, List.map_cons, List.map_nil, hrun]
        refine ⟨v9, rfl, rfl, ?_⟩
        unfold Oper.wp execOp
        simp only [Sem.run_pure, e24]
        refine ⟨v9, rfl, ?_⟩
        obtain ⟨x18, e18⟩ : ∃ v, a'.eval (.tmp 18) = v := ⟨_, rfl⟩
        have e19 : a'.eval (.tmp 19) = .pointer (some ⟨N, 1, none⟩) := KS_val (hall 1 _ 19 (by decide) rfl rfl) rfl
        have e20 : a'.eval (.tmp 20) = .slice a n cp := KS_val (hall 2 _ 20 (by decide) rfl rfl) rfl
        obtain ⟨x21, e21⟩ : ∃ v, a'.eval (.tmp 21) = v := ⟨_, rfl⟩
        have e22 : a'.eval (.tmp 22) = HV h := KS_val (hall 4 _ 22 (by decide) rfl rfl) rfl
        obtain ⟨x23, e23⟩ : ∃ v, a'.eval (.tmp 23) = v := ⟨_, rfl⟩
        obtain ⟨af, haf⟩ : ∃ af, af = (a'.put (some 24) v9).put (some 6) v9 := ⟨_, rfl⟩
        have hsz2 : af.tmps.size = 56 := by rw [haf, put_size, put_size]; exact hsz
        have hdf2 : af.defers = [] := by rw [haf, put_defers', put_defers']; exact hdf
        have hk2 := (hk.put9 (v := v9) 6 _ rfl rfl).put9 (v := v9) 7 _ rfl rfl
        rw [← haf] at hk2
        have f18 : af.eval (.tmp 18) = x18 := by rw [haf, eval_put_other (by simp), eval_put_other (by simp)]; exact e18
        have f19 : af.eval (.tmp 19) = .pointer (some ⟨N, 1, none⟩) := by rw [haf, eval_put_other (by simp), eval_put_other (by simp)]; exact e19
        have f20 : af.eval (.tmp 20) = .slice a n cp := by rw [haf, eval_put_other (by simp), eval_put_other (by simp)]; exact e20
        have f21 : af.eval (.tmp 21) = x21 := by rw [haf, eval_put_other (by simp), eval_put_other (by simp)]; exact e21
        have f22 : af.eval (.tmp 22) = HV h := by rw [haf, eval_put_other (by simp), eval_put_other (by simp)]; exact e22
        have f23 : af.eval (.tmp 23) = x23 := by rw [haf, eval_put_other (by simp), eval_put_other (by simp)]; exact e23
        have f24 : af.eval (.tmp 24) = v9 := by rw [haf, eval_put_other (by simp)]; exact e24
        have f6 : af.eval (.tmp 6) = v9 := by rw [haf]; exact eval_put_same (by rw [put_size, show a'.tmps.size = 56 from hsz]; decide)
        have ha := act_puts 56 rfl hsz2 hdf2 hk2 [18, 19, 20, 21, 22, 23, 24, 6] (by decide +kernel)
        simp only [puts, List.foldl_cons, List.foldl_nil, f18, f19, f20, f21, f22, f23, f24, f6] at ha
        simp only [Act.put, List.setIfInBounds_toArray, List.set_cons_succ, List.set_cons_zero] at ha
        rw [← haf, ha]
        clear hall hk hsz hdf hk2 hsz2 hdf2 f18 f19 f20 f21 f22 f23 f24 f6 e18 e19 e20 e21 e22 e23 e24 haf ha hi1 hi2 hi3 hi4 hi5 hrun ho9 hgr9 o21 r23
        have G9 : Hid (Below w1.heap.size w1 w9) := (show Below w1.heap.size w1 w9 by rw [HB9e.out]; exact hb19)
        have O9 := hide o9
        have c0' : w9.cell? ⟨N, 0, none⟩ = some (.int .i64 s) := (B0.out.kept G9.out).cell (j := 0) rfl
        clear hb19 hb9 o9 hg c0 c1
        show Exit.then _ _ Exit.normal _ w9
        go_wp2_with fail
        go_loopg [6, 7] (n + 1) (fun g y z wr => ∃ (k c : Nat) (x : Hs), g = k + 1 ∧ z = .int .i64 (c : Int) ∧ k ≤ n ∧ c ≤ 1099511627776 ∧ Hid ((bitsFrom 63 c).length = k) ∧ Hid (carry nd s.toNat L.reverse h = carry nd c (L.take k).reverse x) ∧ Hid (OwnG HE wr B9 30 y (L.take k ++ [x])) ∧ Hid (Below w1.heap.size w1 wr))
        case atStart => exact ⟨n, s.toNat, h, rfl, by rw [HSN.out], Nat.le_refl _, by omega, HBN.out.symm, (show _ = _ by rw [List.take_of_length_le (by rw [HN.out]; exact Nat.le_refl _)]), (show OwnG _ _ _ _ _ _ by rw [List.take_of_length_le (by rw [HN.out]; exact Nat.le_refl _)]; exact O9.out), G9.out⟩
        case round =>
          obtain ⟨k, c, x, rfl, rfl, hkn, hc40, HK, HC, OR, GR⟩ := hrel
          have hpop := bits_pop (c := c) (by omega)
          rw [HK.out] at hpop
          clear c0' O9 G9
          have HB9r : Hid (B9 ≤ wr.heap.size) := (show B9 ≤ wr.heap.size by rw [← HB9e.out]; exact GR.out.size)
          by_cases hodd : c % 2 = 1
          · obtain ⟨k, rfl⟩ : ∃ k', k = k' + 1 := ⟨k - 1, by omega⟩
            have hkL : k < L.length := by rw [HN.out]; omega
            have HP : Hid ((bitsFrom 63 (c / 2)).length = k) := (show _ = _ by omega)
            have HCO := hide (carry_odd hodd L hkL x)
            have hlen : (L.take (k + 1) ++ [x]).length = k + 2 := by rw [List.length_append, List.length_take, HN.out, List.length_singleton]; omega
            obtain ⟨a6, c6, ht6⟩ := OR.out.rd.slice
            rw [hlen] at ht6
            subst ht6
            have RR := OR.out.rd
            obtain ⟨b6, o6, rfl, hb6, hx6⟩ := RR.nth (by omega)
            have hry : wr.rangeAt b6 (o6 + k * 32) (By L[k].1) := by
              have := hx6 k (by rw [hlen]; omega)
              rwa [List.getElem_append_left (by rw [List.length_take]; omega), List.getElem_take] at this
            have hrx : wr.rangeAt b6 (o6 + (k + 1) * 32) (By x.1) := by
              have := hx6 (k + 1) (by rw [hlen]; omega)
              rwa [List.getElem_append_right (by rw [List.length_take]; omega), List.getElem_singleton] at this
            have hcp6 := RR.cap
            obtain ⟨hs1, hs1r⟩ := slice_G_cap (E := HE) (P := Tryd.prog) Tryd.underlying22 Tryd.size30 (some ⟨b6, o6, none⟩) (k + 2) c6 k (by omega) hcp6
            have RK : Hid (RdG HE wr (.slice (some ⟨b6, o6, none⟩) k k) (L.take k)) := (show RdG _ _ _ _ by
              have := hs1r _ _ RR
              rwa [List.take_append_of_le_length (by rw [List.length_take]; omega), List.take_take, Nat.min_eq_left (by omega)] at this)
            generalize L[k] = y at *
            have hm1 : (c : Int) % 2 = 1 := by omega
            have hm2 : (c : Int).tmod 2 = 1 := by rw [Int.tmod_eq_emod_of_nonneg (by omega)]; exact hm1
            obtain ⟨c2, HC2⟩ : ∃ c2, Hid (c / 2 = c2) := ⟨_, rfl⟩
            have hq1 : (c : Int) / 2 = (c2 : Int) := by have := HC2.out; omega
            have hq2 : (c : Int).tdiv 2 = (c2 : Int) := by rw [Int.tdiv_eq_ediv_of_nonneg (by omega)]; exact hq1
            have hc2 : c2 ≤ 1099511627776 := by have := HC2.out; omega
            rw [HC2.out] at HP HCO
            have HODD := hide hodd
            have HPOP := hide hpop
            have q9 : ¬ k + 2 ≤ k := by omega
            have q9' : ¬ k + 2 ≤ k + 1 := by omega
            have q8 : (k : Int) < (k : Int) + 2 := by omega
            have q8' : (k : Int) + 1 < (k : Int) + 2 := by omega
            have q7 : ¬ (k : Int) + 1 < 0 := by omega
            have hw1 : IntKind.i64.wrap ((k : Int) + 1) = (k : Int) + 1 := by rw [IntKind.wrap_i64]; omega
            clear hpop hodd hx6 RR hs1r hcp6
            go_upto_region 8 with fail
            refine wp_region_tailsK Tryd.mixed (KS (fun i_ => match i_ with | 0 | 4 | 8 => .val (.slice (some ⟨b6, o6, none⟩) (k + 2) c6) | 1 | 2 | 5 | 9 => .val (.int .i64 (k : Int)) | 3 => .val (.slice (some ⟨b6, o6, none⟩) k k) | 6 => .val (.pointer (some ⟨b6, o6 + k * 32, none⟩)) | 7 => .val (HV y) | 10 => .val (.int .i64 ((k : Int) + 1)) | 11 => .val (.pointer (some ⟨b6, o6 + (k + 1) * 32, none⟩)) | 12 => .val (HV x) | 13 => .val (HV (nd y x)) | 14 => .of (fun w v_ => RdG HE w v_ [nd y x]) (fun _ _ _ hg h => RdG.kept h hg) | 15 => .of (fun w v_ => OwnG HE w B9 30 v_ (L.take k ++ [nd y x])) (fun _ _ _ hg h => OwnG.kept h hg) | _ => .free)) 56 rfl (by decide +kernel) 16 (by decide) (by decide +kernel) (KS_mono _) ?_ ?_
            · refine AllFrom.cons ⟨rfl, fun a' w' hg hk hd => ?_⟩ (AllFrom.cons ⟨rfl, fun a' w' hg hk hd => ?_⟩ (AllFrom.cons ⟨rfl, fun a' w' hg hk hd => ?_⟩ (AllFrom.cons ⟨rfl, fun a' w' hg hk hd => ?_⟩ (AllFrom.cons ⟨rfl, fun a' w' hg hk hd => ?_⟩ (AllFrom.cons ⟨rfl, fun a' w' hg hk hd => ?_⟩ (AllFrom.cons ⟨rfl, fun a' w' hg hk hd => ?_⟩ (AllFrom.cons ⟨rfl, fun a' w' hg hk hd => ?_⟩ (AllFrom.cons ⟨rfl, fun a' w' hg hk hd => ?_⟩ (AllFrom.cons ⟨rfl, fun a' w' hg hk hd => ?_⟩ (AllFrom.cons ⟨rfl, fun a' w' hg hk hd => ?_⟩ (AllFrom.cons ⟨rfl, fun a' w' hg hk hd => ?_⟩ (AllFrom.cons ⟨rfl, fun a' w' hg hk hd => ?_⟩ (AllFrom.cons ⟨rfl, fun a' w' hg hk hd => ?_⟩ (AllFrom.cons ⟨rfl, fun a' w' hg hk hd => ?_⟩ (AllFrom.cons ⟨rfl, fun a' w' hg hk hd => ?_⟩ AllFrom.nil)))))))))))))))
              · -- 0: Op.move (Operand.tmp 6)
                intro Q
                have e6 : a'.eval (.tmp 6) = .slice (some ⟨b6, o6, none⟩) (k + 2) c6 := hk.at 6 (by decide +kernel)
                exact wp_value _ (by simp only [execOp, e6]; rfl) (KS_mkv rfl rfl)
              · -- 1: Op.move (Operand.tmp 8)
                intro Q
                have e8 : a'.eval (.tmp 8) = .int .i64 (k : Int) := hk.at 8 (by decide +kernel)
                exact wp_value _ (by simp only [execOp, e8]; rfl) (KS_mkv rfl rfl)
              · -- 2: Op.move (Operand.tmp 8)
                intro Q
                have e8 : a'.eval (.tmp 8) = .int .i64 (k : Int) := hk.at 8 (by decide +kernel)
                exact wp_value _ (by simp only [execOp, e8]; rfl) (KS_mkv rfl rfl)
              · -- 3: Op.slice 22 (Operand.tmp 35) none (some (Operand.tmp 36)) (some (Opera
                intro Q
                have e35 : a'.eval (.tmp 35) = .slice (some ⟨b6, o6, none⟩) (k + 2) c6 := KS_val (hd.val 0 35 (by decide +kernel)) rfl
                have e36 : a'.eval (.tmp 36) = .int .i64 (k : Int) := KS_val (hd.val 1 36 (by decide +kernel)) rfl
                have e37 : a'.eval (.tmp 37) = .int .i64 (k : Int) := KS_val (hd.val 2 37 (by decide +kernel)) rfl
                exact wp_value _ (by simp only [execOp, e35, e36, e37, hs1, Sem.run_bind, Result.andThen_ok, Option.map_none, Option.map_some]; rfl) (KS_mkv rfl rfl)
              · -- 4: Op.move (Operand.tmp 6)
                intro Q
                have e6 : a'.eval (.tmp 6) = .slice (some ⟨b6, o6, none⟩) (k + 2) c6 := hk.at 6 (by decide +kernel)
                exact wp_value _ (by simp only [execOp, e6]; rfl) (KS_mkv rfl rfl)
              · -- 5: Op.move (Operand.tmp 8)
                intro Q
                have e8 : a'.eval (.tmp 8) = .int .i64 (k : Int) := hk.at 8 (by decide +kernel)
                exact wp_value _ (by simp only [execOp, e8]; rfl) (KS_mkv rfl rfl)
              · -- 6: Op.indexAddr 22 (Operand.tmp 39) (Operand.tmp 40)
                intro Q
                have e39 : a'.eval (.tmp 39) = .slice (some ⟨b6, o6, none⟩) (k + 2) c6 := KS_val (hd.val 4 39 (by decide +kernel)) rfl
                have e40 : a'.eval (.tmp 40) = .int .i64 (k : Int) := KS_val (hd.val 5 40 (by decide +kernel)) rfl
                clear hd hk
                exact wp_value (.pointer (some ⟨b6, o6 + k * 32, none⟩)) (by simp only [execOp, e39, e40]; go_simp) (KS_mkv rfl rfl)
              · -- 7: Op.load 30 (Operand.tmp 41)
                intro Q
                have e41 : a'.eval (.tmp 41) = .pointer (some ⟨b6, o6 + k * 32, none⟩) := KS_val (hd.val 6 41 (by decide +kernel)) rfl
                exact wp_load_row 30 _ rfl _ _ e41 (By (y).1) _ (rangeAt_kept9 hry hb6 hg) Tryd.underlying30 rfl (Tryd.sizeH _) (KS_mkv rfl rfl)
              · -- 8: Op.move (Operand.tmp 6)
                intro Q
                have e6 : a'.eval (.tmp 6) = .slice (some ⟨b6, o6, none⟩) (k + 2) c6 := hk.at 6 (by decide +kernel)
                exact wp_value _ (by simp only [execOp, e6]; rfl) (KS_mkv rfl rfl)
              · -- 9: Op.move (Operand.tmp 8)
                intro Q
                have e8 : a'.eval (.tmp 8) = .int .i64 (k : Int) := hk.at 8 (by decide +kernel)
                exact wp_value _ (by simp only [execOp, e8]; rfl) (KS_mkv rfl rfl)
              · -- 10: Op.binOp BinOp.add 3 (Operand.tmp 44) (Operand.const (Value.int IntKin
                intro Q
                have e44 : a'.eval (.tmp 44) = .int .i64 (k : Int) := KS_val (hd.val 9 44 (by decide +kernel)) rfl
                clear hd hk
                exact wp_value (.int .i64 ((k : Int) + 1)) (by simp only [execOp, e44]; go_simp) (KS_mkv rfl rfl)
              · -- 11: Op.indexAddr 22 (Operand.tmp 43) (Operand.tmp 45)
                intro Q
                have e43 : a'.eval (.tmp 43) = .slice (some ⟨b6, o6, none⟩) (k + 2) c6 := KS_val (hd.val 8 43 (by decide +kernel)) rfl
                have e45 : a'.eval (.tmp 45) = .int .i64 ((k : Int) + 1) := KS_val (hd.val 10 45 (by decide +kernel)) rfl
                clear hd hk
                exact wp_value (.pointer (some ⟨b6, o6 + (k + 1) * 32, none⟩)) (by simp only [execOp, e43, e45]; go_simp) (KS_mkv rfl rfl)
              · -- 12: Op.load 30 (Operand.tmp 46)
                intro Q
                have e46 : a'.eval (.tmp 46) = .pointer (some ⟨b6, o6 + (k + 1) * 32, none⟩) := KS_val (hd.val 11 46 (by decide +kernel)) rfl
                exact wp_load_row 30 _ rfl _ _ e46 (By (x).1) _ (rangeAt_kept9 hrx hb6 hg) Tryd.underlying30 rfl (Tryd.sizeH _) (KS_mkv rfl rfl)
              · -- 13: Op.call ( callee := Callee.value (Operand.func 20), args := #[Operand.
                intro Q
                have e42 : a'.eval (.tmp 42) = HV y := KS_val (hd.val 7 42 (by decide +kernel)) rfl
                have e47 : a'.eval (.tmp 47) = HV x := KS_val (hd.val 12 47 (by decide +kernel)) rfl
                refine wp_call 20 _ (run_enter 20 _ _ rfl (by kernel_rfl)) ?_
                simp only [List.map_toArray, List.map_nil, List.map_cons, e42, e47]
                refine (rnode_any _ _ _).mono ?_
                rintro e w5 ⟨rfl, hb5⟩
                exact ⟨_, rfl, KS_mkv rfl rfl, hb5⟩
              · -- 14: Op.buildSlice 22 1 #[(0, Operand.tmp 48)]
                intro Q
                have e48 : a'.eval (.tmp 48) = HV (nd y x) := KS_val (hd.val 13 48 (by decide +kernel)) rfl
                obtain ⟨w9, hr, hg9, hr9⟩ := hash_new w' (nd y x)
                exact wp_grow _ w9 (by simp only [execOp, List.map_toArray, List.map_cons, List.map_nil, e48, hr, Sem.run_bind, Sem.run_pure, Result.andThen_ok]) hg9 (KS_mko rfl hr9)
              · -- 15: Op.call ( callee := Callee.builtin Builtin.append, args := #[Operand.t
                intro Q
                have e38 : a'.eval (.tmp 38) = .slice (some ⟨b6, o6, none⟩) k k := KS_val (hd.val 3 38 (by decide +kernel)) rfl
                have r49 := KS_of (hd.val 14 49 (by decide +kernel)) rfl
                obtain ⟨v9, w9, hr, hg9, ho9⟩ := run_append_full9 w' B9 22 22 22 (some ⟨b6, o6, none⟩) k (L.take k) (RK.out.kept hg) (a'.eval (.tmp 49)) [nd y x] r49 (by simp) (by have := HLB.out; simp; omega) (Nat.le_trans HB9r.out hg.size) Tryd.underlying22 Tryd.underlying22
                exact wp_grow v9 w9 (by simp only [execOp, resolve, invoke, builtin, Sem.run_bind, Sem.run_pure, Result.andThen_ok, List.map_toArray, List.map_cons, List.map_nil, e38, hr]) hg9 (KS_mko rfl ho9)
            · intro a' w' hsz hdf hk hall hg
              have r50 : OwnG HE w' B9 30 (a'.eval (.tmp 50)) (L.take k ++ [nd y x]) := KS_of (hall 15 _ 50 (by decide) rfl rfl) rfl
              obtain ⟨x6, e50⟩ : ∃ v, a'.eval (.tmp 50) = v := ⟨_, rfl⟩
              rw [e50] at r50
              refine ⟨rfl, ?_⟩
              unfold Oper.wp execOp
              simp only [Sem.run_pure, e50]
              refine ⟨x6, rfl, ?_⟩
              have e35 : a'.eval (.tmp 35) = .slice (some ⟨b6, o6, none⟩) (k + 2) c6 := KS_val (hall 0 _ 35 (by decide) rfl rfl) rfl
              have e36 : a'.eval (.tmp 36) = .int .i64 (k : Int) := KS_val (hall 1 _ 36 (by decide) rfl rfl) rfl
              have e37 : a'.eval (.tmp 37) = .int .i64 (k : Int) := KS_val (hall 2 _ 37 (by decide) rfl rfl) rfl
              have e38 : a'.eval (.tmp 38) = .slice (some ⟨b6, o6, none⟩) k k := KS_val (hall 3 _ 38 (by decide) rfl rfl) rfl
              have e39 : a'.eval (.tmp 39) = .slice (some ⟨b6, o6, none⟩) (k + 2) c6 := KS_val (hall 4 _ 39 (by decide) rfl rfl) rfl
              have e40 : a'.eval (.tmp 40) = .int .i64 (k : Int) := KS_val (hall 5 _ 40 (by decide) rfl rfl) rfl
              have e41 : a'.eval (.tmp 41) = .pointer (some ⟨b6, o6 + k * 32, none⟩) := KS_val (hall 6 _ 41 (by decide) rfl rfl) rfl
              have e42 : a'.eval (.tmp 42) = HV y := KS_val (hall 7 _ 42 (by decide) rfl rfl) rfl
              have e43 : a'.eval (.tmp 43) = .slice (some ⟨b6, o6, none⟩) (k + 2) c6 := KS_val (hall 8 _ 43 (by decide) rfl rfl) rfl
              have e44 : a'.eval (.tmp 44) = .int .i64 (k : Int) := KS_val (hall 9 _ 44 (by decide) rfl rfl) rfl
              have e45 : a'.eval (.tmp 45) = .int .i64 ((k : Int) + 1) := KS_val (hall 10 _ 45 (by decide) rfl rfl) rfl
              have e46 : a'.eval (.tmp 46) = .pointer (some ⟨b6, o6 + (k + 1) * 32, none⟩) := KS_val (hall 11 _ 46 (by decide) rfl rfl) rfl
              have e47 : a'.eval (.tmp 47) = HV x := KS_val (hall 12 _ 47 (by decide) rfl rfl) rfl
              have e48 : a'.eval (.tmp 48) = HV (nd y x) := KS_val (hall 13 _ 48 (by decide) rfl rfl) rfl
              obtain ⟨x49, e49⟩ : ∃ v, a'.eval (.tmp 49) = v := ⟨_, rfl⟩
              obtain ⟨af, haf⟩ : ∃ af, af = a'.put (some 6) x6 := ⟨_, rfl⟩
              have hsz2 : af.tmps.size = 56 := by rw [haf, put_size]; exact hsz
              have hdf2 : af.defers = [] := by rw [haf, put_defers']; exact hdf
              have hk2 := hk.all.put9 (v := x6) 16 _ rfl rfl
              rw [← haf] at hk2
              have f35 : af.eval (.tmp 35) = .slice (some ⟨b6, o6, none⟩) (k + 2) c6 := by rw [haf, eval_put_other (by simp)]; exact e35
              have f36 : af.eval (.tmp 36) = .int .i64 (k : Int) := by rw [haf, eval_put_other (by simp)]; exact e36
              have f37 : af.eval (.tmp 37) = .int .i64 (k : Int) := by rw [haf, eval_put_other (by simp)]; exact e37
              have f38 : af.eval (.tmp 38) = .slice (some ⟨b6, o6, none⟩) k k := by rw [haf, eval_put_other (by simp)]; exact e38
              have f39 : af.eval (.tmp 39) = .slice (some ⟨b6, o6, none⟩) (k + 2) c6 := by rw [haf, eval_put_other (by simp)]; exact e39
              have f40 : af.eval (.tmp 40) = .int .i64 (k : Int) := by rw [haf, eval_put_other (by simp)]; exact e40
              have f41 : af.eval (.tmp 41) = .pointer (some ⟨b6, o6 + k * 32, none⟩) := by rw [haf, eval_put_other (by simp)]; exact e41
              have f42 : af.eval (.tmp 42) = HV y := by rw [haf, eval_put_other (by simp)]; exact e42
              have f43 : af.eval (.tmp 43) = .slice (some ⟨b6, o6, none⟩) (k + 2) c6 := by rw [haf, eval_put_other (by simp)]; exact e43
              have f44 : af.eval (.tmp 44) = .int .i64 (k : Int) := by rw [haf, eval_put_other (by simp)]; exact e44
              have f45 : af.eval (.tmp 45) = .int .i64 ((k : Int) + 1) := by rw [haf, eval_put_other (by simp)]; exact e45
              have f46 : af.eval (.tmp 46) = .pointer (some ⟨b6, o6 + (k + 1) * 32, none⟩) := by rw [haf, eval_put_other (by simp)]; exact e46
              have f47 : af.eval (.tmp 47) = HV x := by rw [haf, eval_put_other (by simp)]; exact e47
              have f48 : af.eval (.tmp 48) = HV (nd y x) := by rw [haf, eval_put_other (by simp)]; exact e48
              have f49 : af.eval (.tmp 49) = x49 := by rw [haf, eval_put_other (by simp)]; exact e49
              have f50 : af.eval (.tmp 50) = x6 := by rw [haf, eval_put_other (by simp)]; exact e50
              have f6 : af.eval (.tmp 6) = x6 := by rw [haf]; exact eval_put_same (by rw [show a'.tmps.size = 56 from hsz]; decide)
              have ha := act_puts 56 rfl hsz2 hdf2 hk2 [35, 36, 37, 38, 39, 40, 41, 42, 43, 44, 45, 46, 47, 48, 49, 50, 6] (by decide +kernel)
              simp only [puts, List.foldl_cons, List.foldl_nil, f35, f36, f37, f38, f39, f40, f41, f42, f43, f44, f45, f46, f47, f48, f49, f50, f6] at ha
              simp only [Act.put, List.setIfInBounds_toArray, List.set_cons_succ, List.set_cons_zero] at ha
              rw [← haf, ha]
              clear hall hk hsz hdf hk2 hsz2 hdf2 haf ha f50 f6 e50 f35 e35 f36 e36 f37 e37 f38 e38 f39 e39 f40 e40 f41 e41 f42 e42 f43 e43 f44 e44 f45 e45 f46 e46 f47 e47 f48 e48 f49 e49
              show Exit.inBlock _ _ Exit.normal _ w'
              have QL : Hid (Below w1.heap.size w1 w') := GR.out.trans (Below.mono hg GR.out.size)
              clear hg hs1 hry hrx
              have O6 : Hid (OwnG HE w' B9 30 x6 (L.take k ++ [nd y x])) := r50
              clear r50
              go_wp2
              go_roundg (k + 1)
              case measure => omega
              case rel => exact ⟨k, c2, nd y x, rfl, by go_num, by omega, by omega, HP.out, (show _ = _ by rw [HC.out, HCO.out]), O6.out, QL.out⟩
          · have hm1 : (c : Int) % 2 = 0 := by omega
            have hm2 : (c : Int).tmod 2 = 0 := by rw [Int.tmod_eq_emod_of_nonneg (by omega)]; exact hm1
            have HE2 := hide (carry_even (c := c) (by omega) (L.take k) x)
            have hw1 : IntKind.i64.wrap (s + 1) = s + 1 := by rw [IntKind.wrap_i64]; omega
            have D0 := hide (B0.out.kept GR.out)
            have D2 := hide (B2.out.kept GR.out)
            have c0' : wr.cell? ⟨N, 0, none⟩ = some (.int .i64 s) := D0.out.cell (j := 0) rfl
            obtain ⟨a6, c6, ht6⟩ := OR.out.rd.slice
            generalize (L.take k ++ [x]).length = n6 at ht6
            subst ht6
            clear hpop hodd
            go_wp2_with (first
              | (refine wpList_store_blk rfl 27 _ _ rfl (N + 1 + 1) _ [.int .i64 (s + 1), .slice a6 n6 c6] 27 rfl rfl D2.out rfl Tryd.sizeQ (by simp [Value.oneCell']) ?_; intro w2 hb2 hu2)
              | fail)
            have o4 : OwnG HE w2 B9 30 (.slice a6 n6 c6) (L.take k ++ [x]) := OR.out.chg (F := fun b => b = N + 1 + 1) (Chg.of_but hu2 rfl) (fun b hb e => by have := (OR.out.block hb).1; have := HNB.out; omega)
            refine bodyPost_ret (results_peaks rfl _ _ (N + 1 + 1) _ [.int .i64 (s + 1), .slice a6 n6 c6] (.bool true) rfl rfl hb2 Tryd.underlying27 rfl Tryd.sizeQ) rfl ⟨.slice a6 n6 c6, by rw [HA.out]; unfold addS; rw [HA.out]; rfl, by rw [HTL.out, HC.out, HE2.out]; exact o4.rd, fun _ b' hb' => ?_, ?_⟩
            · have := (OR.out.block (inB_own hb')).1
              have := HNB.out
              rw [HNw.out]
              omega
            · rw [HNw.out]
              exact (LN.out.trans (GR.out.mono (by have := B2.out.lt; omega))).trans (hu2.below (by omega) (by have := D2.out.lt; omega))
#print axioms nadd_any
end Go.Proofs.YtinlpaabmojmkaaDoor
