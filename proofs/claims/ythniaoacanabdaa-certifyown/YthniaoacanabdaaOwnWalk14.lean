/-
  The law CertifyOwn: what the call does.
-/
import Derived.Test.YthniaoacanabdaaCtU
import Derived.Test.YthniaoacanabdaaCtN
import Derived.Test.YthniaoacanabdaaCtZ
import Derived.Test.YthniaoacanabdaaCtF
namespace Go.Proofs.Ythniaoacanabdaa
open Go.RowKit
theorem rdR_cells (r : Rc) (Qs : List Rz) (a : Option Addr) (c n : Nat) (h : Qs.length = n) : (RC r).set 3 (.slice a n c) = RC (rdR r Qs a c) := by subst h; rfl
theorem rdR_cell {w : World} {b : Nat} {T : TypeId} {r : Rc} {Qs : List Rz} {qa : Option Addr} {qc m : Nat} (h : Blk w b T (RC (rdR r Qs qa qc))) (hm : Qs.length = m) : w.cell? ⟨b, 3, none⟩ = some (.slice qa m qc) := by
  subst hm
  exact h.rrs
theorem rdX_one {w : World} {x : Rz} (h : XOk w x) : RdX (w.alloc (.cells (XE.c x).toArray 27 (0, 0))) (.slice (some ⟨w.heap.size, 0, none⟩) 1 1) [x] :=
  ⟨rdG_one (E := XE) w 27 x, fun y hy => by
    rw [List.mem_singleton] at hy
    subst hy
    exact h.kept ((Below.refl _ _).alloc (Nat.le_refl _) _)⟩
theorem slice_midX (g off n cap lo hi : Nat) (h1 : lo ≤ hi) (h2 : hi ≤ cap) (h4 : lo < cap) (W : World) :
    (Instr.sliceAt 22 (.slice (some ⟨g, off, none⟩) n cap) (some (.int .i64 (lo : Int))) (some (.int .i64 (hi : Int))) none).run Try.prog W = .ok (.slice (some ⟨g, off + lo * 4, none⟩) (hi - lo) (cap - lo)) W := by
  have e1 : (lo : Int) ≤ (hi : Int) := by omega
  have e2 : (hi : Int) ≤ (cap : Int) := by omega
  have hsz := Try.size27
  cases hq : Try.prog.info? 27 with
  | none => simp [hq] at hsz
  | some i =>
    have hi1 : i.size = 4 := by simpa [hq] using hsz
    simp [Instr.sliceAt, Instr.slice, run_underlying Try.underlying22, Instr.sliceBounds, run_sliceBound, e1, e2, sizeOf, typeInfo, hq, hi1, Addr.add_mid]
    omega
theorem slice_oneX {w : World} {qa : Option Addr} {m qc : Nat} {Qs : List Rz} (h : RdX w (.slice qa m qc) Qs) {k : Nat} (hk : k < m) (hq : k < Qs.length) :
    ∃ a', (∀ W, (Instr.sliceAt 22 (.slice qa m qc) (some (.int .i64 (k : Int))) (some (.int .i64 ((k : Int) + 1))) none).run Try.prog W = .ok (.slice a' 1 (qc - k)) W) ∧ RdX w (.slice a' 1 (qc - k)) [Qs[k]] := by
  obtain ⟨⟨a0, c0, e0, h1, h2, h3, h4⟩, hp⟩ := h
  simp only [Value.slice.injEq] at e0
  obtain ⟨rfl, rfl, rfl⟩ := e0
  obtain ⟨b, off, rfl, hlt, hcell⟩ := h4 (by omega)
  refine ⟨some ⟨b, off + k * 4, none⟩, fun W => ?_, ⟨some ⟨b, off + k * 4, none⟩, qc - k, rfl, by simp; omega, by omega, fun h => by simp at h, fun _ => ⟨b, off + k * 4, rfl, hlt, fun j u hj => ?_⟩⟩, fun y hy => ?_⟩
  · have := slice_midX b off Qs.length qc k (k + 1) (by omega) (by omega) (by omega) W
    rw [show ((k + 1 : Nat) : Int) = (k : Int) + 1 by omega, show k + 1 - k = 1 by omega] at this
    exact this
  · rw [Enc.cs_one1] at hj
    have := hcell (k * XE.n + j) u (Enc.cs_get hq hj)
    rwa [← Nat.add_assoc] at this
  · rw [List.mem_singleton] at hy
    subst hy
    exact hp _ (List.getElem_mem hq)
theorem own_len {r : Rc} {Qs : List Rz} (h : Qs.map plR = (ownP r.rs).map plR) : Qs.length ≤ r.rs.length := by
  have h1 := congrArg List.length h
  rw [List.length_map, List.length_map] at h1
  rw [h1]
  have h2 : ∀ (l acc : List Rz), (ownA acc l).length ≤ acc.length + l.length := fun l => by
    induction l with
    | nil => intro acc; simp [ownA]
    | cons x l ih =>
      intro acc
      show (if again acc x = true then ownA acc l else ownA (acc ++ [x]) l).length ≤ _
      split
      · have := ih acc; rw [List.length_cons]; omega
      · have := ih (acc ++ [x]); rw [List.length_append, List.length_singleton] at this; rw [List.length_cons]; omega
  have := h2 r.rs []
  simpa [ownP] using this
theorem ownA_mem2 {l : List Rz} {x : Rz} (h : x ∈ ownP l) : x ∈ l := by
  have h2 : ∀ (l acc : List Rz), x ∈ ownA acc l → x ∈ acc ∨ x ∈ l := fun l => by
    induction l with
    | nil => intro acc h; exact .inl h
    | cons y l ih =>
      intro acc h
      have h' : x ∈ (if again acc y = true then ownA acc l else ownA (acc ++ [y]) l) := h
      split at h'
      · rcases ih acc h' with h | h
        · exact .inl h
        · exact .inr (List.mem_cons_of_mem _ h)
      · rcases ih _ h' with h | h
        · rcases List.mem_append.1 h with h | h
          · exact .inl h
          · rw [List.mem_singleton] at h
            subst h
            exact .inr (List.mem_cons_self ..)
        · exact .inr (List.mem_cons_of_mem _ h)
  rcases h2 l [] h with h | h
  · cases h
  · exact h
theorem pl_mem {A B : List Rz} (h : A.map plR = B.map plR) {P : Rz → Prop} (hP : ∀ x y, plR x = plR y → P x → P y) (hB : ∀ y ∈ B, P y) : ∀ x ∈ A, P x := fun x hx => by
  have : plR x ∈ B.map plR := by rw [← h]; exact List.mem_map.2 ⟨x, hx, rfl⟩
  obtain ⟨y, hy, e⟩ := List.mem_map.1 this
  exact hP y x e (hB y hy)
set_option maxHeartbeats 20000000 in
set_option maxRecDepth 100000 in
theorem certifyOwn_any {w : World} {r : Rc} {vl : Value} {L : List Rc} (hr : ROk w r) (hbr : RB 140737488351232 r) (hl : RdR9 w vl L) (hll : L.length * 72 ≤ 140737488351232) (hbl : ∀ x ∈ L, RB 140737488351232 x) : Calls Try.prog 8 #[.agg (RC r).toArray, vl] w fun e w' => e = .returned (.bool true) ∧ Below w.heap.size w w' := by
  obtain ⟨la, lc, rfl⟩ := hl.rd.slice
  obtain ⟨ln, HLN⟩ : ∃ n, Hid (L.length = n) := ⟨_, rfl⟩
  rw [HLN.out] at hl ⊢
  obtain ⟨N, HN⟩ : ∃ N, Hid (w.heap.size = N) := ⟨_, rfl⟩
  obtain ⟨w1, hw1⟩ : ∃ y, y = w.alloc (.cells (RC r).toArray 25 (0, 0)) := ⟨_, rfl⟩
  obtain ⟨b1, l1⟩ := newB HN hw1
  have HW := hide hw1
  have RO := hide (hr.kept l1.out)
  have RL := hide (hl.kept l1.out)
  obtain ⟨N1, HN1⟩ : ∃ N, Hid (w1.heap.size = N) := ⟨_, rfl⟩
  obtain ⟨w2, hw2⟩ : ∃ y, y = w1.alloc (.cells (RC r).toArray 25 (0, 0)) := ⟨_, rfl⟩
  obtain ⟨b2, l2⟩ := newB HN1 hw2
  have HW2 := hide hw2
  have O2 : Hid (OwnG RE w2 N1 25 (.slice (some ⟨N1, 0, none⟩) 1 1) [r]) := (show OwnG _ _ _ _ _ _ by rw [hw2, ← HN1.out]; exact ownE_one (E := RE) w1 _ 25 r (Nat.le_refl _))
  have RL2 := hide (RL.out.kept l2.out)
  have HL9 : Hid (([r].length + L.length) * 72 ≤ 140737488355328) := (show _ ≤ _ by rw [List.length_singleton]; omega)
  have HLM : Hid ([r].length + L.length ≤ maxLen) := (show _ ≤ _ by rw [List.length_singleton]; unfold maxLen; omega)
  have HBR := hide hbr
  have HBL := hide hbl
  have hN12 : Hid (N1 ≤ w2.heap.size) := (show _ ≤ _ from Nat.le_of_lt b2.out.lt)
  clear hr hl hw1 hw2 hbr hbl hll
  go_enter Try.func8, Try.ntmps8
  go_upto_region 1 with fail
  change Code.wp _ _ _ _ (w.alloc (.cells (RC r).toArray 25 (0, 0)))
  rw [← HW.out, HN.out]
  go_wp2_with (first
    | (refine wpList_load_mid rfl 25 _ rfl N 0 rfl (RC r) _ b1.out.range0 Try.underlying25 rfl Try.size25 ?_)
    | (refine wpList_build1E (E := RE) build_rec1 rfl _ rfl r rfl ?_; show wpList _ _ _ _ _ (w1.alloc (.cells (RC r).toArray 25 (0, 0))); rw [← HW2.out, HN1.out])
    | (refine wpList_append_B (E := RE) Try.underlying34 infoR rfl (.tmp 13) (.tmp 14) rfl N1 (.slice (some ⟨N1, 0, none⟩) 1 1) [r] rfl O2.out _ L rfl RL2.out.rd HL9.out HLM.out hN12.out ?_; intro v9 w9 o9 g9)
    | fail)
  obtain ⟨p9, c9, hv9⟩ := o9.form
  obtain ⟨n9, hn9⟩ : ∃ z, ([r] ++ L).length = z := ⟨_, rfl⟩
  rw [hn9] at hv9
  subst hv9
  have L9 : Hid (Below w1.heap.size w1 w9) := (show Below _ _ _ from l2.out.trans ((Chg.of_grown (F := fun k => k = N1) g9 (fun k e _ => by simpa [Value.ownBlock] using e.symm)).below l2.out.size (fun k hk e => by have := HN1.out; omega)))
  have CG := hide (lightL_any (rdR_cons RO.out o9 L9.out RL.out.rs) (fun x hx => by
    rcases List.mem_cons.1 hx with rfl | hx
    · exact HBR.out
    · exact HBL.out x hx))
  clear o9 g9 hn9
  refine CG.out.mono ?_
  rintro e w10 ⟨hpost, hb10⟩
  have L10 : Hid (Below w1.heap.size w1 w10) := (show Below _ _ _ from L9.out.trans (hb10.mono L9.out.size))
  clear hb10 CG
  rcases hpost with rfl | ⟨rfl, hl40, hlt⟩
  · have CV := hide (lives_any w10)
    go_wp2_with fail
    refine CV.out.mono ?_
    rintro e w11 ⟨rfl, hb11⟩
    have L11 : Hid (Below w.heap.size w w11) := (show Below _ _ _ from l1.out.trans ((L10.out.trans (hb11.mono L10.out.size)).mono l1.out.size))
    clear hb11 CV
    go_wp2_with fail
    go_ret
    exact ⟨rfl, L11.out⟩
  · have LT := hide (hlt r (List.mem_cons_self ..))
    have KO := hide (kok_of HBR.out (by omega) LT.out)
    have LTL : Hid (∀ x ∈ L, LtR x) := (show _ from fun x hx => hlt x (List.mem_cons_of_mem _ hx))
    have hl40' : ln ≤ 40 := by rw [← HLN.out]; simp at hl40; omega
    have RO10 := hide (RO.out.kept L10.out)
    have RL10 := hide (RL.out.kept L10.out)
    have B10 := hide (b1.out.kept L10.out)
    have L0 : Hid (Below w.heap.size w w10) := (show Below _ _ _ from l1.out.trans (L10.out.mono l1.out.size))
    clear hlt hl40 RL2 O2 HL9 HLM b2
    have hz := zeroR
    have hzx := zeroX
    have HSX := Try.sizeOf22
    obtain ⟨E, HE⟩ : ∃ E, Hid (w10.heap.size = E) := ⟨_, rfl⟩
    obtain ⟨w11, hw11⟩ : ∃ y, y = w10.alloc (.cells (RC r).toArray 25 (0, 0)) := ⟨_, rfl⟩
    obtain ⟨b11, l11⟩ := newB HE hw11
    have HW11 := hide hw11
    have hNE : N < E := by rw [← HE.out]; exact B10.out.lt
    have B11 := hide (B10.out.kept l11.out)
    have RO11 := hide (RO10.out.kept l11.out)
    have RL11 := hide (RL10.out.kept l11.out)
    have HKS9 : Hid (∀ y ∈ r.rs, y.k.size ≤ 140737488351232) := (show _ from fun y hy => (HBR.out.rs y hy).k)
    have HPS9 : Hid (∀ y ∈ r.rs, y.ps.length ≤ 1000000) := (show _ from fun y hy => Nat.le_trans (LT.out.ps y hy) (by omega))
    have HRL9 : Hid (r.rs.length ≤ 1000000) := (show _ from Nat.le_trans LT.out.rl (by omega))
    have CO := hide (ownV_any RO11.out HKS9.out HRL9.out HPS9.out)
    clear hw11
    go_upto_region 4 with (first
      | (refine wpList_load_mid rfl 25 _ rfl N 0 rfl (RC r) _ B10.out.range0 Try.underlying25 rfl Try.size25 ?_)
      | (refine wpList_store_new rfl 25 _ _ rfl w10 _ (RC r).toArray _ rfl rfl rfl Try.size25 rfl (all_one (RC_one r)) ?_; rw [← HW11.out, HE.out])
      | fail)
    try simp only [Act.put]
    go_wp2_with (first
      | (refine wpList_load_mid rfl 25 _ rfl N 0 rfl (RC r) _ B11.out.range0 Try.underlying25 rfl Try.size25 ?_)
      | fail)
    refine CO.out.mono ?_
    rintro e w12 ⟨v12, Qs, rfl, o12, e12, hb12⟩
    obtain ⟨qa, qc, hv12⟩ := o12.row.form
    subst hv12
    have HQL := hide (own_len e12)
    obtain ⟨m, HMl⟩ : ∃ m, Hid (Qs.length = m) := ⟨_, rfl⟩
    have B12 := hide (b11.out.kept hb12)
    have LW12 : Hid (Below w10.heap.size w10 w12) := (show Below _ _ _ from l11.out.trans (hb12.mono l11.out.size))
    have HEQ := hide e12
    have O12 := hide o12
    have hq : ∀ b, (Value.slice qa Qs.length qc).ownBlock = some b → ¬ b = E := fun b hb e => by
      have h1 := (o12.row.block hb).1
      have h2 := b11.out.lt
      omega
    have hqp : ∀ y ∈ Qs, ∀ b, (xv y).ownBlock = some b → ¬ b = E := fun y hy b hb e => by
      have h1 := ((o12.ps y hy).block hb).1
      have h2 := b11.out.lt
      omega
    rw [HMl.out] at O12 hq ⊢
    have HQ1 := hide hq
    have HQ2 := hide hqp
    have hNE' : N ≠ E := by omega
    have hwE : w10.heap.size ≤ E := Nat.le_of_eq HE.out
    clear CO o12 e12 hb12 hq hqp
    go_upto_region 5 with (first
      | (refine wpList_store_sl rfl 22 HSX _ _ rfl E 3 25 (RC r) qa m qc rfl rfl B12.out (show 3 < 5 by decide) ?_; intro w13 hb13 hu13; rw [rdR_cells r Qs qa qc m HMl.out] at hb13; have S13 := hide hb13; have C13 : Hid (Chg (fun k => k = E) w12 w13) := (show Chg _ _ _ from Chg.of_but hu13 rfl); clear hb13 hu13)
      | fail)
    try simp only [Act.put]
    have L13 : Hid (Below w10.heap.size w10 w13) := (show Below _ _ _ from LW12.out.trans (C13.out.below LW12.out.size (fun k hk e => by omega)))
    have O13 : Hid (OwnR9 w13 w11.heap.size (.slice qa m qc) Qs) := (show OwnR9 _ _ _ _ from ⟨O12.out.row.chg C13.out HQ1.out, fun y hy => (O12.out.ps y hy).chg C13.out (HQ2.out y hy)⟩)
    have X13 : Hid (RdX w13 (.slice qa m qc) Qs) := (show RdX _ _ _ from O13.out.rd)
    have B13 := hide (B10.out.kept L13.out)
    have RO13 := hide (RO10.out.kept L13.out)
    have RL13 := hide (RL10.out.kept L13.out)
    have RS13 : Hid (ROk w13 (rdR r Qs qa qc)) := (show ROk _ _ from ⟨(show RdX w13 (.slice qa Qs.length qc) Qs by rw [HMl.out]; exact X13.out), RO13.out.ws⟩)
    have HKQ : Hid (∀ y ∈ Qs, y.k.size ≤ 140737488351232) := (show _ from pl_mem HEQ.out (P := fun y => y.k.size ≤ 140737488351232) (fun x y e h => by rw [← (plR_eq.1 e).2.1]; exact h) (fun y hy => HKS9.out y (ownA_mem2 hy)))
    have HPQ : Hid (∀ y ∈ Qs, y.ps.length ≤ 1000000) := (show _ from pl_mem HEQ.out (P := fun y => y.ps.length ≤ 1000000) (fun x y e h => by rw [← (plR_eq.1 e).2.2.2]; exact h) (fun y hy => HPS9.out y (ownA_mem2 hy)))
    have HQL2 : Hid (Qs.length ≤ 1000000) := (show _ from Nat.le_trans HQL.out HRL9.out)
    have KSr : Hid (KOk (rdR r Qs qa qc)) := (show KOk _ from ⟨KO.out.wl, HQL2.out, KO.out.wk, fun y hy => Nat.lt_of_le_of_lt (HKQ.out y hy) (by decide)⟩)
    have HST := hide (stale_own HEQ.out qa qc L)
    have HAG := hide (own_again HEQ.out)
    obtain ⟨st, HSt⟩ : ∃ z, Hid (staleP r L = z) := ⟨_, rfl⟩
    have LW13 : Hid (Below w.heap.size w w13) := (show Below _ _ _ from L0.out.trans (L13.out.mono L0.out.size))
    have dq := S13.out.rrs
    clear b11 B12 LW12 O12 HQ1 HQ2 C13 RO11 RL11 l11
    clear dq
    refine wp_region_inv Try.mixed (KS (fun i_ => match i_ with | 0 | 7 => .val (.agg (RC (rdR r Qs qa qc)).toArray) | 1 => .of (fun W v_ => ∃ Q_ : List Rz, RdX W v_ Q_ ∧ Q_.map plR = Qs.map plR) (fun _ _ _ hg ⟨Q_, h, e⟩ => ⟨Q_, h.kept hg, e⟩) | 2 => .val (.pointer (some ⟨E, 3, none⟩)) | 3 => .val (.slice qa m qc) | 4 => .val (.bool true) | 5 | 6 | 13 | 14 => .val (.bool false) | 8 | 11 => .val (.slice la ln lc) | 9 | 12 => .val (.int .i64 st) | 10 => .val (.agg (RC r).toArray) | _ => .free)) 92 rfl (by decide +kernel) (KS_mono _) ?_ ?_
    · refine AllFrom.cons (fun a' w' hg hk hd => ?_) (AllFrom.cons (fun a' w' hg hk hd => ?_) (AllFrom.cons (fun a' w' hg hk hd => ?_) (AllFrom.cons (fun a' w' hg hk hd => ?_) (AllFrom.cons (fun a' w' hg hk hd => ?_) (AllFrom.cons (fun a' w' hg hk hd => ?_) (AllFrom.cons (fun a' w' hg hk hd => ?_) (AllFrom.cons (fun a' w' hg hk hd => ?_) (AllFrom.cons (fun a' w' hg hk hd => ?_) (AllFrom.cons (fun a' w' hg hk hd => ?_) (AllFrom.cons (fun a' w' hg hk hd => ?_) (AllFrom.cons (fun a' w' hg hk hd => ?_) (AllFrom.cons (fun a' w' hg hk hd => ?_) (AllFrom.cons (fun a' w' hg hk hd => ?_) (AllFrom.cons (fun a' w' hg hk hd => ?_) AllFrom.nil))))))))))))))
      · skip
        intro Q
        have e5 : a'.eval (.tmp 5) = .pointer (some ⟨E, 0, none⟩) := hk.at 5 (by decide +kernel)
        exact wp_load_row 25 _ rfl _ _ e5 (RC (rdR r Qs qa qc)) _ ((S13.out.kept hg).range0) Try.underlying25 rfl (Try.size25) (KS_mkv rfl rfl)
      · skip
        intro Q
        have e23 : a'.eval (.tmp 23) = .agg (RC (rdR r Qs qa qc)).toArray := KS_val (hd.val 0 23 (by decide +kernel)) rfl
        refine wp_call 16 _ (run_enter 16 _ _ rfl (by kernel_rfl)) ?_
        simp only [List.map_toArray, List.map_nil, List.map_cons, e23]
        refine (ownV_any (RS13.out.kept hg) HKQ.out HQL2.out HPQ.out).mono ?_
        rintro e w5 ⟨v5, Q5, rfl, o5, e5, hb5⟩
        exact ⟨_, rfl, KS_mko rfl ⟨Q5, o5.rd, e5.trans (by show (ownP Qs).map plR = _; rw [HAG.out])⟩, hb5⟩
      · skip
        intro Q
        have e5 : a'.eval (.tmp 5) = .pointer (some ⟨E, 0, none⟩) := hk.at 5 (by decide +kernel)
        clear hd hk
        exact wp_value (.pointer (some ⟨E, 3, none⟩)) (by simp only [execOp, e5]; go_simp) (KS_mkv rfl rfl)
      · skip
        intro Q
        have e25 : a'.eval (.tmp 25) = .pointer (some ⟨E, 3, none⟩) := KS_val (hd.val 2 25 (by decide +kernel)) rfl
        have hc := rdR_cell (S13.out.kept hg) HMl.out
        clear hd hk
        exact wp_value (.slice qa m qc) (by simp only [execOp, e25]; go_simp) (KS_mkv rfl rfl)
      · skip
        intro Q
        have r24 := KS_of (hd.val 1 24 (by decide +kernel)) rfl
        have e26 : a'.eval (.tmp 26) = .slice qa m qc := KS_val (hd.val 3 26 (by decide +kernel)) rfl
        refine wp_call 15 _ (run_enter 15 _ _ rfl (by kernel_rfl)) ?_
        simp only [List.map_toArray, List.map_nil, List.map_cons, e26]
        obtain ⟨Q_, h24, e24_⟩ := r24
        refine (sameX_any h24 (X13.out.kept hg) true ⟨fun _ => e24_, fun _ => rfl⟩).mono ?_
        rintro e w5 ⟨rfl, hb5⟩
        exact ⟨_, rfl, KS_mkv rfl rfl, hb5⟩
      · skip
        intro Q
        have e27 : a'.eval (.tmp 27) = .bool true := KS_val (hd.val 4 27 (by decide +kernel)) rfl
        clear hd hk
        exact wp_value (.bool false) (by simp only [execOp, e27]; go_simp) (KS_mkv rfl rfl)
      · skip
        intro Q
        have e28 : a'.eval (.tmp 28) = .bool false := KS_val (hd.val 5 28 (by decide +kernel)) rfl
        exact wp_value _ (by simp only [execOp, e28]; rfl) (KS_mkv rfl rfl)
      · skip
        have eg : a'.eval (.tmp 29) = .bool false := KS_val (hd.val 6 29 (by decide +kernel)) rfl
        refine ⟨29, false, rfl, eg, fun _ Q => ?_, fun h => absurd rfl h⟩
        have e5 : a'.eval (.tmp 5) = .pointer (some ⟨E, 0, none⟩) := hk.at 5 (by decide +kernel)
        exact wp_load_row 25 _ rfl _ _ e5 (RC (rdR r Qs qa qc)) _ ((S13.out.kept hg).range0) Try.underlying25 rfl (Try.size25) (KS_mkv rfl rfl)
      · skip
        have eg : a'.eval (.tmp 29) = .bool false := KS_val (hd.val 6 29 (by decide +kernel)) rfl
        refine ⟨29, false, rfl, eg, fun _ Q => ?_, fun h => absurd rfl h⟩
        have e1 : a'.eval (.tmp 1) = .slice la ln lc := hk.at 1 (by decide +kernel)
        exact wp_value _ (by simp only [execOp, e1]; rfl) (KS_mkv rfl rfl)
      · skip
        have eg : a'.eval (.tmp 29) = .bool false := KS_val (hd.val 6 29 (by decide +kernel)) rfl
        refine ⟨29, false, rfl, eg, fun _ Q => ?_, fun h => absurd rfl h⟩
        have e30 : a'.eval (.tmp 30) = .agg (RC (rdR r Qs qa qc)).toArray := KS_val (hd.val 7 30 (by decide +kernel)) rfl
        have e31 : a'.eval (.tmp 31) = .slice la ln lc := KS_val (hd.val 8 31 (by decide +kernel)) rfl
        refine wp_call 20 _ (run_enter 20 _ _ rfl (by kernel_rfl)) ?_
        simp only [List.map_toArray, List.map_nil, List.map_cons, e30, e31]
        refine (staleV_any (RS13.out.kept hg) KSr.out (RL13.out.kept hg)).mono ?_
        rintro e w5 ⟨rfl, hb5⟩
        exact ⟨_, rfl, KS_mkv rfl (by rw [HST.out, HSt.out]), hb5⟩
      · skip
        have eg : a'.eval (.tmp 29) = .bool false := KS_val (hd.val 6 29 (by decide +kernel)) rfl
        refine ⟨29, false, rfl, eg, fun _ Q => ?_, fun h => absurd rfl h⟩
        have e2 : a'.eval (.tmp 2) = .pointer (some ⟨N, 0, none⟩) := hk.at 2 (by decide +kernel)
        exact wp_load_row 25 _ rfl _ _ e2 (RC r) _ ((B13.out.kept hg).range0) Try.underlying25 rfl (Try.size25) (KS_mkv rfl rfl)
      · skip
        have eg : a'.eval (.tmp 29) = .bool false := KS_val (hd.val 6 29 (by decide +kernel)) rfl
        refine ⟨29, false, rfl, eg, fun _ Q => ?_, fun h => absurd rfl h⟩
        have e1 : a'.eval (.tmp 1) = .slice la ln lc := hk.at 1 (by decide +kernel)
        exact wp_value _ (by simp only [execOp, e1]; rfl) (KS_mkv rfl rfl)
      · skip
        have eg : a'.eval (.tmp 29) = .bool false := KS_val (hd.val 6 29 (by decide +kernel)) rfl
        refine ⟨29, false, rfl, eg, fun _ Q => ?_, fun h => absurd rfl h⟩
        have e33 : a'.eval (.tmp 33) = .agg (RC r).toArray := KS_val (hd.val 10 33 (by decide +kernel)) rfl
        have e34 : a'.eval (.tmp 34) = .slice la ln lc := KS_val (hd.val 11 34 (by decide +kernel)) rfl
        refine wp_call 20 _ (run_enter 20 _ _ rfl (by kernel_rfl)) ?_
        simp only [List.map_toArray, List.map_nil, List.map_cons, e33, e34]
        refine (staleV_any (RO13.out.kept hg) KO.out (RL13.out.kept hg)).mono ?_
        rintro e w5 ⟨rfl, hb5⟩
        exact ⟨_, rfl, KS_mkv rfl (by rw [HSt.out]), hb5⟩
      · skip
        have eg : a'.eval (.tmp 29) = .bool false := KS_val (hd.val 6 29 (by decide +kernel)) rfl
        refine ⟨29, false, rfl, eg, fun _ Q => ?_, fun h => absurd rfl h⟩
        have e32 : a'.eval (.tmp 32) = .int .i64 st := KS_val (hd.val 9 32 (by decide +kernel)) rfl
        have e35 : a'.eval (.tmp 35) = .int .i64 st := KS_val (hd.val 12 35 (by decide +kernel)) rfl
        clear hd hk
        exact wp_value (.bool false) (by simp only [execOp, e32, e35]; go_simp) (KS_mkv rfl rfl)
      · skip
        intro Q
        have e29 : a'.eval (.tmp 29) = .bool false := KS_val (hd.val 6 29 (by decide +kernel)) rfl
        have e36 : a'.eval (.tmp 36) = .bool false := KS_val (hd.val 13 36 (by decide +kernel)) rfl
        clear hd hk
        exact wp_value (.bool false) (by simp only [execOp, e29, e36]; go_simp) (KS_mkv rfl rfl)
    · intro a' w14 hsz hdf hk hall hg
      have L14 : Hid (Below w.heap.size w w14) := (show _ from LW13.out.trans (hg.mono LW13.out.size))
      have S14 := hide (S13.out.kept hg)
      have B14 := hide (B13.out.kept hg)
      have X14 := hide (X13.out.kept hg)
      have RO14 := hide (RO13.out.kept hg)
      have e23 : a'.eval (.tmp 23) = .agg (RC (rdR r Qs qa qc)).toArray := KS_val (hall 0 _ 23 rfl rfl) rfl
      have r24 : (fun W v_ => ∃ Q_ : List Rz, RdX W v_ Q_ ∧ Q_.map plR = Qs.map plR) w14 (a'.eval (.tmp 24)) := KS_of (hall 1 _ 24 rfl rfl) rfl
      obtain ⟨x24, hx24⟩ : ∃ v, a'.eval (.tmp 24) = v := ⟨_, rfl⟩
      rw [hx24] at r24
      have e25 : a'.eval (.tmp 25) = .pointer (some ⟨E, 3, none⟩) := KS_val (hall 2 _ 25 rfl rfl) rfl
      have e26 : a'.eval (.tmp 26) = .slice qa m qc := KS_val (hall 3 _ 26 rfl rfl) rfl
      have e27 : a'.eval (.tmp 27) = .bool true := KS_val (hall 4 _ 27 rfl rfl) rfl
      have e28 : a'.eval (.tmp 28) = .bool false := KS_val (hall 5 _ 28 rfl rfl) rfl
      have e29 : a'.eval (.tmp 29) = .bool false := KS_val (hall 6 _ 29 rfl rfl) rfl
      have e30 : a'.eval (.tmp 30) = .agg (RC (rdR r Qs qa qc)).toArray := KS_val (hall 7 _ 30 rfl rfl) rfl
      have e31 : a'.eval (.tmp 31) = .slice la ln lc := KS_val (hall 8 _ 31 rfl rfl) rfl
      have e32 : a'.eval (.tmp 32) = .int .i64 st := KS_val (hall 9 _ 32 rfl rfl) rfl
      have e33 : a'.eval (.tmp 33) = .agg (RC r).toArray := KS_val (hall 10 _ 33 rfl rfl) rfl
      have e34 : a'.eval (.tmp 34) = .slice la ln lc := KS_val (hall 11 _ 34 rfl rfl) rfl
      have e35 : a'.eval (.tmp 35) = .int .i64 st := KS_val (hall 12 _ 35 rfl rfl) rfl
      have e36 : a'.eval (.tmp 36) = .bool false := KS_val (hall 13 _ 36 rfl rfl) rfl
      have e37 : a'.eval (.tmp 37) = .bool false := KS_val (hall 14 _ 37 rfl rfl) rfl
      have ha := act_puts 92 rfl hsz hdf hk [23, 24, 25, 26, 27, 28, 29, 30, 31, 32, 33, 34, 35, 36, 37] (by decide +kernel)
      simp only [puts, List.foldl_cons, List.foldl_nil, e23, hx24, e25, e26, e27, e28, e29, e30, e31, e32, e33, e34, e35, e36, e37] at ha
      simp only [Act.put, List.setIfInBounds_toArray, List.set_cons_succ, List.set_cons_zero] at ha
      clear hall hk hsz hdf e23 hx24 e25 e26 e27 e28 e29 e30 e31 e32 e33 e34 e35 e36 e37
      subst ha
      have dr := B14.out.rrs
      have HR : Hid (RdX w14 (.slice r.ra r.rs.length r.rc) r.rs) := (show RdX _ _ _ from RO14.out.rs)
      unfold rv at dr
      obtain ⟨n, HNn⟩ : ∃ n, Hid (r.rs.length = n) := ⟨_, rfl⟩
      rw [HNn.out] at dr HR
      obtain ⟨ya, HYA⟩ : ∃ y, Hid (r.ra = y) := ⟨_, rfl⟩
      obtain ⟨yc, HYC⟩ : ∃ y, Hid (r.rc = y) := ⟨_, rfl⟩
      rw [HYA.out, HYC.out] at dr HR
      have hn0 : n ≤ 1000000 := by rw [← HNn.out]; exact HRL9.out
      have hm0 : m ≤ 1000000 := by rw [← HMl.out]; exact HQL2.out
      clear HKS9 HPS9 B10 RO10 RL10 B13 RO13 RL13 X13 O13 S13 RS13 HKQ HPQ KSr L13 LW13
      go_wp2_with fail
      have R0 : Hid (Below w14.heap.size w14 w14) := Below.refl _ _
      have K0 : Hid (0 = (ownP (r.rs.take 0)).length) := (show _ = _ from rfl)
      have C0 : Hid (0 = nsc (r.rs.take 0)) := (show _ = _ from rfl)
      have HMQ : Hid (m = (ownP r.rs).length) := (show _ = _ by have := congrArg List.length HEQ.out; rw [List.length_map, List.length_map, HMl.out] at this; exact this)
      clear dr
      go_loopg [6, 7, 41] (n + 1) (fun g kk ss z wr => ∃ (i k c : Nat), i ≤ n ∧ g + i = n + 1 ∧ kk = .int .i64 (k : Int) ∧ ss = .int .i64 (c : Int) ∧ z = .int .i64 (i : Int) ∧ k ≤ 1000000 ∧ c ≤ i ∧ Hid (k = (ownP (r.rs.take i)).length) ∧ Hid (c = nsc (r.rs.take i)) ∧ Hid (Below w14.heap.size w14 wr))
      case atStart => exact ⟨0, 0, 0, Nat.zero_le _, by omega, rfl, rfl, rfl, Nat.zero_le _, Nat.le_refl _, K0, C0, R0⟩
      case round =>
        clear R0 K0 C0
        obtain ⟨i, k, c, hi, hg, rfl, rfl, rfl, hk, hci, HKI, HCI, LR⟩ := hrel
        by_cases hlt : i < n
        · have hlt2 : i < r.rs.length := by rw [HNn.out]; exact hlt
          have hlt' : (i : Int) < (n : Int) := by omega
          have RB := HR.out.kept LR.out
          obtain ⟨bb, off, rfl, hb1, hx⟩ := RB.rd.nth (by omega)
          have hrow : wr.rangeAt bb (off + i * 4) (XC r.rs[i]) := hx i hlt2
          have hpx := RB.ps _ (List.getElem_mem hlt2)
          obtain ⟨hn1, hn2, hn3, hn4⟩ := own_next HEQ.out hlt2
          rw [← HKI.out] at hn1 hn2
          have HCI2 : Hid (nsc (r.rs.take (i + 1)) = c + nsc [r.rs[i]]) := (show _ = _ by rw [List.take_succ_eq_append_getElem hlt2, nsc_app, ← HCI.out])
          have HN3 : Hid (again (ownP (r.rs.take i)) r.rs[i] = false → ∃ hk : k < Qs.length, plR Qs[k] = plR r.rs[i]) := (show _ from fun h => by
            obtain ⟨h1, h2⟩ := hn3 h
            have e := HKI.out
            refine ⟨by rw [e]; exact h1, ?_⟩
            simp only [e]
            exact h2)
          have HN4 : Hid (again (ownP (r.rs.take i)) r.rs[i] = true → ∀ hk : k < Qs.length, ¬ plR Qs[k] = plR r.rs[i]) := (show _ from fun h hk => by
            have e := HKI.out
            simp only [e]
            exact hn4 h (by rw [← e]; exact hk))
          obtain ⟨x, HXx⟩ : ∃ x, Hid (r.rs[i] = x) := ⟨r.rs[i], (show r.rs[i] = r.rs[i] from rfl)⟩
          rw [HXx.out] at hrow hpx hn1 HCI2 HN3 HN4
          have HN1 := hide hn1
          have hkm : k ≤ m := by rw [← HMl.out]; exact hn2
          obtain ⟨G, HG⟩ : ∃ E, Hid (wr.heap.size = E) := ⟨_, rfl⟩
          obtain ⟨w15, hw15⟩ : ∃ y, y = wr.alloc (.cells (XC x).toArray 27 (0, 0)) := ⟨_, rfl⟩
          obtain ⟨b15, l15⟩ := newB HG hw15
          have HW15 := hide hw15
          have L15 : Hid (Below w14.heap.size w14 w15) := (show Below _ _ _ from LR.out.trans (l15.out.mono LR.out.size))
          have S15 := hide (S14.out.kept L15.out)
          have X15 := hide (X14.out.kept L15.out)
          have PX15 := hide (show XOk w15 x from XOk.kept hpx l15.out)
          have e0 := b15.out.xsc
          obtain ⟨xs, HXs⟩ : ∃ z, Hid (x.sc = z) := ⟨_, rfl⟩
          rw [HXs.out] at e0
          have HCO : Hid (nsc [x] = if xs = true then 1 else 0) := (show _ = _ by rw [nsc_one, HXs.out])
          have HSA : Hid (again (ownP (r.rs.take i)) x = true → xs = false) := (show _ from fun h => by rw [← HXs.out]; exact again_sc h)
          clear hx hw15 RB hpx hn1 hn2 hn3 hn4
          go_upto_region 11 with (first
            | (refine wpList_load_mid rfl 27 _ rfl bb (off + i * 4) rfl (XC x) _ hrow Try.underlying27 rfl Try.size27 ?_)
            | (refine wpList_store_new rfl 27 _ _ rfl wr _ (XC x).toArray _ rfl rfl rfl Try.size27 rfl (all_one (XC_one x)) ?_; rw [← HW15.out, HG.out])
            | fail)
          try simp only [Act.put]
          clear hrow
          obtain ⟨ag, HAg⟩ : ∃ z, Hid (again (ownP (r.rs.take i)) x = z) := ⟨_, rfl⟩
          have HN1' := HN1.out
          rw [HAg.out] at HN3 HN4 HN1' HSA
          cases xs with
          | true =>
            have hag : ag = false := by cases ag; rfl; have := HSA.out rfl; cases this
            subst hag
            have HC9 : Hid (c + 1 = nsc (r.rs.take (i + 1))) := (show _ = _ by rw [HCI2.out, HCO.out]; rfl)
            have hc9 : c + 1 ≤ i + 1 := by omega
            obtain ⟨hkQ, hpe⟩ := HN3.out rfl
            have HPE := hide hpe
            have HK9 : Hid (k + 1 = (ownP (r.rs.take (i + 1))).length) := (show _ = _ by rw [HN1']; rfl)
            clear hpe
            go_upto_region 13 with fail
            have hkm2 : k < m := by rw [← HMl.out]; exact hkQ
            have hkm3 : (k : Int) < (m : Int) := by omega
            have hkw : IntKind.i64.wrap ((k : Int) + 1) = (k : Int) + 1 := wr64 (by omega) (by omega)
            obtain ⟨sa, hsl, hsx⟩ := slice_oneX X15.out hkm2 hkQ
            obtain ⟨yq, HYQ⟩ : ∃ y, Hid (Qs[k] = y) := ⟨Qs[k], (show Qs[k] = Qs[k] from rfl)⟩
            rw [HYQ.out] at HPE hsx
            have HSL := hide hsl
            have HSXX := hide hsx
            obtain ⟨sc2, HSC⟩ : ∃ z, Hid (qc - k = z) := ⟨_, rfl⟩
            rw [HSC.out] at HSL HSXX
            clear hsl hsx
            refine wp_region_inv Try.mixed (KS (fun i_ => match i_ with | 0 | 8 | 9 => .val (.int .i64 (k : Int)) | 1 | 6 => .val (.pointer (some ⟨E, 3, none⟩)) | 2 | 7 => .val (.slice qa m qc) | 3 => .val (.int .i64 (m : Int)) | 4 | 5 | 14 | 15 => .val (.bool true) | 10 => .val (.int .i64 ((k : Int) + 1)) | 11 => .val (.slice sa 1 sc2) | 12 => .val (.agg (XC x).toArray) | 13 => .of (fun W v_ => RdX W v_ [x]) (fun _ _ _ hg h => h.kept hg) | _ => .free)) 92 rfl (by decide +kernel) (KS_mono _) ?_ ?_
            · refine AllFrom.cons (fun a' w' hg hk hd => ?_) (AllFrom.cons (fun a' w' hg hk hd => ?_) (AllFrom.cons (fun a' w' hg hk hd => ?_) (AllFrom.cons (fun a' w' hg hk hd => ?_) (AllFrom.cons (fun a' w' hg hk hd => ?_) (AllFrom.cons (fun a' w' hg hk hd => ?_) (AllFrom.cons (fun a' w' hg hk hd => ?_) (AllFrom.cons (fun a' w' hg hk hd => ?_) (AllFrom.cons (fun a' w' hg hk hd => ?_) (AllFrom.cons (fun a' w' hg hk hd => ?_) (AllFrom.cons (fun a' w' hg hk hd => ?_) (AllFrom.cons (fun a' w' hg hk hd => ?_) (AllFrom.cons (fun a' w' hg hk hd => ?_) (AllFrom.cons (fun a' w' hg hk hd => ?_) (AllFrom.cons (fun a' w' hg hk hd => ?_) (AllFrom.cons (fun a' w' hg hk hd => ?_) AllFrom.nil)))))))))))))))
              · skip
                intro Q
                have e6 : a'.eval (.tmp 6) = .int .i64 (k : Int) := hk.at 6 (by decide +kernel)
                exact wp_value _ (by simp only [execOp, e6]; rfl) (KS_mkv rfl rfl)
              · skip
                intro Q
                have e5 : a'.eval (.tmp 5) = .pointer (some ⟨E, 0, none⟩) := hk.at 5 (by decide +kernel)
                clear hd hk
                exact wp_value (.pointer (some ⟨E, 3, none⟩)) (by simp only [execOp, e5]; go_simp) (KS_mkv rfl rfl)
              · skip
                intro Q
                have e50 : a'.eval (.tmp 50) = .pointer (some ⟨E, 3, none⟩) := KS_val (hd.val 1 50 (by decide +kernel)) rfl
                have hc := rdR_cell (S15.out.kept hg) HMl.out
                clear hd hk
                exact wp_value (.slice qa m qc) (by simp only [execOp, e50]; go_simp) (KS_mkv rfl rfl)
              · skip
                intro Q
                have e51 : a'.eval (.tmp 51) = .slice qa m qc := KS_val (hd.val 2 51 (by decide +kernel)) rfl
                clear hd hk
                exact wp_value (.int .i64 (m : Int)) (by simp only [execOp, resolve, invoke, builtin, Sem.run_bind, Sem.run_pure, Result.andThen_ok, List.map_toArray, List.map_cons, List.map_nil, e51]; go_simp) (KS_mkv rfl rfl)
              · skip
                intro Q
                have e49 : a'.eval (.tmp 49) = .int .i64 (k : Int) := KS_val (hd.val 0 49 (by decide +kernel)) rfl
                have e52 : a'.eval (.tmp 52) = .int .i64 (m : Int) := KS_val (hd.val 3 52 (by decide +kernel)) rfl
                clear hd hk
                exact wp_value (.bool true) (by simp only [execOp, e49, e52]; go_simp) (KS_mkv rfl rfl)
              · skip
                intro Q
                have e53 : a'.eval (.tmp 53) = .bool true := KS_val (hd.val 4 53 (by decide +kernel)) rfl
                exact wp_value _ (by simp only [execOp, e53]; rfl) (KS_mkv rfl rfl)
              · skip
                have eg : a'.eval (.tmp 54) = .bool true := KS_val (hd.val 5 54 (by decide +kernel)) rfl
                refine ⟨54, true, rfl, eg, fun _ Q => ?_, fun h => absurd rfl h⟩
                have e5 : a'.eval (.tmp 5) = .pointer (some ⟨E, 0, none⟩) := hk.at 5 (by decide +kernel)
                clear hd hk
                exact wp_value (.pointer (some ⟨E, 3, none⟩)) (by simp only [execOp, e5]; go_simp) (KS_mkv rfl rfl)
              · skip
                have eg : a'.eval (.tmp 54) = .bool true := KS_val (hd.val 5 54 (by decide +kernel)) rfl
                refine ⟨54, true, rfl, eg, fun _ Q => ?_, fun h => absurd rfl h⟩
                have e55 : a'.eval (.tmp 55) = .pointer (some ⟨E, 3, none⟩) := KS_val (hd.val 6 55 (by decide +kernel)) rfl
                have hc := rdR_cell (S15.out.kept hg) HMl.out
                clear hd hk
                exact wp_value (.slice qa m qc) (by simp only [execOp, e55]; go_simp) (KS_mkv rfl rfl)
              · skip
                have eg : a'.eval (.tmp 54) = .bool true := KS_val (hd.val 5 54 (by decide +kernel)) rfl
                refine ⟨54, true, rfl, eg, fun _ Q => ?_, fun h => absurd rfl h⟩
                have e6 : a'.eval (.tmp 6) = .int .i64 (k : Int) := hk.at 6 (by decide +kernel)
                exact wp_value _ (by simp only [execOp, e6]; rfl) (KS_mkv rfl rfl)
              · skip
                have eg : a'.eval (.tmp 54) = .bool true := KS_val (hd.val 5 54 (by decide +kernel)) rfl
                refine ⟨54, true, rfl, eg, fun _ Q => ?_, fun h => absurd rfl h⟩
                have e6 : a'.eval (.tmp 6) = .int .i64 (k : Int) := hk.at 6 (by decide +kernel)
                exact wp_value _ (by simp only [execOp, e6]; rfl) (KS_mkv rfl rfl)
              · skip
                have eg : a'.eval (.tmp 54) = .bool true := KS_val (hd.val 5 54 (by decide +kernel)) rfl
                refine ⟨54, true, rfl, eg, fun _ Q => ?_, fun h => absurd rfl h⟩
                have e58 : a'.eval (.tmp 58) = .int .i64 (k : Int) := KS_val (hd.val 9 58 (by decide +kernel)) rfl
                clear hd hk
                exact wp_value (.int .i64 ((k : Int) + 1)) (by simp only [execOp, e58]; go_simp) (KS_mkv rfl rfl)
              · skip
                have eg : a'.eval (.tmp 54) = .bool true := KS_val (hd.val 5 54 (by decide +kernel)) rfl
                refine ⟨54, true, rfl, eg, fun _ Q => ?_, fun h => absurd rfl h⟩
                have e56 : a'.eval (.tmp 56) = .slice qa m qc := KS_val (hd.val 7 56 (by decide +kernel)) rfl
                have e57 : a'.eval (.tmp 57) = .int .i64 (k : Int) := KS_val (hd.val 8 57 (by decide +kernel)) rfl
                have e59 : a'.eval (.tmp 59) = .int .i64 ((k : Int) + 1) := KS_val (hd.val 10 59 (by decide +kernel)) rfl
                exact wp_value _ (by simp only [execOp, e56, e57, e59, HSL.out, Sem.run_bind, Result.andThen_ok, Option.map_none, Option.map_some]; rfl) (KS_mkv rfl rfl)
              · skip
                have eg : a'.eval (.tmp 54) = .bool true := KS_val (hd.val 5 54 (by decide +kernel)) rfl
                refine ⟨54, true, rfl, eg, fun _ Q => ?_, fun h => absurd rfl h⟩
                have e9 : a'.eval (.tmp 9) = .pointer (some ⟨G, 0, none⟩) := hk.at 9 (by decide +kernel)
                exact wp_load_row 27 _ rfl _ _ e9 (XC x) _ ((b15.out.kept hg).range0) Try.underlying27 rfl (Try.size27) (KS_mkv rfl rfl)
              · skip
                have eg : a'.eval (.tmp 54) = .bool true := KS_val (hd.val 5 54 (by decide +kernel)) rfl
                refine ⟨54, true, rfl, eg, fun _ Q => ?_, fun h => absurd rfl h⟩
                have e61 : a'.eval (.tmp 61) = .agg (XC x).toArray := KS_val (hd.val 12 61 (by decide +kernel)) rfl
                exact wp_grow _ _ (by simp only [execOp, List.map_toArray, List.map_cons, List.map_nil, e61, Sem.run_bind, Sem.run_pure]; exact congrArg (fun r => Result.andThen r _) (build_read1 x _)) ((Below.refl _ _).alloc (Nat.le_refl _) _) (KS_mko rfl (rdX_one (PX15.out.kept hg)))
              · skip
                have eg : a'.eval (.tmp 54) = .bool true := KS_val (hd.val 5 54 (by decide +kernel)) rfl
                refine ⟨54, true, rfl, eg, fun _ Q => ?_, fun h => absurd rfl h⟩
                have e60 : a'.eval (.tmp 60) = .slice sa 1 sc2 := KS_val (hd.val 11 60 (by decide +kernel)) rfl
                have r62 := KS_of (hd.val 13 62 (by decide +kernel)) rfl
                refine wp_call 15 _ (run_enter 15 _ _ rfl (by kernel_rfl)) ?_
                simp only [List.map_toArray, List.map_nil, List.map_cons, e60]
                refine (sameX_any (HSXX.out.kept hg) r62 true ⟨fun _ => by rw [List.map_singleton, List.map_singleton, HPE.out], fun _ => rfl⟩).mono ?_
                rintro e w5 ⟨rfl, hb5⟩
                exact ⟨_, rfl, KS_mkv rfl rfl, hb5⟩
              · skip
                intro Q
                have e54 : a'.eval (.tmp 54) = .bool true := KS_val (hd.val 5 54 (by decide +kernel)) rfl
                have e63 : a'.eval (.tmp 63) = .bool true := KS_val (hd.val 14 63 (by decide +kernel)) rfl
                clear hd hk
                exact wp_value (.bool true) (by simp only [execOp, e54, e63]; go_simp) (KS_mkv rfl rfl)
            · intro a' w16 hsz hdf hk hall hg
              have L16 : Hid (Below w14.heap.size w14 w16) := (show _ from L15.out.trans (hg.mono L15.out.size))
              have e49 : a'.eval (.tmp 49) = .int .i64 (k : Int) := KS_val (hall 0 _ 49 rfl rfl) rfl
              have e50 : a'.eval (.tmp 50) = .pointer (some ⟨E, 3, none⟩) := KS_val (hall 1 _ 50 rfl rfl) rfl
              have e51 : a'.eval (.tmp 51) = .slice qa m qc := KS_val (hall 2 _ 51 rfl rfl) rfl
              have e52 : a'.eval (.tmp 52) = .int .i64 (m : Int) := KS_val (hall 3 _ 52 rfl rfl) rfl
              have e53 : a'.eval (.tmp 53) = .bool true := KS_val (hall 4 _ 53 rfl rfl) rfl
              have e54 : a'.eval (.tmp 54) = .bool true := KS_val (hall 5 _ 54 rfl rfl) rfl
              have e55 : a'.eval (.tmp 55) = .pointer (some ⟨E, 3, none⟩) := KS_val (hall 6 _ 55 rfl rfl) rfl
              have e56 : a'.eval (.tmp 56) = .slice qa m qc := KS_val (hall 7 _ 56 rfl rfl) rfl
              have e57 : a'.eval (.tmp 57) = .int .i64 (k : Int) := KS_val (hall 8 _ 57 rfl rfl) rfl
              have e58 : a'.eval (.tmp 58) = .int .i64 (k : Int) := KS_val (hall 9 _ 58 rfl rfl) rfl
              have e59 : a'.eval (.tmp 59) = .int .i64 ((k : Int) + 1) := KS_val (hall 10 _ 59 rfl rfl) rfl
              have e60 : a'.eval (.tmp 60) = .slice sa 1 sc2 := KS_val (hall 11 _ 60 rfl rfl) rfl
              have e61 : a'.eval (.tmp 61) = .agg (XC x).toArray := KS_val (hall 12 _ 61 rfl rfl) rfl
              have r62 : (fun W v_ => RdX W v_ [x]) w16 (a'.eval (.tmp 62)) := KS_of (hall 13 _ 62 rfl rfl) rfl
              obtain ⟨x62, hx62⟩ : ∃ v, a'.eval (.tmp 62) = v := ⟨_, rfl⟩
              rw [hx62] at r62
              have e63 : a'.eval (.tmp 63) = .bool true := KS_val (hall 14 _ 63 rfl rfl) rfl
              have e64 : a'.eval (.tmp 64) = .bool true := KS_val (hall 15 _ 64 rfl rfl) rfl
              have ha := act_puts 92 rfl hsz hdf hk [49, 50, 51, 52, 53, 54, 55, 56, 57, 58, 59, 60, 61, 62, 63, 64] (by decide +kernel)
              simp only [puts, List.foldl_cons, List.foldl_nil, e49, e50, e51, e52, e53, e54, e55, e56, e57, e58, e59, e60, e61, hx62, e63, e64] at ha
              simp only [Act.put, List.setIfInBounds_toArray, List.set_cons_succ, List.set_cons_zero] at ha
              clear hall hk hsz hdf e49 e50 e51 e52 e53 e54 e55 e56 e57 e58 e59 e60 e61 hx62 e63 e64
              subst ha
              go_wp2_with fail
              go_roundg (n - i)
              case measure => omega
              case rel => exact ⟨i + 1, k + 1, c + 1, by omega, by omega, by first | rfl | go_num, by first | rfl | go_num, by go_num, by omega, hc9, HK9, HC9, L16⟩
          | false =>
            have HC9 : Hid (c = nsc (r.rs.take (i + 1))) := (show _ = _ by rw [HCI2.out, HCO.out]; rfl)
            have hc9 : c ≤ i + 1 := by omega
            cases ag with
            | false =>
              obtain ⟨hkQ, hpe⟩ := HN3.out rfl
              have HPE := hide hpe
              have HK9 : Hid (k + 1 = (ownP (r.rs.take (i + 1))).length) := (show _ = _ by rw [HN1']; rfl)
              clear hpe
              go_upto_region 13 with fail
              have hkm2 : k < m := by rw [← HMl.out]; exact hkQ
              have hkm3 : (k : Int) < (m : Int) := by omega
              have hkw : IntKind.i64.wrap ((k : Int) + 1) = (k : Int) + 1 := wr64 (by omega) (by omega)
              obtain ⟨sa, hsl, hsx⟩ := slice_oneX X15.out hkm2 hkQ
              obtain ⟨yq, HYQ⟩ : ∃ y, Hid (Qs[k] = y) := ⟨Qs[k], (show Qs[k] = Qs[k] from rfl)⟩
              rw [HYQ.out] at HPE hsx
              have HSL := hide hsl
              have HSXX := hide hsx
              obtain ⟨sc2, HSC⟩ : ∃ z, Hid (qc - k = z) := ⟨_, rfl⟩
              rw [HSC.out] at HSL HSXX
              clear hsl hsx
              refine wp_region_inv Try.mixed (KS (fun i_ => match i_ with | 0 | 8 | 9 => .val (.int .i64 (k : Int)) | 1 | 6 => .val (.pointer (some ⟨E, 3, none⟩)) | 2 | 7 => .val (.slice qa m qc) | 3 => .val (.int .i64 (m : Int)) | 4 | 5 | 14 | 15 => .val (.bool true) | 10 => .val (.int .i64 ((k : Int) + 1)) | 11 => .val (.slice sa 1 sc2) | 12 => .val (.agg (XC x).toArray) | 13 => .of (fun W v_ => RdX W v_ [x]) (fun _ _ _ hg h => h.kept hg) | _ => .free)) 92 rfl (by decide +kernel) (KS_mono _) ?_ ?_
              · refine AllFrom.cons (fun a' w' hg hk hd => ?_) (AllFrom.cons (fun a' w' hg hk hd => ?_) (AllFrom.cons (fun a' w' hg hk hd => ?_) (AllFrom.cons (fun a' w' hg hk hd => ?_) (AllFrom.cons (fun a' w' hg hk hd => ?_) (AllFrom.cons (fun a' w' hg hk hd => ?_) (AllFrom.cons (fun a' w' hg hk hd => ?_) (AllFrom.cons (fun a' w' hg hk hd => ?_) (AllFrom.cons (fun a' w' hg hk hd => ?_) (AllFrom.cons (fun a' w' hg hk hd => ?_) (AllFrom.cons (fun a' w' hg hk hd => ?_) (AllFrom.cons (fun a' w' hg hk hd => ?_) (AllFrom.cons (fun a' w' hg hk hd => ?_) (AllFrom.cons (fun a' w' hg hk hd => ?_) (AllFrom.cons (fun a' w' hg hk hd => ?_) (AllFrom.cons (fun a' w' hg hk hd => ?_) AllFrom.nil)))))))))))))))
                · skip
                  intro Q
                  have e6 : a'.eval (.tmp 6) = .int .i64 (k : Int) := hk.at 6 (by decide +kernel)
                  exact wp_value _ (by simp only [execOp, e6]; rfl) (KS_mkv rfl rfl)
                · skip
                  intro Q
                  have e5 : a'.eval (.tmp 5) = .pointer (some ⟨E, 0, none⟩) := hk.at 5 (by decide +kernel)
                  clear hd hk
                  exact wp_value (.pointer (some ⟨E, 3, none⟩)) (by simp only [execOp, e5]; go_simp) (KS_mkv rfl rfl)
                · skip
                  intro Q
                  have e50 : a'.eval (.tmp 50) = .pointer (some ⟨E, 3, none⟩) := KS_val (hd.val 1 50 (by decide +kernel)) rfl
                  have hc := rdR_cell (S15.out.kept hg) HMl.out
                  clear hd hk
                  exact wp_value (.slice qa m qc) (by simp only [execOp, e50]; go_simp) (KS_mkv rfl rfl)
                · skip
                  intro Q
                  have e51 : a'.eval (.tmp 51) = .slice qa m qc := KS_val (hd.val 2 51 (by decide +kernel)) rfl
                  clear hd hk
                  exact wp_value (.int .i64 (m : Int)) (by simp only [execOp, resolve, invoke, builtin, Sem.run_bind, Sem.run_pure, Result.andThen_ok, List.map_toArray, List.map_cons, List.map_nil, e51]; go_simp) (KS_mkv rfl rfl)
                · skip
                  intro Q
                  have e49 : a'.eval (.tmp 49) = .int .i64 (k : Int) := KS_val (hd.val 0 49 (by decide +kernel)) rfl
                  have e52 : a'.eval (.tmp 52) = .int .i64 (m : Int) := KS_val (hd.val 3 52 (by decide +kernel)) rfl
                  clear hd hk
                  exact wp_value (.bool true) (by simp only [execOp, e49, e52]; go_simp) (KS_mkv rfl rfl)
                · skip
                  intro Q
                  have e53 : a'.eval (.tmp 53) = .bool true := KS_val (hd.val 4 53 (by decide +kernel)) rfl
                  exact wp_value _ (by simp only [execOp, e53]; rfl) (KS_mkv rfl rfl)
                · skip
                  have eg : a'.eval (.tmp 54) = .bool true := KS_val (hd.val 5 54 (by decide +kernel)) rfl
                  refine ⟨54, true, rfl, eg, fun _ Q => ?_, fun h => absurd rfl h⟩
                  have e5 : a'.eval (.tmp 5) = .pointer (some ⟨E, 0, none⟩) := hk.at 5 (by decide +kernel)
                  clear hd hk
                  exact wp_value (.pointer (some ⟨E, 3, none⟩)) (by simp only [execOp, e5]; go_simp) (KS_mkv rfl rfl)
                · skip
                  have eg : a'.eval (.tmp 54) = .bool true := KS_val (hd.val 5 54 (by decide +kernel)) rfl
                  refine ⟨54, true, rfl, eg, fun _ Q => ?_, fun h => absurd rfl h⟩
                  have e55 : a'.eval (.tmp 55) = .pointer (some ⟨E, 3, none⟩) := KS_val (hd.val 6 55 (by decide +kernel)) rfl
                  have hc := rdR_cell (S15.out.kept hg) HMl.out
                  clear hd hk
                  exact wp_value (.slice qa m qc) (by simp only [execOp, e55]; go_simp) (KS_mkv rfl rfl)
                · skip
                  have eg : a'.eval (.tmp 54) = .bool true := KS_val (hd.val 5 54 (by decide +kernel)) rfl
                  refine ⟨54, true, rfl, eg, fun _ Q => ?_, fun h => absurd rfl h⟩
                  have e6 : a'.eval (.tmp 6) = .int .i64 (k : Int) := hk.at 6 (by decide +kernel)
                  exact wp_value _ (by simp only [execOp, e6]; rfl) (KS_mkv rfl rfl)
                · skip
                  have eg : a'.eval (.tmp 54) = .bool true := KS_val (hd.val 5 54 (by decide +kernel)) rfl
                  refine ⟨54, true, rfl, eg, fun _ Q => ?_, fun h => absurd rfl h⟩
                  have e6 : a'.eval (.tmp 6) = .int .i64 (k : Int) := hk.at 6 (by decide +kernel)
                  exact wp_value _ (by simp only [execOp, e6]; rfl) (KS_mkv rfl rfl)
                · skip
                  have eg : a'.eval (.tmp 54) = .bool true := KS_val (hd.val 5 54 (by decide +kernel)) rfl
                  refine ⟨54, true, rfl, eg, fun _ Q => ?_, fun h => absurd rfl h⟩
                  have e58 : a'.eval (.tmp 58) = .int .i64 (k : Int) := KS_val (hd.val 9 58 (by decide +kernel)) rfl
                  clear hd hk
                  exact wp_value (.int .i64 ((k : Int) + 1)) (by simp only [execOp, e58]; go_simp) (KS_mkv rfl rfl)
                · skip
                  have eg : a'.eval (.tmp 54) = .bool true := KS_val (hd.val 5 54 (by decide +kernel)) rfl
                  refine ⟨54, true, rfl, eg, fun _ Q => ?_, fun h => absurd rfl h⟩
                  have e56 : a'.eval (.tmp 56) = .slice qa m qc := KS_val (hd.val 7 56 (by decide +kernel)) rfl
                  have e57 : a'.eval (.tmp 57) = .int .i64 (k : Int) := KS_val (hd.val 8 57 (by decide +kernel)) rfl
                  have e59 : a'.eval (.tmp 59) = .int .i64 ((k : Int) + 1) := KS_val (hd.val 10 59 (by decide +kernel)) rfl
                  exact wp_value _ (by simp only [execOp, e56, e57, e59, HSL.out, Sem.run_bind, Result.andThen_ok, Option.map_none, Option.map_some]; rfl) (KS_mkv rfl rfl)
                · skip
                  have eg : a'.eval (.tmp 54) = .bool true := KS_val (hd.val 5 54 (by decide +kernel)) rfl
                  refine ⟨54, true, rfl, eg, fun _ Q => ?_, fun h => absurd rfl h⟩
                  have e9 : a'.eval (.tmp 9) = .pointer (some ⟨G, 0, none⟩) := hk.at 9 (by decide +kernel)
                  exact wp_load_row 27 _ rfl _ _ e9 (XC x) _ ((b15.out.kept hg).range0) Try.underlying27 rfl (Try.size27) (KS_mkv rfl rfl)
                · skip
                  have eg : a'.eval (.tmp 54) = .bool true := KS_val (hd.val 5 54 (by decide +kernel)) rfl
                  refine ⟨54, true, rfl, eg, fun _ Q => ?_, fun h => absurd rfl h⟩
                  have e61 : a'.eval (.tmp 61) = .agg (XC x).toArray := KS_val (hd.val 12 61 (by decide +kernel)) rfl
                  exact wp_grow _ _ (by simp only [execOp, List.map_toArray, List.map_cons, List.map_nil, e61, Sem.run_bind, Sem.run_pure]; exact congrArg (fun r => Result.andThen r _) (build_read1 x _)) ((Below.refl _ _).alloc (Nat.le_refl _) _) (KS_mko rfl (rdX_one (PX15.out.kept hg)))
                · skip
                  have eg : a'.eval (.tmp 54) = .bool true := KS_val (hd.val 5 54 (by decide +kernel)) rfl
                  refine ⟨54, true, rfl, eg, fun _ Q => ?_, fun h => absurd rfl h⟩
                  have e60 : a'.eval (.tmp 60) = .slice sa 1 sc2 := KS_val (hd.val 11 60 (by decide +kernel)) rfl
                  have r62 := KS_of (hd.val 13 62 (by decide +kernel)) rfl
                  refine wp_call 15 _ (run_enter 15 _ _ rfl (by kernel_rfl)) ?_
                  simp only [List.map_toArray, List.map_nil, List.map_cons, e60]
                  refine (sameX_any (HSXX.out.kept hg) r62 true ⟨fun _ => by rw [List.map_singleton, List.map_singleton, HPE.out], fun _ => rfl⟩).mono ?_
                  rintro e w5 ⟨rfl, hb5⟩
                  exact ⟨_, rfl, KS_mkv rfl rfl, hb5⟩
                · skip
                  intro Q
                  have e54 : a'.eval (.tmp 54) = .bool true := KS_val (hd.val 5 54 (by decide +kernel)) rfl
                  have e63 : a'.eval (.tmp 63) = .bool true := KS_val (hd.val 14 63 (by decide +kernel)) rfl
                  clear hd hk
                  exact wp_value (.bool true) (by simp only [execOp, e54, e63]; go_simp) (KS_mkv rfl rfl)
              · intro a' w16 hsz hdf hk hall hg
                have L16 : Hid (Below w14.heap.size w14 w16) := (show _ from L15.out.trans (hg.mono L15.out.size))
                have e49 : a'.eval (.tmp 49) = .int .i64 (k : Int) := KS_val (hall 0 _ 49 rfl rfl) rfl
                have e50 : a'.eval (.tmp 50) = .pointer (some ⟨E, 3, none⟩) := KS_val (hall 1 _ 50 rfl rfl) rfl
                have e51 : a'.eval (.tmp 51) = .slice qa m qc := KS_val (hall 2 _ 51 rfl rfl) rfl
                have e52 : a'.eval (.tmp 52) = .int .i64 (m : Int) := KS_val (hall 3 _ 52 rfl rfl) rfl
                have e53 : a'.eval (.tmp 53) = .bool true := KS_val (hall 4 _ 53 rfl rfl) rfl
                have e54 : a'.eval (.tmp 54) = .bool true := KS_val (hall 5 _ 54 rfl rfl) rfl
                have e55 : a'.eval (.tmp 55) = .pointer (some ⟨E, 3, none⟩) := KS_val (hall 6 _ 55 rfl rfl) rfl
                have e56 : a'.eval (.tmp 56) = .slice qa m qc := KS_val (hall 7 _ 56 rfl rfl) rfl
                have e57 : a'.eval (.tmp 57) = .int .i64 (k : Int) := KS_val (hall 8 _ 57 rfl rfl) rfl
                have e58 : a'.eval (.tmp 58) = .int .i64 (k : Int) := KS_val (hall 9 _ 58 rfl rfl) rfl
                have e59 : a'.eval (.tmp 59) = .int .i64 ((k : Int) + 1) := KS_val (hall 10 _ 59 rfl rfl) rfl
                have e60 : a'.eval (.tmp 60) = .slice sa 1 sc2 := KS_val (hall 11 _ 60 rfl rfl) rfl
                have e61 : a'.eval (.tmp 61) = .agg (XC x).toArray := KS_val (hall 12 _ 61 rfl rfl) rfl
                have r62 : (fun W v_ => RdX W v_ [x]) w16 (a'.eval (.tmp 62)) := KS_of (hall 13 _ 62 rfl rfl) rfl
                obtain ⟨x62, hx62⟩ : ∃ v, a'.eval (.tmp 62) = v := ⟨_, rfl⟩
                rw [hx62] at r62
                have e63 : a'.eval (.tmp 63) = .bool true := KS_val (hall 14 _ 63 rfl rfl) rfl
                have e64 : a'.eval (.tmp 64) = .bool true := KS_val (hall 15 _ 64 rfl rfl) rfl
                have ha := act_puts 92 rfl hsz hdf hk [49, 50, 51, 52, 53, 54, 55, 56, 57, 58, 59, 60, 61, 62, 63, 64] (by decide +kernel)
                simp only [puts, List.foldl_cons, List.foldl_nil, e49, e50, e51, e52, e53, e54, e55, e56, e57, e58, e59, e60, e61, hx62, e63, e64] at ha
                simp only [Act.put, List.setIfInBounds_toArray, List.set_cons_succ, List.set_cons_zero] at ha
                clear hall hk hsz hdf e49 e50 e51 e52 e53 e54 e55 e56 e57 e58 e59 e60 e61 hx62 e63 e64
                subst ha
                go_wp2_with fail
                go_roundg (n - i)
                case measure => omega
                case rel => exact ⟨i + 1, k + 1, c, by omega, by omega, by first | rfl | go_num, by first | rfl | go_num, by go_num, by omega, hc9, HK9, HC9, L16⟩
            | true =>
              have HK9 : Hid (k = (ownP (r.rs.take (i + 1))).length) := (show _ = _ by rw [HN1']; rfl)
              by_cases hkQ : k < Qs.length
              · have HPE := hide (HN4.out rfl hkQ)
                go_upto_region 13 with fail
                have hkm2 : k < m := by rw [← HMl.out]; exact hkQ
                have hkm3 : (k : Int) < (m : Int) := by omega
                have hkw : IntKind.i64.wrap ((k : Int) + 1) = (k : Int) + 1 := wr64 (by omega) (by omega)
                obtain ⟨sa, hsl, hsx⟩ := slice_oneX X15.out hkm2 hkQ
                obtain ⟨yq, HYQ⟩ : ∃ y, Hid (Qs[k] = y) := ⟨Qs[k], (show Qs[k] = Qs[k] from rfl)⟩
                rw [HYQ.out] at HPE hsx
                have HSL := hide hsl
                have HSXX := hide hsx
                obtain ⟨sc2, HSC⟩ : ∃ z, Hid (qc - k = z) := ⟨_, rfl⟩
                rw [HSC.out] at HSL HSXX
                clear hsl hsx
                refine wp_region_inv Try.mixed (KS (fun i_ => match i_ with | 0 | 8 | 9 => .val (.int .i64 (k : Int)) | 1 | 6 => .val (.pointer (some ⟨E, 3, none⟩)) | 2 | 7 => .val (.slice qa m qc) | 3 => .val (.int .i64 (m : Int)) | 4 | 5 => .val (.bool true) | 10 => .val (.int .i64 ((k : Int) + 1)) | 11 => .val (.slice sa 1 sc2) | 12 => .val (.agg (XC x).toArray) | 13 => .of (fun W v_ => RdX W v_ [x]) (fun _ _ _ hg h => h.kept hg) | 14 | 15 => .val (.bool false) | _ => .free)) 92 rfl (by decide +kernel) (KS_mono _) ?_ ?_
                · refine AllFrom.cons (fun a' w' hg hk hd => ?_) (AllFrom.cons (fun a' w' hg hk hd => ?_) (AllFrom.cons (fun a' w' hg hk hd => ?_) (AllFrom.cons (fun a' w' hg hk hd => ?_) (AllFrom.cons (fun a' w' hg hk hd => ?_) (AllFrom.cons (fun a' w' hg hk hd => ?_) (AllFrom.cons (fun a' w' hg hk hd => ?_) (AllFrom.cons (fun a' w' hg hk hd => ?_) (AllFrom.cons (fun a' w' hg hk hd => ?_) (AllFrom.cons (fun a' w' hg hk hd => ?_) (AllFrom.cons (fun a' w' hg hk hd => ?_) (AllFrom.cons (fun a' w' hg hk hd => ?_) (AllFrom.cons (fun a' w' hg hk hd => ?_) (AllFrom.cons (fun a' w' hg hk hd => ?_) (AllFrom.cons (fun a' w' hg hk hd => ?_) (AllFrom.cons (fun a' w' hg hk hd => ?_) AllFrom.nil)))))))))))))))
                  · skip
                    intro Q
                    have e6 : a'.eval (.tmp 6) = .int .i64 (k : Int) := hk.at 6 (by decide +kernel)
                    exact wp_value _ (by simp only [execOp, e6]; rfl) (KS_mkv rfl rfl)
                  · skip
                    intro Q
                    have e5 : a'.eval (.tmp 5) = .pointer (some ⟨E, 0, none⟩) := hk.at 5 (by decide +kernel)
                    clear hd hk
                    exact wp_value (.pointer (some ⟨E, 3, none⟩)) (by simp only [execOp, e5]; go_simp) (KS_mkv rfl rfl)
                  · skip
                    intro Q
                    have e50 : a'.eval (.tmp 50) = .pointer (some ⟨E, 3, none⟩) := KS_val (hd.val 1 50 (by decide +kernel)) rfl
                    have hc := rdR_cell (S15.out.kept hg) HMl.out
                    clear hd hk
                    exact wp_value (.slice qa m qc) (by simp only [execOp, e50]; go_simp) (KS_mkv rfl rfl)
                  · skip
                    intro Q
                    have e51 : a'.eval (.tmp 51) = .slice qa m qc := KS_val (hd.val 2 51 (by decide +kernel)) rfl
                    clear hd hk
                    exact wp_value (.int .i64 (m : Int)) (by simp only [execOp, resolve, invoke, builtin, Sem.run_bind, Sem.run_pure, Result.andThen_ok, List.map_toArray, List.map_cons, List.map_nil, e51]; go_simp) (KS_mkv rfl rfl)
                  · skip
                    intro Q
                    have e49 : a'.eval (.tmp 49) = .int .i64 (k : Int) := KS_val (hd.val 0 49 (by decide +kernel)) rfl
                    have e52 : a'.eval (.tmp 52) = .int .i64 (m : Int) := KS_val (hd.val 3 52 (by decide +kernel)) rfl
                    clear hd hk
                    exact wp_value (.bool true) (by simp only [execOp, e49, e52]; go_simp) (KS_mkv rfl rfl)
                  · skip
                    intro Q
                    have e53 : a'.eval (.tmp 53) = .bool true := KS_val (hd.val 4 53 (by decide +kernel)) rfl
                    exact wp_value _ (by simp only [execOp, e53]; rfl) (KS_mkv rfl rfl)
                  · skip
                    have eg : a'.eval (.tmp 54) = .bool true := KS_val (hd.val 5 54 (by decide +kernel)) rfl
                    refine ⟨54, true, rfl, eg, fun _ Q => ?_, fun h => absurd rfl h⟩
                    have e5 : a'.eval (.tmp 5) = .pointer (some ⟨E, 0, none⟩) := hk.at 5 (by decide +kernel)
                    clear hd hk
                    exact wp_value (.pointer (some ⟨E, 3, none⟩)) (by simp only [execOp, e5]; go_simp) (KS_mkv rfl rfl)
                  · skip
                    have eg : a'.eval (.tmp 54) = .bool true := KS_val (hd.val 5 54 (by decide +kernel)) rfl
                    refine ⟨54, true, rfl, eg, fun _ Q => ?_, fun h => absurd rfl h⟩
                    have e55 : a'.eval (.tmp 55) = .pointer (some ⟨E, 3, none⟩) := KS_val (hd.val 6 55 (by decide +kernel)) rfl
                    have hc := rdR_cell (S15.out.kept hg) HMl.out
                    clear hd hk
                    exact wp_value (.slice qa m qc) (by simp only [execOp, e55]; go_simp) (KS_mkv rfl rfl)
                  · skip
                    have eg : a'.eval (.tmp 54) = .bool true := KS_val (hd.val 5 54 (by decide +kernel)) rfl
                    refine ⟨54, true, rfl, eg, fun _ Q => ?_, fun h => absurd rfl h⟩
                    have e6 : a'.eval (.tmp 6) = .int .i64 (k : Int) := hk.at 6 (by decide +kernel)
                    exact wp_value _ (by simp only [execOp, e6]; rfl) (KS_mkv rfl rfl)
                  · skip
                    have eg : a'.eval (.tmp 54) = .bool true := KS_val (hd.val 5 54 (by decide +kernel)) rfl
                    refine ⟨54, true, rfl, eg, fun _ Q => ?_, fun h => absurd rfl h⟩
                    have e6 : a'.eval (.tmp 6) = .int .i64 (k : Int) := hk.at 6 (by decide +kernel)
                    exact wp_value _ (by simp only [execOp, e6]; rfl) (KS_mkv rfl rfl)
                  · skip
                    have eg : a'.eval (.tmp 54) = .bool true := KS_val (hd.val 5 54 (by decide +kernel)) rfl
                    refine ⟨54, true, rfl, eg, fun _ Q => ?_, fun h => absurd rfl h⟩
                    have e58 : a'.eval (.tmp 58) = .int .i64 (k : Int) := KS_val (hd.val 9 58 (by decide +kernel)) rfl
                    clear hd hk
                    exact wp_value (.int .i64 ((k : Int) + 1)) (by simp only [execOp, e58]; go_simp) (KS_mkv rfl rfl)
                  · skip
                    have eg : a'.eval (.tmp 54) = .bool true := KS_val (hd.val 5 54 (by decide +kernel)) rfl
                    refine ⟨54, true, rfl, eg, fun _ Q => ?_, fun h => absurd rfl h⟩
                    have e56 : a'.eval (.tmp 56) = .slice qa m qc := KS_val (hd.val 7 56 (by decide +kernel)) rfl
                    have e57 : a'.eval (.tmp 57) = .int .i64 (k : Int) := KS_val (hd.val 8 57 (by decide +kernel)) rfl
                    have e59 : a'.eval (.tmp 59) = .int .i64 ((k : Int) + 1) := KS_val (hd.val 10 59 (by decide +kernel)) rfl
                    exact wp_value _ (by simp only [execOp, e56, e57, e59, HSL.out, Sem.run_bind, Result.andThen_ok, Option.map_none, Option.map_some]; rfl) (KS_mkv rfl rfl)
                  · skip
                    have eg : a'.eval (.tmp 54) = .bool true := KS_val (hd.val 5 54 (by decide +kernel)) rfl
                    refine ⟨54, true, rfl, eg, fun _ Q => ?_, fun h => absurd rfl h⟩
                    have e9 : a'.eval (.tmp 9) = .pointer (some ⟨G, 0, none⟩) := hk.at 9 (by decide +kernel)
                    exact wp_load_row 27 _ rfl _ _ e9 (XC x) _ ((b15.out.kept hg).range0) Try.underlying27 rfl (Try.size27) (KS_mkv rfl rfl)
                  · skip
                    have eg : a'.eval (.tmp 54) = .bool true := KS_val (hd.val 5 54 (by decide +kernel)) rfl
                    refine ⟨54, true, rfl, eg, fun _ Q => ?_, fun h => absurd rfl h⟩
                    have e61 : a'.eval (.tmp 61) = .agg (XC x).toArray := KS_val (hd.val 12 61 (by decide +kernel)) rfl
                    exact wp_grow _ _ (by simp only [execOp, List.map_toArray, List.map_cons, List.map_nil, e61, Sem.run_bind, Sem.run_pure]; exact congrArg (fun r => Result.andThen r _) (build_read1 x _)) ((Below.refl _ _).alloc (Nat.le_refl _) _) (KS_mko rfl (rdX_one (PX15.out.kept hg)))
                  · skip
                    have eg : a'.eval (.tmp 54) = .bool true := KS_val (hd.val 5 54 (by decide +kernel)) rfl
                    refine ⟨54, true, rfl, eg, fun _ Q => ?_, fun h => absurd rfl h⟩
                    have e60 : a'.eval (.tmp 60) = .slice sa 1 sc2 := KS_val (hd.val 11 60 (by decide +kernel)) rfl
                    have r62 := KS_of (hd.val 13 62 (by decide +kernel)) rfl
                    refine wp_call 15 _ (run_enter 15 _ _ rfl (by kernel_rfl)) ?_
                    simp only [List.map_toArray, List.map_nil, List.map_cons, e60]
                    refine (sameX_any (HSXX.out.kept hg) r62 false ⟨fun h => (by cases h), fun h => absurd (by rw [List.map_singleton, List.map_singleton] at h; exact (List.cons.inj h).1) HPE.out⟩).mono ?_
                    rintro e w5 ⟨rfl, hb5⟩
                    exact ⟨_, rfl, KS_mkv rfl rfl, hb5⟩
                  · skip
                    intro Q
                    have e54 : a'.eval (.tmp 54) = .bool true := KS_val (hd.val 5 54 (by decide +kernel)) rfl
                    have e63 : a'.eval (.tmp 63) = .bool false := KS_val (hd.val 14 63 (by decide +kernel)) rfl
                    clear hd hk
                    exact wp_value (.bool false) (by simp only [execOp, e54, e63]; go_simp) (KS_mkv rfl rfl)
                · intro a' w16 hsz hdf hk hall hg
                  have L16 : Hid (Below w14.heap.size w14 w16) := (show _ from L15.out.trans (hg.mono L15.out.size))
                  have e49 : a'.eval (.tmp 49) = .int .i64 (k : Int) := KS_val (hall 0 _ 49 rfl rfl) rfl
                  have e50 : a'.eval (.tmp 50) = .pointer (some ⟨E, 3, none⟩) := KS_val (hall 1 _ 50 rfl rfl) rfl
                  have e51 : a'.eval (.tmp 51) = .slice qa m qc := KS_val (hall 2 _ 51 rfl rfl) rfl
                  have e52 : a'.eval (.tmp 52) = .int .i64 (m : Int) := KS_val (hall 3 _ 52 rfl rfl) rfl
                  have e53 : a'.eval (.tmp 53) = .bool true := KS_val (hall 4 _ 53 rfl rfl) rfl
                  have e54 : a'.eval (.tmp 54) = .bool true := KS_val (hall 5 _ 54 rfl rfl) rfl
                  have e55 : a'.eval (.tmp 55) = .pointer (some ⟨E, 3, none⟩) := KS_val (hall 6 _ 55 rfl rfl) rfl
                  have e56 : a'.eval (.tmp 56) = .slice qa m qc := KS_val (hall 7 _ 56 rfl rfl) rfl
                  have e57 : a'.eval (.tmp 57) = .int .i64 (k : Int) := KS_val (hall 8 _ 57 rfl rfl) rfl
                  have e58 : a'.eval (.tmp 58) = .int .i64 (k : Int) := KS_val (hall 9 _ 58 rfl rfl) rfl
                  have e59 : a'.eval (.tmp 59) = .int .i64 ((k : Int) + 1) := KS_val (hall 10 _ 59 rfl rfl) rfl
                  have e60 : a'.eval (.tmp 60) = .slice sa 1 sc2 := KS_val (hall 11 _ 60 rfl rfl) rfl
                  have e61 : a'.eval (.tmp 61) = .agg (XC x).toArray := KS_val (hall 12 _ 61 rfl rfl) rfl
                  have r62 : (fun W v_ => RdX W v_ [x]) w16 (a'.eval (.tmp 62)) := KS_of (hall 13 _ 62 rfl rfl) rfl
                  obtain ⟨x62, hx62⟩ : ∃ v, a'.eval (.tmp 62) = v := ⟨_, rfl⟩
                  rw [hx62] at r62
                  have e63 : a'.eval (.tmp 63) = .bool false := KS_val (hall 14 _ 63 rfl rfl) rfl
                  have e64 : a'.eval (.tmp 64) = .bool false := KS_val (hall 15 _ 64 rfl rfl) rfl
                  have ha := act_puts 92 rfl hsz hdf hk [49, 50, 51, 52, 53, 54, 55, 56, 57, 58, 59, 60, 61, 62, 63, 64] (by decide +kernel)
                  simp only [puts, List.foldl_cons, List.foldl_nil, e49, e50, e51, e52, e53, e54, e55, e56, e57, e58, e59, e60, e61, hx62, e63, e64] at ha
                  simp only [Act.put, List.setIfInBounds_toArray, List.set_cons_succ, List.set_cons_zero] at ha
                  clear hall hk hsz hdf e49 e50 e51 e52 e53 e54 e55 e56 e57 e58 e59 e60 e61 hx62 e63 e64
                  subst ha
                  go_wp2_with fail
                  go_roundg (n - i)
                  case measure => omega
                  case rel => exact ⟨i + 1, k, c, by omega, by omega, by first | rfl | go_num, by first | rfl | go_num, by go_num, by omega, hc9, HK9, HC9, L16⟩
              · go_upto_region 13 with fail
                have hkm3 : ¬ (k : Int) < (m : Int) := by rw [HMl.out] at hkQ; omega
                refine wp_region_inv Try.mixed (KS (fun i_ => match i_ with | 0 => .val (.int .i64 (k : Int)) | 1 => .val (.pointer (some ⟨E, 3, none⟩)) | 2 => .val (.slice qa m qc) | 3 => .val (.int .i64 (m : Int)) | 4 | 5 | 15 => .val (.bool false) | _ => .free)) 92 rfl (by decide +kernel) (KS_mono _) ?_ ?_
                · refine AllFrom.cons (fun a' w' hg hk hd => ?_) (AllFrom.cons (fun a' w' hg hk hd => ?_) (AllFrom.cons (fun a' w' hg hk hd => ?_) (AllFrom.cons (fun a' w' hg hk hd => ?_) (AllFrom.cons (fun a' w' hg hk hd => ?_) (AllFrom.cons (fun a' w' hg hk hd => ?_) (AllFrom.cons (fun a' w' hg hk hd => ?_) (AllFrom.cons (fun a' w' hg hk hd => ?_) (AllFrom.cons (fun a' w' hg hk hd => ?_) (AllFrom.cons (fun a' w' hg hk hd => ?_) (AllFrom.cons (fun a' w' hg hk hd => ?_) (AllFrom.cons (fun a' w' hg hk hd => ?_) (AllFrom.cons (fun a' w' hg hk hd => ?_) (AllFrom.cons (fun a' w' hg hk hd => ?_) (AllFrom.cons (fun a' w' hg hk hd => ?_) (AllFrom.cons (fun a' w' hg hk hd => ?_) AllFrom.nil)))))))))))))))
                  · skip
                    intro Q
                    have e6 : a'.eval (.tmp 6) = .int .i64 (k : Int) := hk.at 6 (by decide +kernel)
                    exact wp_value _ (by simp only [execOp, e6]; rfl) (KS_mkv rfl rfl)
                  · skip
                    intro Q
                    have e5 : a'.eval (.tmp 5) = .pointer (some ⟨E, 0, none⟩) := hk.at 5 (by decide +kernel)
                    clear hd hk
                    exact wp_value (.pointer (some ⟨E, 3, none⟩)) (by simp only [execOp, e5]; go_simp) (KS_mkv rfl rfl)
                  · skip
                    intro Q
                    have e50 : a'.eval (.tmp 50) = .pointer (some ⟨E, 3, none⟩) := KS_val (hd.val 1 50 (by decide +kernel)) rfl
                    have hc := rdR_cell (S15.out.kept hg) HMl.out
                    clear hd hk
                    exact wp_value (.slice qa m qc) (by simp only [execOp, e50]; go_simp) (KS_mkv rfl rfl)
                  · skip
                    intro Q
                    have e51 : a'.eval (.tmp 51) = .slice qa m qc := KS_val (hd.val 2 51 (by decide +kernel)) rfl
                    clear hd hk
                    exact wp_value (.int .i64 (m : Int)) (by simp only [execOp, resolve, invoke, builtin, Sem.run_bind, Sem.run_pure, Result.andThen_ok, List.map_toArray, List.map_cons, List.map_nil, e51]; go_simp) (KS_mkv rfl rfl)
                  · skip
                    intro Q
                    have e49 : a'.eval (.tmp 49) = .int .i64 (k : Int) := KS_val (hd.val 0 49 (by decide +kernel)) rfl
                    have e52 : a'.eval (.tmp 52) = .int .i64 (m : Int) := KS_val (hd.val 3 52 (by decide +kernel)) rfl
                    clear hd hk
                    exact wp_value (.bool false) (by simp only [execOp, e49, e52]; go_simp) (KS_mkv rfl rfl)
                  · skip
                    intro Q
                    have e53 : a'.eval (.tmp 53) = .bool false := KS_val (hd.val 4 53 (by decide +kernel)) rfl
                    exact wp_value _ (by simp only [execOp, e53]; rfl) (KS_mkv rfl rfl)
                  · skip
                    have eg : a'.eval (.tmp 54) = .bool false := KS_val (hd.val 5 54 (by decide +kernel)) rfl
                    exact ⟨54, false, rfl, eg, fun h => absurd h (by decide), fun _ => KS_mkf rfl⟩
                  · skip
                    have eg : a'.eval (.tmp 54) = .bool false := KS_val (hd.val 5 54 (by decide +kernel)) rfl
                    exact ⟨54, false, rfl, eg, fun h => absurd h (by decide), fun _ => KS_mkf rfl⟩
                  · skip
                    have eg : a'.eval (.tmp 54) = .bool false := KS_val (hd.val 5 54 (by decide +kernel)) rfl
                    exact ⟨54, false, rfl, eg, fun h => absurd h (by decide), fun _ => KS_mkf rfl⟩
                  · skip
                    have eg : a'.eval (.tmp 54) = .bool false := KS_val (hd.val 5 54 (by decide +kernel)) rfl
                    exact ⟨54, false, rfl, eg, fun h => absurd h (by decide), fun _ => KS_mkf rfl⟩
                  · skip
                    have eg : a'.eval (.tmp 54) = .bool false := KS_val (hd.val 5 54 (by decide +kernel)) rfl
                    exact ⟨54, false, rfl, eg, fun h => absurd h (by decide), fun _ => KS_mkf rfl⟩
                  · skip
                    have eg : a'.eval (.tmp 54) = .bool false := KS_val (hd.val 5 54 (by decide +kernel)) rfl
                    exact ⟨54, false, rfl, eg, fun h => absurd h (by decide), fun _ => KS_mkf rfl⟩
                  · skip
                    have eg : a'.eval (.tmp 54) = .bool false := KS_val (hd.val 5 54 (by decide +kernel)) rfl
                    exact ⟨54, false, rfl, eg, fun h => absurd h (by decide), fun _ => KS_mkf rfl⟩
                  · skip
                    have eg : a'.eval (.tmp 54) = .bool false := KS_val (hd.val 5 54 (by decide +kernel)) rfl
                    exact ⟨54, false, rfl, eg, fun h => absurd h (by decide), fun _ => KS_mkf rfl⟩
                  · skip
                    have eg : a'.eval (.tmp 54) = .bool false := KS_val (hd.val 5 54 (by decide +kernel)) rfl
                    exact ⟨54, false, rfl, eg, fun h => absurd h (by decide), fun _ => KS_mkf rfl⟩
                  · skip
                    intro Q
                    have e54 : a'.eval (.tmp 54) = .bool false := KS_val (hd.val 5 54 (by decide +kernel)) rfl
                    clear hd hk
                    exact wp_value (.bool false) (by simp only [execOp, e54]; go_simp) (KS_mkv rfl rfl)
                · intro a' w16 hsz hdf hk hall hg
                  have L16 : Hid (Below w14.heap.size w14 w16) := (show _ from L15.out.trans (hg.mono L15.out.size))
                  have e49 : a'.eval (.tmp 49) = .int .i64 (k : Int) := KS_val (hall 0 _ 49 rfl rfl) rfl
                  have e50 : a'.eval (.tmp 50) = .pointer (some ⟨E, 3, none⟩) := KS_val (hall 1 _ 50 rfl rfl) rfl
                  have e51 : a'.eval (.tmp 51) = .slice qa m qc := KS_val (hall 2 _ 51 rfl rfl) rfl
                  have e52 : a'.eval (.tmp 52) = .int .i64 (m : Int) := KS_val (hall 3 _ 52 rfl rfl) rfl
                  have e53 : a'.eval (.tmp 53) = .bool false := KS_val (hall 4 _ 53 rfl rfl) rfl
                  have e54 : a'.eval (.tmp 54) = .bool false := KS_val (hall 5 _ 54 rfl rfl) rfl
                  obtain ⟨x55, hx55⟩ : ∃ v, a'.eval (.tmp 55) = v := ⟨_, rfl⟩
                  obtain ⟨x56, hx56⟩ : ∃ v, a'.eval (.tmp 56) = v := ⟨_, rfl⟩
                  obtain ⟨x57, hx57⟩ : ∃ v, a'.eval (.tmp 57) = v := ⟨_, rfl⟩
                  obtain ⟨x58, hx58⟩ : ∃ v, a'.eval (.tmp 58) = v := ⟨_, rfl⟩
                  obtain ⟨x59, hx59⟩ : ∃ v, a'.eval (.tmp 59) = v := ⟨_, rfl⟩
                  obtain ⟨x60, hx60⟩ : ∃ v, a'.eval (.tmp 60) = v := ⟨_, rfl⟩
                  obtain ⟨x61, hx61⟩ : ∃ v, a'.eval (.tmp 61) = v := ⟨_, rfl⟩
                  obtain ⟨x62, hx62⟩ : ∃ v, a'.eval (.tmp 62) = v := ⟨_, rfl⟩
                  obtain ⟨x63, hx63⟩ : ∃ v, a'.eval (.tmp 63) = v := ⟨_, rfl⟩
                  have e64 : a'.eval (.tmp 64) = .bool false := KS_val (hall 15 _ 64 rfl rfl) rfl
                  have ha := act_puts 92 rfl hsz hdf hk [49, 50, 51, 52, 53, 54, 55, 56, 57, 58, 59, 60, 61, 62, 63, 64] (by decide +kernel)
                  simp only [puts, List.foldl_cons, List.foldl_nil, e49, e50, e51, e52, e53, e54, hx55, hx56, hx57, hx58, hx59, hx60, hx61, hx62, hx63, e64] at ha
                  simp only [Act.put, List.setIfInBounds_toArray, List.set_cons_succ, List.set_cons_zero] at ha
                  clear hall hk hsz hdf e49 e50 e51 e52 e53 e54 hx55 hx56 hx57 hx58 hx59 hx60 hx61 hx62 hx63 e64
                  subst ha
                  go_wp2_with fail
                  go_roundg (n - i)
                  case measure => omega
                  case rel => exact ⟨i + 1, k, c, by omega, by omega, by first | rfl | go_num, by first | rfl | go_num, by go_num, by omega, hc9, HK9, HC9, L16⟩
        · obtain rfl : i = n := by omega
          have hlt' : ¬ (i : Int) < i := by omega
          have hfull : r.rs.take i = r.rs := List.take_of_length_le (by rw [HNn.out]; exact Nat.le_refl _)
          have hke : k = m := by have h1 := HKI.out; rw [hfull, ← HMQ.out] at h1; exact h1
          have HCE : Hid (c = nsc Qs) := (show _ = _ by
            rw [HCI.out, hfull, nsc_pl HEQ.out]
            unfold ownP
            rw [own_nsc]
            simp [nsc])
          subst hke
          have S20 := hide (S14.out.kept LR.out)
          have X20 := hide (X14.out.kept LR.out)
          have d20 := rdR_cell S20.out HMl.out
          have L20 := LR
          have hc6 : c ≤ 1000000 := by omega
          clear hfull HKI HCI HR LR hlt hlt' hci hg
          go_wp2_with fail
          clear d20
          have R0 : Hid (Below w14.heap.size w14 wr) := L20
          have hci := hc6
          go_loopg [7, 71] (k + 1) (fun g ss z wr => ∃ (j d : Nat), j ≤ k ∧ g + j = k + 1 ∧ ss = .int .i64 (d : Int) ∧ z = .int .i64 (j : Int) ∧ d ≤ 1000000 ∧ Hid (d + nsc (Qs.take j) = c) ∧ Hid (Below w14.heap.size w14 wr))
          case atStart => exact ⟨0, c, Nat.zero_le _, by omega, rfl, rfl, hci, (show _ = _ by simp [nsc]), R0⟩
          case round =>
            clear R0 L20
            obtain ⟨j, d, hj, hg, rfl, rfl, hd, HD, LR⟩ := hrel
            by_cases hlt : j < k
            · have hlt2 : j < Qs.length := by rw [HMl.out]; exact hlt
              have hlt' : (j : Int) < (k : Int) := by omega
              have RB := X14.out.kept LR.out
              obtain ⟨bb, off, rfl, hb1, hx⟩ := RB.rd.nth (by omega)
              have hrow : wr.rangeAt bb (off + j * 4) (XC Qs[j]) := hx j hlt2
              have HT2 : Hid (nsc (Qs.take (j + 1)) = nsc (Qs.take j) + nsc [Qs[j]]) := (show _ = _ by rw [List.take_succ_eq_append_getElem hlt2, nsc_app])
              have HLE : Hid (nsc (Qs.take (j + 1)) ≤ nsc Qs) := (show _ ≤ _ by
                have : nsc Qs = nsc (Qs.take (j + 1)) + nsc (Qs.drop (j + 1)) := by rw [← nsc_app, List.take_append_drop]
                omega)
              obtain ⟨x, HXx⟩ : ∃ x, Hid (Qs[j] = x) := ⟨Qs[j], (show Qs[j] = Qs[j] from rfl)⟩
              rw [HXx.out] at hrow HT2
              obtain ⟨G, HG⟩ : ∃ E, Hid (wr.heap.size = E) := ⟨_, rfl⟩
              obtain ⟨w15, hw15⟩ : ∃ y, y = wr.alloc (.cells (XC x).toArray 27 (0, 0)) := ⟨_, rfl⟩
              obtain ⟨b15, l15⟩ := newB HG hw15
              have HW15 := hide hw15
              have L15 : Hid (Below w14.heap.size w14 w15) := (show Below _ _ _ from LR.out.trans (l15.out.mono LR.out.size))
              have e0 := b15.out.xsc
              obtain ⟨xs, HXs⟩ : ∃ z, Hid (x.sc = z) := ⟨_, rfl⟩
              rw [HXs.out] at e0
              have HCO : Hid (nsc [x] = if xs = true then 1 else 0) := (show _ = _ by rw [nsc_one, HXs.out])
              clear hx hw15 RB
              cases xs with
              | true =>
                obtain ⟨d', rfl⟩ : ∃ d', d = d' + 1 := ⟨d - 1, by have h1 := HT2.out; have h2 := HLE.out; have h3 := HD.out; have h4 := HCE.out; have h5 := HCO.out; simp at h5; omega⟩
                have HD9 : Hid (d' + nsc (Qs.take (j + 1)) = c) := (show _ = _ by rw [HT2.out, HCO.out]; have := HD.out; simp; omega)
                have hd9 : d' ≤ 1000000 := by omega
                go_wp2_with (first
                  | (refine wpList_load_mid rfl 27 _ rfl bb (off + j * 4) rfl (XC x) _ hrow Try.underlying27 rfl Try.size27 ?_)
                  | (refine wpList_store_new rfl 27 _ _ rfl wr _ (XC x).toArray _ rfl rfl rfl Try.size27 rfl (all_one (XC_one x)) ?_; rw [← HW15.out, HG.out])
                  | fail)
                go_roundg (k - j)
                case measure => omega
                case rel => exact ⟨j + 1, d', by omega, by omega, by first | rfl | (congr 1; omega), by go_num, hd9, HD9, L15⟩
              | false =>
                have HD9 : Hid (d + nsc (Qs.take (j + 1)) = c) := (show _ = _ by rw [HT2.out, HCO.out]; have := HD.out; simp; omega)
                go_wp2_with (first
                  | (refine wpList_load_mid rfl 27 _ rfl bb (off + j * 4) rfl (XC x) _ hrow Try.underlying27 rfl Try.size27 ?_)
                  | (refine wpList_store_new rfl 27 _ _ rfl wr _ (XC x).toArray _ rfl rfl rfl Try.size27 rfl (all_one (XC_one x)) ?_; rw [← HW15.out, HG.out])
                  | fail)
                go_roundg (k - j)
                case measure => omega
                case rel => exact ⟨j + 1, d, by omega, by omega, rfl, by go_num, hd, HD9, L15⟩
            · obtain rfl : j = k := by omega
              have hlt' : ¬ (j : Int) < j := by omega
              have hd0 : d = 0 := by
                have h1 := HD.out
                rw [List.take_of_length_le (by rw [HMl.out]; exact Nat.le_refl _), HCE.out] at h1
                omega
              subst hd0
              have S21 := hide (S14.out.kept LR.out)
              have d21 := rdR_cell S21.out HMl.out
              have CV := hide (lives_any wr)
              have hjj : ((j : Int) == (j : Int)) = true := by simp
              go_wp2_with fail
              refine CV.out.mono ?_
              rintro e w30 ⟨rfl, hb30⟩
              have L30 : Hid (Below w.heap.size w w30) := (show Below _ _ _ from L14.out.trans ((LR.out.trans (hb30.mono LR.out.size)).mono L14.out.size))
              clear hb30 CV
              go_wp2_with fail
              go_ret
              exact ⟨rfl, L30.out⟩
#print axioms certifyOwn_any
end Go.Proofs.Ythniaoacanabdaa
