/-
  (*way).others: what the call does.
-/
import Derived.Test.YtfclmjfbcmjfbaaDoorPfA
namespace Go.Proofs.YtfclmjfbcmjfbaaDoor
open Go.RowKit Go.Shelf
attribute [local go_sem] Oper.semAt_some
theorem TE_head {t : Tn} {j : Nat} {v : Value} (h : ([.int .i64 (t.a : Int), .int .i64 (t.b : Int)] : List Value)[j]? = some v) : (TE.c t)[j]? = some v := by
  match j, h with
  | 0, h => exact h
  | 1, h => exact h
theorem OwnG.form {w : World} {B : Nat} {e : TypeId} {v : Value} {L : List Hs} (h : OwnG HE w B e v L) : ∃ a c, v = .slice a L.length c := h.rd.slice
/-- What is kept while hashes are told. -/
structure OI (w3 : World) (N Bo : Nat) (v0 : Value) (O : List Hs) (L : List Hs) (F : List Tn) (B : Nat) (pre : List (Nat × Tn)) (X : World) : Prop where
  own : ∃ v', Blk X N 22 [v'] ∧ OwnG HE X Bo 30 v' (O ++ (F.take pre.length).map (rt L)) ∧ ∀ b, v'.ownBlock = some b → v0.ownBlock = some b ∨ B ≤ b
  c : Chg (fun k => (k = N ∨ v0.ownBlock = some k) ∨ w3.heap.size ≤ k) w3 X
  b : w3.heap.size < B
  s : B ≤ X.heap.size
theorem OI.chg {w3 : World} {N Bo : Nat} {v0 : Value} {O L : List Hs} {F : List Tn} {B : Nat} {pre : List (Nat × Tn)} {X Y : World} (h : OI w3 N Bo v0 O L F B pre X) {G : Nat → Prop} (hc : Chg G X Y) (hG : ∀ k, G k → w3.heap.size ≤ k) (hN : N < w3.heap.size) (hO : ∀ k cur, G k → X.heap[k]? ≠ some (.cells cur 30 (0, 0))) : OI w3 N Bo v0 O L F B pre Y := by
  obtain ⟨v', h1, h2, h3⟩ := h.own
  refine ⟨⟨v', h1.chg hc (fun g => by have := hG _ g; omega), h2.chg hc (fun b hb g => ?_), h3⟩, h.c.trans (hc.mono (fun i _ g => .inr (hG i g))), h.b, Nat.le_trans h.s hc.size⟩
  obtain ⟨_, _, cur, hcur⟩ := h2.block hb
  exact hO b cur g hcur
set_option maxHeartbeats 4000000 in
set_option maxRecDepth 100000 in
theorem others_any (D lo hi c Bo : Nat) (A : List Tn) (v lv : Value) (O L : List Hs) (hA : A.length = 64) (hc : c ≤ 64) (hin : ∀ t ∈ A.take c, t.a ≤ t.b ∧ t.b ≤ L.length) (hOl : O.length ≤ 1000) (w : World) (hT : Tabs w) (hBo : 2 ≤ Bo) (hBw : Bo ≤ w.heap.size)
    (hD : Blk w D 50 (WC lo hi A c)) (hO : OwnG HE w Bo 30 v O) (hL : RdG HE w lv L) (hap : ∀ b, v.ownBlock = some b → ¬ InB lv b) :
    Calls Tryd.prog 25 #[.pointer (some ⟨D, 0, none⟩), v, lv] w fun e w' => (∃ v', e = .returned v' ∧ OwnG HE w' Bo 30 v' (O ++ (A.take c).reverse.map (rt L))) ∧ Chg (fun k => v.ownBlock = some k) w w' := by
  have HO := hide hO
  have RL := hide hL
  have HAP := hide hap
  have HIN := hide hin
  have HA := hide hA
  have HC64 := hide hc
  have HD := hide hD
  have HT := hide hT
  have HTL : Hid ((A.take c).length = c) := (show _ = _ by rw [List.length_take, hA]; omega)
  obtain ⟨p, cp, rfl⟩ := hL.slice
  obtain ⟨vo, vc, rfl⟩ := hO.rd.slice
  obtain ⟨n, HN⟩ : ∃ n, Hid (L.length = n) := ⟨_, rfl⟩
  obtain ⟨no, HNO⟩ : ∃ n, Hid (O.length = n) := ⟨_, rfl⟩
  rw [HN.out] at RL HAP ⊢
  rw [HNO.out] at HO HAP hOl ⊢
  have hHD : Hid (¬ (Value.slice vo no vc).ownBlock = some D) := (show _ from fun h => by
    obtain ⟨_, _, cur, hcur⟩ := HO.out.block h
    have := hD.symm.trans hcur
    simp at this)
  have hDl := hD.lt
  have HOB : Hid (∀ k, (Value.slice vo no vc).ownBlock = some k → Bo ≤ k ∧ k < w.heap.size) := (show _ from fun k h => by have := HO.out.block h; exact ⟨this.1, this.2.1⟩)
  obtain ⟨N, HNw⟩ : ∃ N, Hid (w.heap.size = N) := ⟨_, rfl⟩
  rw [HNw.out] at hDl hBw HOB
  clear hO hL hap hin hA hD hT
  obtain ⟨N0, -⟩ : ∃ n : Nat, True := ⟨9, trivial⟩
  refine (callsIn_wide (n := N0)).1 ?_
  refine callsIn_of_wp_marks Tryd.func25 rfl trivial ?_ rfl
  simp only [Tryd.ntmps25, List.size_toArray, List.length_cons, List.length_nil, Nat.reduceAdd, Nat.reduceSub, Array.replicate_succ, Array.replicate_zero, List.push_toArray, List.append_toArray, List.nil_append, List.cons_append]
  gi_wp2_with fail
  obtain ⟨w0, hw0⟩ : ∃ z, z = (w.alloc (.cells [.slice vo no vc].toArray 22 (0, 0))).alloc (.cells [.slice p n cp].toArray 22 (0, 0)) := ⟨_, rfl⟩
  change Fence.wide.fn _ ∧ _ ∧ CallsIn _ _ _ _ _ ((w.alloc (.cells [.slice vo no vc].toArray 22 (0, 0))).alloc (.cells [.slice p n cp].toArray 22 (0, 0))) _
  rw [← hw0, HNw.out]
  obtain ⟨b0, b1, ln⟩ := boxes2' HNw hw0
  have s0 : w0.heap.size = N + 1 + 1 := by rw [hw0]; simp [HNw.out]
  clear hw0
  refine wide_call (up_any D w0) ?_
  rintro e w3 ⟨rfl, hw3⟩
  rw [s0]
  have hb3 : Below w0.heap.size w0 w3 := by rw [hw3]; exact (Below.refl _ _).alloc (Nat.le_refl _) _
  have BU : Hid (Blk w3 (N + 1 + 1) 66 [.pointer (some ⟨D, 0, none⟩)]) := (show Blk _ _ _ _ by rw [hw3, ← s0]; exact Blk.new w0 66 [.pointer (some ⟨D, 0, none⟩)])
  have S3 : Hid (w3.heap.size = N + 1 + 1 + 1) := (show _ = _ by rw [hw3]; simp [s0])
  have B3 := hide (b0.kept hb3)
  have B4 := hide (b1.kept hb3)
  have L3 : Hid (Below N w w3) := ln.trans (hb3.mono (by omega))
  have L3w : Hid (Below w.heap.size w w3) := (show Below _ _ _ by rw [HNw.out]; exact L3.out)
  have HD3 := hide (HD.out.kept L3w.out)
  have HO3 := hide (HO.out.kept L3w.out)
  have RL3 := hide (RL.out.kept L3w.out)
  have T3 : Hid (Tabs w3) := HT.out.kept (L3.out.mono (by omega))
  clear hw3 hb3 b0 b1 ln s0
  gi_wp2_with fail
  refine wp_ranged4 (n := N0) (gf := 39) (lb := #[.pointer (some ⟨N + 1 + 1, 0, none⟩)]) rfl (enters_of Tryd.func39 (by kernel_rfl) rfl) (encs := tbV) (fun _ => rfl) (R := upR (A.take c).reverse) (S := fun xs => xs.length = (A.take c).reverse.length) (OI w3 N Bo (.slice vo no vc) O L (A.take c).reverse) (fun _ _ _ _ => False) ?ip (fun _ _ _ _ _ _ _ _ _ _ h => h) ?ib (fun _ _ _ _ _ h _ => h) ?h0 (G := fun k => k = N ∨ (Value.slice vo no vc).ownBlock = some k)
    (up1_hands (N + 1 + 1) D lo hi c A HA.out hc w3 BU.out HD3.out ?c1 ?c2 ?c3)
    (fun x h => { tmps := #[.pointer (some ⟨D, 0, none⟩), .slice vo no vc, .slice p n cp, undef, .pointer (some ⟨N, 0, none⟩), .pointer (some ⟨N + 1, 0, none⟩), .slice none 0 0, undef, .pointer (some ⟨h, 0, none⟩), .pointer (some ⟨D, 0, none⟩), .func (.func 39) #[] #[.pointer (some ⟨N + 1 + 1, 0, none⟩)], .int .i64 (x.1 : Int), .agg (TE.c x.2).toArray, undef, undef, undef, undef, undef, undef, undef, undef], defers := [] }) (fun x h X => Blk X h 47 (TE.c x.2)) ?ap ?assign ?body ?done (fun _ _ _ _ _ _ _ h _ => h.elim)
  case c1 =>
    rintro k (h | h)
    · have := S3.out; omega
    · have := S3.out; have := HOB.out k h; omega
  case c2 =>
    rintro (h | h)
    · omega
    · have := HOB.out _ h; omega
  case c3 =>
    rintro (h | h)
    · omega
    · exact hHD.out h
  case ip =>
    intro B pre X k o0 o hk hX hn hI
    refine hI.chg (chg_put (G := fun j => j = k) rfl o) (fun j hj => by subst hj; exact hk) (by have := S3.out; omega) (fun j cur hj hcur => ?_)
    subst hj
    rw [hX] at hcur
    cases hcur
    cases hn
  case ib =>
    intro B pre X Y hI hb
    exact hI.chg (G := fun _ => False) (Chg.of_below hb) (fun _ h => h.elim) (by have := S3.out; omega) (fun _ _ h => h.elim)
  case h0 =>
    intro X hX hlt
    refine ⟨⟨.slice vo no vc, B3.out.kept hX, ?_, fun b hb => .inl hb⟩, Chg.of_below hX, hlt, Nat.le_refl _⟩
    rw [List.length_nil, List.take_zero, List.map_nil, List.append_nil]
    exact HO3.out.kept hX
  case ap =>
    intro x h X k o0 o hk hX hn hB
    exact hB.put10 hX hn
  case assign =>
    intro m l' x X K' hle hK
    have BW := Blk.new X 47 (TE.c Tz)
    simp only [tbV]
    gi_wp2_with (first
      | (refine wpListIn_store_blk rfl 47 _ _ rfl X.heap.size (TE.c Tz) (TE.c x.2) 47 rfl rfl BW rfl Tryd.sizeTn (TE.one _) ?_; intro w5 hb5 hu5)
      | fail)
    exact hK w5 (((Below.refl _ _).alloc (Nat.le_refl _) _).trans (hu5.below (Nat.le_refl _) (by simp))) hb5
  case body =>
    rintro m l' B pre ⟨r, t⟩ h X hwB hBh hle hI hR hA
    obtain ⟨hR1, hR2⟩ := hR
    simp only at hR1 hR2 hA
    subst hR1
    have hs3 := S3.out
    obtain ⟨v1, IB0, IO0, IH0⟩ := hI.own
    obtain ⟨a1, c1, hv1⟩ := IO0.form
    obtain ⟨n1, hn1⟩ : ∃ k, (O ++ ((A.take c).reverse.take pre.length).map (rt L)).length = k := ⟨_, rfl⟩
    rw [hn1] at hv1
    subst hv1
    have IB := hide IB0
    have IO1 := hide IO0
    have IH := hide IH0
    have IC := hide hI.c
    have IS := hide hI.s
    have HAf := hide hA
    have BLr := hide (B4.out.chg hI.c (by rintro ((h | h) | h); omega; have := HOB.out _ h; omega; have := B4.out.lt; omega))
    have RLr := hide (RL3.out.chg hI.c (by
      intro b hb
      have hbl := RL.out.inB_lt hb
      rw [HNw.out] at hbl
      rintro ((h | h) | h)
      · omega
      · exact HAP.out b h hb
      · omega))
    have TW : Hid (Tabs X) := T3.out.kept (hI.c.below (by omega) (fun k hk h => by
      rcases h with (h | h) | h
      · omega
      · have := HOB.out _ h; omega
      · omega))
    have hpl : pre.length < (A.take c).reverse.length := (List.getElem?_eq_some_iff.1 hR2).1
    have hmem : t ∈ A.take c := by
      have := List.mem_of_getElem? hR2
      simpa using this
    have hin := HIN.out t hmem
    have HPL : Hid ((A.take c).reverse.take (pre.length + 1) = (A.take c).reverse.take pre.length ++ [t]) := (show _ = _ by
      rw [List.take_succ_eq_append_getElem hpl]
      congr 2
      rw [List.getElem?_eq_getElem hpl] at hR2
      exact Option.some.inj hR2)
    have HLEN : Hid (n1 ≤ 1100) := (show n1 ≤ 1100 by
      have h9 : pre.length < c := by rw [List.length_reverse, HTL.out] at hpl; exact hpl
      have h8 := HNO.out
      have h6 := HC64.out
      have h7 : n1 ≤ O.length + pre.length := by
        rw [← hn1, List.length_append, List.length_map, List.length_take]
        exact Nat.add_le_add_left (Nat.min_le_left _ _) _
      omega)
    have HN1 := hide hn1
    clear hI hA hR2 hmem IB0 IO0 IH0 hn1 hpl
    gi_wp2_with fail
    refine wpIn_region_tails op_in Tryd.mixed (by decide +kernel) (KS (fun i_ => match i_ with | 0 => .val (.slice a1 n1 c1) | 1 => .val (.pointer (some ⟨h, 0, none⟩)) | 2 => .val (.agg #[.int .i64 (t.a : Int), .int .i64 (t.b : Int)]) | 3 => .val (.slice p n cp) | 4 => .val (HV (rt L t)) | 5 => .of (fun w v_ => RdG HE w v_ [rt L t]) (fun _ _ _ hg h => RdG.kept h hg) | _ => .free)) 21 rfl (by decide +kernel) 6 (by decide) (by decide +kernel) (KS_mono _) ?_ ?_
    · refine AllFrom.cons ⟨rfl, fun a' w' hg hk hd => ?_⟩ (AllFrom.cons ⟨rfl, fun a' w' hg hk hd => ?_⟩ (AllFrom.cons ⟨rfl, fun a' w' hg hk hd => ?_⟩ (AllFrom.cons ⟨rfl, fun a' w' hg hk hd => ?_⟩ (AllFrom.cons ⟨rfl, fun a' w' hg hk hd => ?_⟩ (AllFrom.cons ⟨rfl, fun a' w' hg hk hd => ?_⟩ AllFrom.nil)))))
      · skip
        intro Q
        have e4 : a'.eval (.tmp 4) = .pointer (some ⟨N, 0, none⟩) := hk.at 4 (by decide +kernel)
        have hc := (IB.out.kept hg).cell (j := 0) rfl
        clear hd hk
        exact wp_value (.slice a1 n1 c1) (by simp only [execOp, e4]; go_simp) (KS_mkv rfl rfl)
      · skip
        intro Q
        have e8 : a'.eval (.tmp 8) = .pointer (some ⟨h, 0, none⟩) := hk.at 8 (by decide +kernel)
        clear hd hk
        exact wp_value (.pointer (some ⟨h, 0, none⟩)) (by simp only [execOp, e8]; go_simp) (KS_mkv rfl rfl)
      · skip
        intro Q
        have e14 : a'.eval (.tmp 14) = .pointer (some ⟨h, 0, none⟩) := KS_val (hd.val 1 14 (by decide +kernel)) rfl
        exact wp_load_row 45 _ rfl _ _ e14 [.int .i64 (t.a : Int), .int .i64 (t.b : Int)] _ ((HAf.out.kept hg).range 0 _ (fun j v_ hj => by rw [Nat.zero_add]; exact TE_head hj)) Tryd.underlying45 rfl Tryd.sizePt (KS_mkv rfl rfl)
      · skip
        intro Q
        have e5 : a'.eval (.tmp 5) = .pointer (some ⟨N + 1, 0, none⟩) := hk.at 5 (by decide +kernel)
        have hc := (BLr.out.kept hg).cell (j := 0) rfl
        clear hd hk
        exact wp_value (.slice p n cp) (by simp only [execOp, e5]; go_simp) (KS_mkv rfl rfl)
      · skip
        intro Q
        have e15 : a'.eval (.tmp 15) = .agg #[.int .i64 (t.a : Int), .int .i64 (t.b : Int)] := KS_val (hd.val 2 15 (by decide +kernel)) rfl
        have e16 : a'.eval (.tmp 16) = .slice p n cp := KS_val (hd.val 3 16 (by decide +kernel)) rfl
        refine wp_call 28 _ (run_enter 28 _ _ rfl (by kernel_rfl)) ?_
        simp only [List.map_toArray, List.map_nil, List.map_cons, e15, e16]
        refine (ptroot_any t.a t.b _ L hin.1 hin.2 _ (TW.out.gr hg) (RLr.out.kept hg)).mono ?_
        rintro e w5 ⟨rfl, hb5⟩
        exact ⟨_, rfl, KS_mkv rfl rfl, hb5⟩
      · skip
        intro Q
        have e17 : a'.eval (.tmp 17) = HV (rt L t) := KS_val (hd.val 4 17 (by decide +kernel)) rfl
        obtain ⟨w9, hr9, hg9, hrd9⟩ := hash_new w' (rt L t)
        exact wp_grow _ w9 (by simp only [execOp, List.map_toArray, List.map_cons, List.map_nil, e17, hr9, Sem.run_bind, Sem.run_pure, Result.andThen_ok]) hg9 (KS_mko rfl hrd9)
    · intro a' w5 hsz hdf hk hall hg
      have e13 : a'.eval (.tmp 13) = .slice a1 n1 c1 := KS_val (hall 0 _ 13 (by decide) rfl rfl) rfl
      have e14 : a'.eval (.tmp 14) = .pointer (some ⟨h, 0, none⟩) := KS_val (hall 1 _ 14 (by decide) rfl rfl) rfl
      have e15 : a'.eval (.tmp 15) = .agg #[.int .i64 (t.a : Int), .int .i64 (t.b : Int)] := KS_val (hall 2 _ 15 (by decide) rfl rfl) rfl
      have e16 : a'.eval (.tmp 16) = .slice p n cp := KS_val (hall 3 _ 16 (by decide) rfl rfl) rfl
      have e17 : a'.eval (.tmp 17) = HV (rt L t) := KS_val (hall 4 _ 17 (by decide) rfl rfl) rfl
      have r18 : RdG HE w5 (a'.eval (.tmp 18)) [rt L t] := KS_of (hall 5 _ 18 (by decide) rfl rfl) rfl
      have e4 : a'.eval (.tmp 4) = .pointer (some ⟨N, 0, none⟩) := hk.at 4 (by decide +kernel)
      have O5 : OwnG HE w5 Bo 30 (.slice a1 n1 c1) (O ++ ((A.take c).reverse.take pre.length).map (rt L)) := IO1.out.kept hg
      have s0 : a'.tmps.size = 21 := hsz
      have hgs : X.heap.size ≤ w5.heap.size := hg.size
      obtain ⟨v2, w6, hr6, O6, G6, H6⟩ := append_own O5 r18 (by rw [HN1.out]; have := HLEN.out; simp; omega) (by have := IS.out; omega)
      refine ⟨rfl, op_in (fun c h => by cases h) (wp_append10 _ _ _ _ rfl e13 rfl hr6 ⟨_, rfl, rfl, op_in (fun c h => by cases h) ?_⟩)⟩
      obtain ⟨a2, c2, hv2⟩ := O6.form
      rw [List.append_assoc, List.length_append] at hv2
      have ev := (eval_put_same (a := a') (d := 19) (v := v2) (by rw [s0]; decide)).trans hv2
      have ep : (a'.put (some 19) v2).eval (.tmp 4) = .pointer (some ⟨N, 0, none⟩) := (eval_put_other (by simp)).trans e4
      have hNo : ¬ (Value.slice a1 n1 c1).ownBlock = some N := fun hh => by
        rcases IH.out _ hh with h | h
        · have := HOB.out _ h; omega
        · omega
      have hc6 : Chg (fun k => (Value.slice a1 n1 c1).ownBlock = some k) X w6 := (Chg.of_below hg).trans (Chg.of_grown G6 (fun k hk _ => hk))
      have B6 : Blk w6 N 22 [.slice a1 n1 c1] := IB.out.chg hc6 hNo
      have hne : ¬ v2.ownBlock = some N := fun hh => by
        rcases H6 _ hh with h | h
        · exact hNo h
        · have := IS.out; omega
      refine wp_store_slice _ _ rfl N _ _ _ _ _ ep ev B6 ?_
      intro w7 hb7 hu7
      refine ⟨_, rfl, ?_⟩
      rw [← hv2] at hb7
      have hc7 : Chg (fun k => k = N ∨ (Value.slice a1 n1 c1).ownBlock = some k) X w7 := (hc6.mono (fun i _ h => .inr h)).trans (Chg.of_but hu7 (.inl rfl))
      refine ⟨keeps_chg hc7 (fun k o hk ho => ?_), hc7.mono (fun i _ hh => ?_), ⟨⟨v2, hb7, ?_, fun b hb => ?_⟩, IC.out.trans (hc7.mono (fun i _ hh => ?_)), hwB, Nat.le_trans IS.out hc7.size⟩⟩
      · rcases hk with hk | hk
        · subst hk
          have := IB.out.symm.trans ho
          cases this
          rfl
        · obtain ⟨_, _, cur, hcur⟩ := IO1.out.block hk
          rw [ho] at hcur
          cases hcur
          rfl
      · rcases hh with hh | hh
        · exact .inl (.inl hh)
        · rcases IH.out _ hh with h | h
          · exact .inl (.inr h)
          · exact .inr h
      · rw [List.length_append, List.length_singleton, HPL.out, List.map_append, ← List.append_assoc]
        exact O6.chg (Chg.of_but hu7 (F := fun k => k = N) rfl) (fun b hb e => hne (e ▸ hb))
      · rcases H6 b hb with h | h
        · exact IH.out b h
        · have := IS.out; exact .inr (by omega)
      · rcases hh with hh | hh
        · exact .inl (.inl hh)
        · rcases IH.out _ hh with h | h
          · exact .inl (.inr h)
          · exact .inr (by omega)

  case done =>
    rintro Dd B xs X hDd hDB hS hI hd
    obtain ⟨v1, IB0, IO0, IH0⟩ := hI.own
    obtain ⟨a1, c1, hv1⟩ := IO0.form
    obtain ⟨n1, hn1⟩ : ∃ k, (O ++ ((A.take c).reverse.take xs.length).map (rt L)).length = k := ⟨_, rfl⟩
    rw [hn1] at hv1
    subst hv1
    have IO1 := hide IO0
    have cX : X.cell? ⟨N, 0, none⟩ = some (.slice a1 n1 c1) := IB0.cell (j := 0) rfl
    have IC := hide hI.c
    clear hI IB0 IO0 IH0
    have hs3 := S3.out
    gi_wp2_with fail
    refine ⟨by simp, .inl ⟨_, _, rfl, run_takeDeferred hd, ?_⟩⟩
    refine ⟨_, results_tmp rfl _ _ _, ⟨_, rfl, ?_⟩, ?_⟩
    · have := IO1.out
      rw [hS, List.take_length] at this
      refine this.chg (chg_put (G := fun k => k = Dd) rfl _) (fun b hb g => ?_)
      subst g
      obtain ⟨_, _, cur, hcur⟩ := IO1.out.block hb
      rw [hd] at hcur
      cases hcur
    · refine ((Chg.of_below L3w.out).then IC.out (fun i hi h => ?_)).then (chg_put (G := fun k => k = Dd) rfl _) (fun i hi h => ?_)
      · rw [HNw.out] at hi
        rcases h with (h | h) | h
        · omega
        · exact h
        · omega
      · rw [HNw.out] at hi
        omega
#print axioms others_any
end Go.Proofs.YtfclmjfbcmjfbaaDoor
