/-
  What is got: a read, lists of reads: what the calls do.
-/
import Derived.Test.YtmicmbjbclkbjaaDoorRcA
namespace Go.Proofs.YtmicmbjbclkbjaaDoor
open Go.RowKit
/-- What is told of a read that was got. -/
def RzPost (w0 : World) (Bb Br Bt : Nat) (p : Pa Rp) (s : Option (List UInt8)) (w : World) (e : Ending) (w' : World) : Prop := ∃ x, e = .returned (.agg (XC x).toArray) ∧ OwnG PE w' w.heap.size 43 (xv x) x.ps ∧ SrcAt w0 w' Bb Br Bt (aft p s) ∧ (∀ y z, s.bind p = some (y, z) → plR x = y) ∧ Chg (GF Bb Br) w w'
/-- What is told of a list of reads that was got. -/
def LrPost (w0 : World) (Bb Br Bt m : Nat) (p : Pa Rp) (s : Option (List UInt8)) (w : World) (e : Ending) (w' : World) : Prop := ∃ v L, e = .returned v ∧ OwnR9 w' w.heap.size v L ∧ L.length ≤ m ∧ SrcAt w0 w' Bb Br Bt (aft (pL m p) s) ∧ (∀ ys z, s.bind (pL m p) = some (ys, z) → L.map plR = ys) ∧ Chg (GF Bb Br) w w'
theorem build_fk (b : Bool) (k : ByteArray) : ∀ W : World, (Instr.build 46 #[(0, .bool b), (1, .string k)]).run Tryd.prog W = .ok (.agg #[.bool b, .string k, .string ⟨#[]⟩, .slice none 0 0]) W := fun W => by kernel_rfl
theorem zeroXr (W : World) : (zeroValue 46).run Tryd.prog W = .ok (.agg #[.bool false, .string ⟨#[]⟩, .string ⟨#[]⟩, .slice none 0 0]) W := by kernel_rfl
set_option linter.unusedSimpArgs false in
set_option maxHeartbeats 4000000 in
set_option maxRecDepth 100000 in
theorem sread_any {w0 w : World} {Bb Br Bt : Nat} {s : Option (List UInt8)} (h : SrcAt w0 w Bb Br Bt s) :
    Calls Tryd.prog 56 #[.agg (SC6 Bb Br Bt).toArray] w fun e w' => RzPost w0 Bb Br Bt pR s w e w' := by
  obtain ⟨N, HN⟩ : ∃ N, Hid (w.heap.size = N) := ⟨_, rfl⟩
  obtain ⟨w1, hw1⟩ : ∃ y, y = (w.alloc (.cells (SC6 Bb Br Bt).toArray 55 (0, 0))).alloc (.cells #[.bool false, .string ⟨#[]⟩, .string ⟨#[]⟩, .slice none 0 0] 46 (0, 0)) := ⟨_, rfl⟩
  obtain ⟨bn, bz, l1⟩ := newB2 (A := SC6 Bb Br Bt) (B := [.bool false, .string ⟨#[]⟩, .string ⟨#[]⟩, .slice none 0 0]) HN hw1
  have HW := hide hw1
  have BN := bn
  have BZ := bz
  have S0 := hide (h.kept l1.out)
  have h0s : Hid (w0.heap.size ≤ w.heap.size) := (show _ ≤ _ from h.base.size)
  have HNE := hide (S0.out.neT BN.out (by decide) (by decide))
  have HNZ := hide (S0.out.neT BZ.out (by decide) (by decide))
  have HLT : Hid (Bb < w1.heap.size ∧ Br < w1.heap.size) := (show _ ∧ _ from S0.out.lt)
  have HN1 : Hid (w1.heap.size = N + 2) := (show _ = _ by rw [hw1]; simp [HN.out])
  obtain ⟨d, Hd⟩ : ∃ z, Hid (got pF false s = z) := ⟨_, rfl⟩
  obtain ⟨s1, Hs1⟩ : ∃ z, Hid (aft pF s = z) := ⟨_, rfl⟩
  obtain ⟨k, Hk⟩ : ∃ z, Hid (got (pS 64) em s1 = z) := ⟨_, rfl⟩
  obtain ⟨s2, Hs2⟩ : ∃ z, Hid (aft (pS 64) s1 = z) := ⟨_, rfl⟩
  have C1 : Hid (∀ W, SrcAt w0 W Bb Br Bt s → Calls Tryd.prog 49 #[PT Bb, PT Bt] W fun e w' => e = .returned (.bool d) ∧ SrcAt w0 w' Bb Br Bt s1 ∧ Chg (GF Bb Br) W w') := (show ∀ W, _ from fun W hW => by rw [← Hd.out, ← Hs1.out]; exact sflag_any hW)
  have C2 : Hid (∀ W, SrcAt w0 W Bb Br Bt s1 → Calls Tryd.prog 51 #[.int .i64 64, PT Bb, PT Bt] W fun e w' => e = .returned (.string k) ∧ SrcAt w0 w' Bb Br Bt s2 ∧ Chg (GF Bb Br) W w') := (show ∀ W, _ from fun W hW => by rw [← Hk.out, ← Hs2.out]; exact sstr_any hW 64 (by decide))
  have HPP : Hid (aft pR s = aft (pL 200 pP) (aft (pT d 64) s2) ∧ ∀ y z, s.bind pR = some (y, z) → ∃ ps, (aft (pT d 64) s2).bind (pL 200 pP) = some (ps, z) ∧ y = (d, k, got (pT d 64) em s2, ps)) := (show _ ∧ _ from by
    have hP : ∀ l, pR l = (pF l).bind fun q => pR1 q.1 q.2 := fun l => rfl
    have hP1 : ∀ l, pR1 d l = (pS 64 l).bind fun q => pR2 d q.1 q.2 := fun l => rfl
    have hP2 : ∀ l, pR2 d k l = (pT d 64 l).bind fun q => pR3 d k q.1 q.2 := fun l => rfl
    refine ⟨?_, fun y z hy => ?_⟩
    · rw [aft_bind (p := pF) (f := pR1) hP false s, Hd.out, Hs1.out, aft_bind (p := pS 64) (f := pR2 d) hP1 em s1, Hk.out, Hs2.out, aft_bind (p := pT d 64) (f := pR3 d k) hP2 em s2]
      exact aft_map (P := pR3 d k _) (g := fun t => ((d, k, got (pT d 64) em s2, t) : Rp)) (p := pL 200 pP) (fun _ => rfl) _
    · have h1 := val_bind (p := pF) (f := pR1) hP false hy
      rw [Hd.out, Hs1.out] at h1
      have h2 := val_bind (p := pS 64) (f := pR2 d) hP1 em h1
      rw [Hk.out, Hs2.out] at h2
      have h3 := val_bind (p := pT d 64) (f := pR3 d k) hP2 em h2
      obtain ⟨g1, g2⟩ := val_map (P := pR3 d k _) (g := fun t => ((d, k, got (pT d 64) em s2, t) : Rp)) (p := pL 200 pP) (fun _ => rfl) [] h3
      refine ⟨_, ?_, g1⟩
      cases hq : aft (pT d 64) s2 with
      | none => rw [hq] at g2; cases g2
      | some l9 =>
        rw [hq] at g2
        cases hv : pL 200 pP l9 with
        | none => rw [aft_no hv] at g2; cases g2
        | some q9 =>
          obtain ⟨x9, z9⟩ := q9
          rw [aft_some hv] at g2
          rw [got_some hv, ← Option.some.inj g2]
          exact hv)
  obtain ⟨SB, HSB⟩ : ∃ f : Nat → Option (List UInt8), f = fun b => if b = 0 then s else if b = 1 then s1 else s2 := ⟨_, rfl⟩
  have HB0 : SB 0 = s := by rw [HSB]; rfl
  have HB1 : SB 1 = s1 := by rw [HSB]; rfl
  have HB2 : SB 2 = s2 := by rw [HSB]; rfl
  have hz := zeroXr
  clear hw1 bn bz HSB
  go_enter Tryd.func56, Tryd.ntmps56
  go_upto_region 1 with fail
  change Code.wp _ _ _ _ ((w.alloc (.cells (SC6 Bb Br Bt).toArray 55 (0, 0))).alloc (.cells #[.bool false, .string ⟨#[]⟩, .string ⟨#[]⟩, .slice none 0 0] 46 (0, 0)))
  rw [← HW.out, HN.out]
  refine wp_region_chainR (R := Chg (GF Bb Br)) Tryd.mixed (KC (fun i_ => match i_ with | 0 => .val (.pointer (some ⟨N, 1, none⟩)) | 1 => .val (.func (.func 49) #[] #[PT Bb, PT Bt]) | 2 => .val (.bool d) | 3 => .val (.pointer (some ⟨N, 2, none⟩)) | 4 => .val (.func (.func 51) #[] #[PT Bb, PT Bt]) | 5 => .val (.string k) | 6 => .val (.agg #[.bool d, .string k, .string ⟨#[]⟩, .slice none 0 0]) | 7 => .of (relChg _) (fun W x => ∃ B, x = PT B ∧ N + 2 ≤ B ∧ Blk W B 46 [.bool false, .string ⟨#[]⟩, .string ⟨#[]⟩, .slice none 0 0]) (fun _ _ _ hr ⟨B, e, h1, h2⟩ => ⟨B, e, h1, h2.chg hr (fun e => by have := HLT.out; have := HN1.out; rcases e with e | e <;> omega)⟩) | _ => .free)) (fun b_ w_ => SrcAt w0 w_ Bb Br Bt (SB b_) ∧ Chg (GF Bb Br) w1 w_) [2, 5] 21 rfl (by decide +kernel) 8 (by decide) (by decide) (by decide) (by decide +kernel) (by decide +kernel) (KC_mono _) (KC_monoR (fun i_ h_ => (by split <;> first | rfl | exact absurd rfl h_))) (fun b_ w_ w_2 hg h => ⟨h.1.kept hg, h.2.trans (Chg.of_below hg)⟩) (⟨by rw [HB0]; exact S0.out, Chg.refl _ _⟩) ?_ ?_
  · refine AllFrom.cons ⟨rfl, fun _ a' b' w' hC hk hd Q => ?_, fun j_ hj_ => (pvR_no (by decide) j_ hj_).elim⟩ (AllFrom.cons ⟨rfl, fun _ a' b' w' hC hk hd Q => ?_, fun j_ hj_ => (pvR_no (by decide) j_ hj_).elim⟩ (AllFrom.cons ⟨rfl, fun h => absurd (by decide) h, fun j_ hj_ a' w' hC hk hd Q => ?_⟩ (AllFrom.cons ⟨rfl, fun _ a' b' w' hC hk hd Q => ?_, fun j_ hj_ => (pvR_no (by decide) j_ hj_).elim⟩ (AllFrom.cons ⟨rfl, fun _ a' b' w' hC hk hd Q => ?_, fun j_ hj_ => (pvR_no (by decide) j_ hj_).elim⟩ (AllFrom.cons ⟨rfl, fun h => absurd (by decide) h, fun j_ hj_ a' w' hC hk hd Q => ?_⟩ (AllFrom.cons ⟨rfl, fun _ a' b' w' hC hk hd Q => ?_, fun j_ hj_ => (pvR_no (by decide) j_ hj_).elim⟩ (AllFrom.cons ⟨rfl, fun _ a' b' w' hC hk hd Q => ?_, fun j_ hj_ => (pvR_no (by decide) j_ hj_).elim⟩ AllFrom.nil)))))))
    · skip
      have e1 : a'.eval (.tmp 1) = .pointer (some ⟨N, 0, none⟩) := hk.at 1 (by decide +kernel)
      clear hd hk
      exact wp_value (.pointer (some ⟨N, 1, none⟩)) (by simp only [execOp, e1]; go_simp) (KC_mkv rfl rfl)
    · skip
      have e4 : a'.eval (.tmp 4) = .pointer (some ⟨N, 1, none⟩) := KC_val (hd.val 0 4 (by decide +kernel)) rfl
      have hc := (BN.out.chg hC.2 HNE.out).cell (j := 1) rfl
      clear hd hk
      exact wp_value (.func (.func 49) #[] #[PT Bb, PT Bt]) (by simp only [execOp, e4]; go_simp) (KC_mkv rfl rfl)
    · skip
      obtain rfl : j_ = 0 := pvR_at (by decide) rfl hj_
      have e5 : a'.eval (.tmp 5) = .func (.func 49) #[] #[PT Bb, PT Bt] := KC_val (hd.val 1 5 (by decide +kernel)) rfl
      have hc0 := hC.1
      rw [HB0] at hc0
      refine wp_callP 49 _ (run_enterV 49 _ _ 5 _ rfl e5 (by kernel_rfl)) ?_
      simp only [List.map_toArray, List.map_cons, List.map_nil, List.append_toArray, List.cons_append, List.nil_append, Act.eval]
      refine (C1.out w' hc0).mono ?_
      rintro e w5 ⟨rfl, s5, c5⟩
      rw [← HB1] at s5
      exact ⟨_, rfl, KC_mkv rfl rfl, c5, s5, hC.2.trans c5⟩
    · skip
      have e1 : a'.eval (.tmp 1) = .pointer (some ⟨N, 0, none⟩) := hk.at 1 (by decide +kernel)
      clear hd hk
      exact wp_value (.pointer (some ⟨N, 2, none⟩)) (by simp only [execOp, e1]; go_simp) (KC_mkv rfl rfl)
    · skip
      have e7 : a'.eval (.tmp 7) = .pointer (some ⟨N, 2, none⟩) := KC_val (hd.val 3 7 (by decide +kernel)) rfl
      have hc := (BN.out.chg hC.2 HNE.out).cell (j := 2) rfl
      clear hd hk
      exact wp_value (.func (.func 51) #[] #[PT Bb, PT Bt]) (by simp only [execOp, e7]; go_simp) (KC_mkv rfl rfl)
    · skip
      obtain rfl : j_ = 1 := pvR_at (by decide) rfl hj_
      have e8 : a'.eval (.tmp 8) = .func (.func 51) #[] #[PT Bb, PT Bt] := KC_val (hd.val 4 8 (by decide +kernel)) rfl
      have hc0 := hC.1
      rw [HB1] at hc0
      refine wp_callP 51 _ (run_enterV 51 _ _ 8 _ rfl e8 (by kernel_rfl)) ?_
      simp only [List.map_toArray, List.map_cons, List.map_nil, List.append_toArray, List.cons_append, List.nil_append, Act.eval]
      refine (C2.out w' hc0).mono ?_
      rintro e w5 ⟨rfl, s5, c5⟩
      rw [← HB2] at s5
      exact ⟨_, rfl, KC_mkv rfl rfl, c5, s5, hC.2.trans c5⟩
    · skip
      have e6 : a'.eval (.tmp 6) = .bool d := KC_val (hd.val 2 6 (by decide +kernel)) rfl
      have e9 : a'.eval (.tmp 9) = .string k := KC_val (hd.val 5 9 (by decide +kernel)) rfl
      clear hd hk
      exact wp_value (.agg #[.bool d, .string k, .string ⟨#[]⟩, .slice none 0 0]) (by simp only [execOp, List.map_toArray, List.map_cons, List.map_nil, e6, e9, Sem.run_bind, Sem.run_pure]; exact congrArg (fun r => Result.andThen r _) (build_fk d k _)) (KC_mkv rfl rfl)
    · skip
      have hz := zeroXr w'
      have hsz : N + 2 ≤ w'.heap.size := by have := hC.2.size; have := HN1.out; omega
      clear hd hk
      exact wp_grow (.pointer (some ⟨w'.heap.size, 0, none⟩)) _ (by simp only [execOp]; go_simp) ((Below.refl _ _).alloc (Nat.le_refl _) _) (KC_mko rfl ⟨_, rfl, hsz, Blk.new _ _ _⟩)
  · intro a' w2 hsz hdf hk hall hC
    have S2 := hide hC.1
    have L2 := hide hC.2
    clear hC
    have e4 : a'.eval (.tmp 4) = .pointer (some ⟨N, 1, none⟩) := KC_val (hall 0 _ 4 (by decide) rfl rfl) rfl
    have e5 : a'.eval (.tmp 5) = .func (.func 49) #[] #[PT Bb, PT Bt] := KC_val (hall 1 _ 5 (by decide) rfl rfl) rfl
    have e6 : a'.eval (.tmp 6) = .bool d := KC_val (hall 2 _ 6 (by decide) rfl rfl) rfl
    have e7 : a'.eval (.tmp 7) = .pointer (some ⟨N, 2, none⟩) := KC_val (hall 3 _ 7 (by decide) rfl rfl) rfl
    have e8 : a'.eval (.tmp 8) = .func (.func 51) #[] #[PT Bb, PT Bt] := KC_val (hall 4 _ 8 (by decide) rfl rfl) rfl
    have e9 : a'.eval (.tmp 9) = .string k := KC_val (hall 5 _ 9 (by decide) rfl rfl) rfl
    have e10 : a'.eval (.tmp 10) = .agg #[.bool d, .string k, .string ⟨#[]⟩, .slice none 0 0] := KC_val (hall 6 _ 10 (by decide) rfl rfl) rfl
    have r3 := KC_of (hall 7 _ 3 (by decide) rfl rfl) rfl
    obtain ⟨x3, hx3⟩ : ∃ v, a'.eval (.tmp 3) = v := ⟨_, rfl⟩
    rw [hx3] at r3
    have ha := act_puts 21 rfl hsz hdf hk [4, 5, 6, 7, 8, 9, 10, 3] (by decide +kernel)
    simp only [puts, List.foldl_cons, List.foldl_nil, e4, e5, e6, e7, e8, e9, e10, hx3] at ha
    simp only [Act.put, List.setIfInBounds_toArray, List.set_cons_succ, List.set_cons_zero] at ha
    clear hall hk hsz hdf e4 e5 e6 e7 e8 e9 e10 hx3
    subst ha
    obtain ⟨G, e3, hG, hbG⟩ := r3
    subst e3
    have HG9 := hide hG
    have HXO1 : ∀ u ∈ ([.bool d, .string k, .string ⟨#[]⟩, .slice none 0 0] : List Value), u.oneCell' = true := XC_one ⟨d, k, em, [], none, 0⟩
    refine wpSeq_store_blk rfl 46 _ _ rfl G _ [.bool d, .string k, .string ⟨#[]⟩, .slice none 0 0] 46 rfl rfl hbG rfl Tryd.size46 HXO1 ?_
    intro w3 hb3 hu3
    have C3 : Hid (Chg (fun j => j = G) w2 w3) := (show Chg _ _ _ from Chg.of_but hu3 rfl)
    have S2' : Hid (SrcAt w0 w2 Bb Br Bt s2) := (show SrcAt _ _ _ _ _ _ from by
      have h1 := S2.out
      rwa [show ([2, 5] : List Nat).length = 2 from rfl, HB2] at h1)
    have S3 : Hid (SrcAt w0 w3 Bb Br Bt s2) := (show SrcAt _ _ _ _ _ _ from S2'.out.other C3.out hbG (by decide) (by decide) (by decide) (by have := HG9.out; have := S0.out.base.size; have := HN.out; have := h0s.out; omega))
    have BZ3 : Hid (Blk w3 (N + 1) 46 [.bool false, .string ⟨#[]⟩, .string ⟨#[]⟩, .slice none 0 0]) := (show Blk _ _ _ _ from (BZ.out.chg L2.out HNZ.out).chg C3.out (by omega))
    have BN3 : Hid (Blk w3 N 55 (SC6 Bb Br Bt)) := (show Blk _ _ _ _ from (BN.out.chg L2.out HNE.out).chg C3.out (by omega))
    have B3 := hide hb3
    have K3 : Hid (Chg (GF Bb Br) w w3) := (show Chg _ _ _ from ((Chg.of_below l1.out).trans L2.out).then C3.out (fun i hi e => absurd hi (by have := HN.out; omega)))
    simp only [wpSeq]
    clear hb3 hu3 hG hbG S2 S2' HXO1
    have d0 := B3.out.cell (j := 0) rfl
    try simp only at d0
    cases d with
    | true =>
      have hpt : pT true 64 = pS 64 := by funext l; rfl
      have CS := hide (sstr_any S3.out 64 (by decide))
      obtain ⟨t, Ht⟩ : ∃ z, Hid (got (pS 64) em s2 = z) := ⟨_, rfl⟩
      obtain ⟨s3, Hs3⟩ : ∃ z, Hid (aft (pS 64) s2 = z) := ⟨_, rfl⟩
      have HFIN : Hid (aft pR s = aft (pL 200 pP) s3 ∧ ∀ y z, s.bind pR = some (y, z) → ∃ ps, s3.bind (pL 200 pP) = some (ps, z) ∧ y = (true, k, t, ps)) := (show _ ∧ _ from by
        have h1 := HPP.out
        rwa [hpt, Ht.out, Hs3.out] at h1)
      rw [Ht.out, Hs3.out] at CS
      have d1 := BN3.out.cell (j := 2) rfl
      clear hpt
      go_wp2_with fail
      refine CS.out.mono ?_
      rintro e w4 ⟨rfl, s4, c4⟩
      have S4 := hide s4
      have C4 := hide c4
      have B4 : Hid (Blk w4 G 46 [.bool true, .string k, .string ⟨#[]⟩, .slice none 0 0]) := (show Blk _ _ _ _ from B3.out.chg c4 (S3.out.neT B3.out (by decide) (by decide)))
      have BZ4 : Hid (Blk w4 (N + 1) 46 [.bool false, .string ⟨#[]⟩, .string ⟨#[]⟩, .slice none 0 0]) := (show Blk _ _ _ _ from BZ3.out.chg c4 (S3.out.neT BZ3.out (by decide) (by decide)))
      have BN4 : Hid (Blk w4 N 55 (SC6 Bb Br Bt)) := (show Blk _ _ _ _ from BN3.out.chg c4 (S3.out.neT BN3.out (by decide) (by decide)))
      clear s4 c4 CS d0 d1
      have hf := B4.out.frozen 2
      have hc9 := B4.out.cell (j := 2) rfl
      obtain ⟨w5, hw5⟩ : ∃ z, z = w4.setCell ⟨G, 2, none⟩ (.string t) := ⟨_, rfl⟩
      have B5 : Hid (Blk w5 G 46 [.bool true, .string k, .string t, .slice none 0 0]) := (show Blk _ _ _ _ by rw [hw5]; exact B4.out.set 2 (.string t))
      have C5 : Hid (Chg (fun j => j = G) w4 w5) := (show Chg _ _ _ by rw [hw5]; exact Chg.of_but (But.setCell G w4 2 (.string t)) rfl)
      have HW5 := hide hw5
      clear hw5
      go_upto_region 4 with fail
      try simp only [Act.put]
      change Code.wp _ _ _ _ (w4.setCell ⟨G, 2, none⟩ (.string t))
      rw [← HW5.out]
      have S5 : Hid (SrcAt w0 w5 Bb Br Bt s3) := (show SrcAt _ _ _ _ _ _ from S4.out.other C5.out B4.out (by decide) (by decide) (by decide) (by have := HG9.out; have := S0.out.base.size; have := HN.out; have := h0s.out; omega))
      have BZ5 : Hid (Blk w5 (N + 1) 46 [.bool false, .string ⟨#[]⟩, .string ⟨#[]⟩, .slice none 0 0]) := (show Blk _ _ _ _ from BZ4.out.chg C5.out (by have := HG9.out; omega))
      have BN5 : Hid (Blk w5 N 55 (SC6 Bb Br Bt)) := (show Blk _ _ _ _ from BN4.out.chg C5.out (by have := HG9.out; omega))
      have K5 : Hid (Chg (GF Bb Br) w w5) := (show Chg _ _ _ from (K3.out.trans C4.out).then C5.out (fun i hi e => absurd hi (by have := HN.out; have := HG9.out; omega)))
      clear hf hc9
      have hfin : Hid (aft pR s = aft (pL 200 pP) s3 ∧ ∀ y z, s.bind pR = some (y, z) → ∃ ps, Option.bind s3 (pL 200 pP) = some (ps, z) ∧ y = (true, k, t, ps)) := HFIN
      have CL : Hid (Calls Tryd.prog 57 #[.agg (SC6 Bb Br Bt).toArray, .int .u64 200, .func (.func 73) #[] #[]] w5 fun e w' => LsPost w0 Bb Br Bt 200 pP s3 w5 e w') := (show Calls _ _ _ _ _ from slistP_any S5.out 200 (by decide))
      have rk := BN5.out.range0
      go_wp2_with (first
        | (refine wpList_load_mid rfl 55 _ rfl N 0 rfl (SC6 Bb Br Bt) _ rk Tryd.underlying55 rfl Tryd.size55 ?_)
        | fail)
      refine CL.out.mono ?_
      rintro e w6 ⟨v6, L6, rfl, o6, n6, s6, y6, c6⟩
      obtain ⟨p6, q6, rfl⟩ := o6.form
      have O6 := hide o6
      have S6 := hide s6
      have Y6 := hide y6
      have C6 := hide c6
      have B6 : Hid (Blk w6 G 46 [.bool true, .string k, .string t, .slice none 0 0]) := (show Blk _ _ _ _ from B5.out.chg c6 (S5.out.neT B5.out (by decide) (by decide)))
      have BZ6 : Hid (Blk w6 (N + 1) 46 [.bool false, .string ⟨#[]⟩, .string ⟨#[]⟩, .slice none 0 0]) := (show Blk _ _ _ _ from BZ5.out.chg c6 (S5.out.neT BZ5.out (by decide) (by decide)))
      have HWS : Hid (w.heap.size ≤ w5.heap.size) := (show _ ≤ _ from K5.out.size)
      obtain ⟨x, HX⟩ : ∃ x : Rz, Hid (x = ⟨true, k, t, L6, p6, q6⟩) := ⟨_, rfl⟩
      have HXC : Hid (XC x = [.bool true, .string k, .string t, .slice p6 L6.length q6]) := (show _ = _ by rw [HX.out]; rfl)
      have HXV : Hid (xv x = .slice p6 L6.length q6 ∧ x.ps = L6 ∧ plR x = (true, k, t, L6)) := (show _ ∧ _ ∧ _ by rw [HX.out]; exact ⟨rfl, rfl, rfl⟩)
      obtain ⟨n9, Hn9⟩ : ∃ z, Hid (L6.length = z) := ⟨_, rfl⟩
      rw [Hn9.out] at HXC HXV O6 ⊢
      have hf := B6.out.frozen 3
      have hc9 := B6.out.cell (j := 3) rfl
      obtain ⟨w7, hw7⟩ : ∃ z, z = w6.setCell ⟨G, 3, none⟩ (.slice p6 n9 q6) := ⟨_, rfl⟩
      have B7 : Hid (Blk w7 G 46 (XC x)) := (show Blk _ _ _ _ by rw [hw7, HXC.out]; exact B6.out.set 3 (.slice p6 n9 q6))
      have C7 : Hid (Chg (fun j => j = G) w6 w7) := (show Chg _ _ _ by rw [hw7]; exact Chg.of_but (But.setCell G w6 3 (.slice p6 n9 q6)) rfl)
      have HW7 := hide hw7
      clear hw7 o6 n6 s6 y6 c6 CL rk
      go_upto_region 5 with fail
      try simp only [Act.put]
      change Code.wp _ _ _ _ (w6.setCell ⟨G, 3, none⟩ (.slice p6 n9 q6))
      rw [← HW7.out]
      have S7 : Hid (SrcAt w0 w7 Bb Br Bt (aft (pL 200 pP) s3)) := (show SrcAt _ _ _ _ _ _ from S6.out.other C7.out B6.out (by decide) (by decide) (by decide) (by have := HG9.out; have := S0.out.base.size; have := HN.out; have := h0s.out; omega))
      have BZ7 : Hid (Blk w7 (N + 1) 46 [.bool false, .string ⟨#[]⟩, .string ⟨#[]⟩, .slice none 0 0]) := (show Blk _ _ _ _ from BZ6.out.chg C7.out (by have := HG9.out; omega))
      have O7 : Hid (OwnG PE w7 w.heap.size 43 (.slice p6 n9 q6) L6) := (show OwnG _ _ _ _ _ _ from (O6.out.chg C7.out (fun j hj e => by
        obtain ⟨_, _, cu, h5⟩ := O6.out.block hj
        exact cells_ne h5 B6.out (by decide) e)).mono HWS.out)
      have rk := B7.out.range0
      clear hf hc9
      go_wp2_with (first
        | (refine wpList_load_mid rfl 46 _ rfl G 0 rfl (XC x) _ rk Tryd.underlying46 rfl Tryd.size46 ?_)
        | (refine wpList_store_blk rfl 46 (.tmp 2) (.tmp 20) rfl (N + 1) _ (XC x) 46 rfl rfl BZ7.out rfl Tryd.size46 (XC_one _) ?_; intro w8 hb8 hu8)
        | fail)
      have C8 : Chg (fun j => j = N + 1) w7 w8 := Chg.of_but hu8 rfl
      refine bodyPost_ret (ret_readc rfl _ _ (N + 1) x rfl hb8) rfl (show RzPost _ _ _ _ _ _ _ _ _ from ⟨x, rfl, ?_, ?_, ?_, ?_⟩)
      · rw [HXV.out.1, HXV.out.2.1]
        exact O7.out.chg C8 (fun j hj e => by
          obtain ⟨_, _, cu, h5⟩ := O7.out.block hj
          exact cells_ne h5 BZ7.out (by decide) e)
      · rw [hfin.out.1]
        exact S7.out.other C8 BZ7.out (by decide) (by decide) (by decide) (by have := S0.out.base.size; have := HN.out; have := h0s.out; omega)
      · intro y z hy
        obtain ⟨ps, h1, h2⟩ := hfin.out.2 y z hy
        rw [HXV.out.2.2, h2, Y6.out ps z h1]
      · exact ((K5.out.trans C6.out).then C7.out (fun i hi e => absurd hi (by have := HN.out; have := HG9.out; omega))).then C8 (fun i hi e => absurd hi (by have := HN.out; omega))
    | false =>
      have HFIN : Hid (aft pR s = aft (pL 200 pP) s2 ∧ ∀ y z, s.bind pR = some (y, z) → ∃ ps, s2.bind (pL 200 pP) = some (ps, z) ∧ y = (false, k, ⟨#[]⟩, ps)) := (show _ ∧ _ from by
        have h1 := HPP.out
        rw [show aft (pT false 64) s2 = s2 from by cases s2 <;> rfl, show got (pT false 64) em s2 = em from by cases s2 <;> rfl] at h1
        exact h1)
      have hfin : Hid (aft pR s = aft (pL 200 pP) s2 ∧ ∀ y z, s.bind pR = some (y, z) → ∃ ps, Option.bind s2 (pL 200 pP) = some (ps, z) ∧ y = (false, k, ⟨#[]⟩, ps)) := HFIN
      have CL : Hid (Calls Tryd.prog 57 #[.agg (SC6 Bb Br Bt).toArray, .int .u64 200, .func (.func 73) #[] #[]] w3 fun e w' => LsPost w0 Bb Br Bt 200 pP s2 w3 e w') := (show Calls _ _ _ _ _ from slistP_any S3.out 200 (by decide))
      have rk := BN3.out.range0
      go_wp2_with (first
        | (refine wpList_load_mid rfl 55 _ rfl N 0 rfl (SC6 Bb Br Bt) _ rk Tryd.underlying55 rfl Tryd.size55 ?_)
        | fail)
      refine CL.out.mono ?_
      rintro e w6 ⟨v6, L6, rfl, o6, n6, s6, y6, c6⟩
      obtain ⟨p6, q6, rfl⟩ := o6.form
      have O6 := hide o6
      have S6 := hide s6
      have Y6 := hide y6
      have C6 := hide c6
      have B6 : Hid (Blk w6 G 46 [.bool false, .string k, .string ⟨#[]⟩, .slice none 0 0]) := (show Blk _ _ _ _ from B3.out.chg c6 (S3.out.neT B3.out (by decide) (by decide)))
      have BZ6 : Hid (Blk w6 (N + 1) 46 [.bool false, .string ⟨#[]⟩, .string ⟨#[]⟩, .slice none 0 0]) := (show Blk _ _ _ _ from BZ3.out.chg c6 (S3.out.neT BZ3.out (by decide) (by decide)))
      have HWS : Hid (w.heap.size ≤ w3.heap.size) := (show _ ≤ _ from K3.out.size)
      obtain ⟨x, HX⟩ : ∃ x : Rz, Hid (x = ⟨false, k, ⟨#[]⟩, L6, p6, q6⟩) := ⟨_, rfl⟩
      have HXC : Hid (XC x = [.bool false, .string k, .string ⟨#[]⟩, .slice p6 L6.length q6]) := (show _ = _ by rw [HX.out]; rfl)
      have HXV : Hid (xv x = .slice p6 L6.length q6 ∧ x.ps = L6 ∧ plR x = (false, k, ⟨#[]⟩, L6)) := (show _ ∧ _ ∧ _ by rw [HX.out]; exact ⟨rfl, rfl, rfl⟩)
      obtain ⟨n9, Hn9⟩ : ∃ z, Hid (L6.length = z) := ⟨_, rfl⟩
      rw [Hn9.out] at HXC HXV O6 ⊢
      have hf := B6.out.frozen 3
      have hc9 := B6.out.cell (j := 3) rfl
      obtain ⟨w7, hw7⟩ : ∃ z, z = w6.setCell ⟨G, 3, none⟩ (.slice p6 n9 q6) := ⟨_, rfl⟩
      have B7 : Hid (Blk w7 G 46 (XC x)) := (show Blk _ _ _ _ by rw [hw7, HXC.out]; exact B6.out.set 3 (.slice p6 n9 q6))
      have C7 : Hid (Chg (fun j => j = G) w6 w7) := (show Chg _ _ _ by rw [hw7]; exact Chg.of_but (But.setCell G w6 3 (.slice p6 n9 q6)) rfl)
      have HW7 := hide hw7
      clear hw7 o6 n6 s6 y6 c6 CL rk
      go_upto_region 5 with fail
      try simp only [Act.put]
      change Code.wp _ _ _ _ (w6.setCell ⟨G, 3, none⟩ (.slice p6 n9 q6))
      rw [← HW7.out]
      have S7 : Hid (SrcAt w0 w7 Bb Br Bt (aft (pL 200 pP) s2)) := (show SrcAt _ _ _ _ _ _ from S6.out.other C7.out B6.out (by decide) (by decide) (by decide) (by have := HG9.out; have := S0.out.base.size; have := HN.out; have := h0s.out; omega))
      have BZ7 : Hid (Blk w7 (N + 1) 46 [.bool false, .string ⟨#[]⟩, .string ⟨#[]⟩, .slice none 0 0]) := (show Blk _ _ _ _ from BZ6.out.chg C7.out (by have := HG9.out; omega))
      have O7 : Hid (OwnG PE w7 w.heap.size 43 (.slice p6 n9 q6) L6) := (show OwnG _ _ _ _ _ _ from (O6.out.chg C7.out (fun j hj e => by
        obtain ⟨_, _, cu, h5⟩ := O6.out.block hj
        exact cells_ne h5 B6.out (by decide) e)).mono HWS.out)
      have rk := B7.out.range0
      clear hf hc9
      go_wp2_with (first
        | (refine wpList_load_mid rfl 46 _ rfl G 0 rfl (XC x) _ rk Tryd.underlying46 rfl Tryd.size46 ?_)
        | (refine wpList_store_blk rfl 46 (.tmp 2) (.tmp 20) rfl (N + 1) _ (XC x) 46 rfl rfl BZ7.out rfl Tryd.size46 (XC_one _) ?_; intro w8 hb8 hu8)
        | fail)
      have C8 : Chg (fun j => j = N + 1) w7 w8 := Chg.of_but hu8 rfl
      refine bodyPost_ret (ret_readc rfl _ _ (N + 1) x rfl hb8) rfl (show RzPost _ _ _ _ _ _ _ _ _ from ⟨x, rfl, ?_, ?_, ?_, ?_⟩)
      · rw [HXV.out.1, HXV.out.2.1]
        exact O7.out.chg C8 (fun j hj e => by
          obtain ⟨_, _, cu, h5⟩ := O7.out.block hj
          exact cells_ne h5 BZ7.out (by decide) e)
      · rw [hfin.out.1]
        exact S7.out.other C8 BZ7.out (by decide) (by decide) (by decide) (by have := S0.out.base.size; have := HN.out; have := h0s.out; omega)
      · intro y z hy
        obtain ⟨ps, h1, h2⟩ := hfin.out.2 y z hy
        rw [HXV.out.2.2, h2, Y6.out ps z h1]
      · exact ((K3.out.trans C6.out).then C7.out (fun i hi e => absurd hi (by have := HN.out; have := HG9.out; omega))).then C8 (fun i hi e => absurd hi (by have := HN.out; omega))
#print axioms sread_any
set_option maxHeartbeats 2000000 in
set_option maxRecDepth 100000 in
theorem slistR_any {w0 w : World} {Bb Br Bt : Nat} {s : Option (List UInt8)} (h : SrcAt w0 w Bb Br Bt s) (m : Nat) (hm : m ≤ 1000) :
    Calls Tryd.prog 55 #[.agg (SC6 Bb Br Bt).toArray, .int .u64 (m : Int), .func (.func 56) #[] #[]] w fun e w' => LrPost w0 Bb Br Bt m pR s w e w' := by
  obtain ⟨M, HM⟩ : ∃ N, Hid (w.heap.size = N) := ⟨_, rfl⟩
  obtain ⟨w1, hw1⟩ : ∃ y, y = w.alloc (.cells (SC6 Bb Br Bt).toArray 55 (0, 0)) := ⟨_, rfl⟩
  obtain ⟨bn, l1⟩ := newB (A := SC6 Bb Br Bt) HM hw1
  have HW := hide hw1
  have S1 := hide (h.kept l1.out)
  have HLT : Hid (Bb < M ∧ Br < M) := (show _ ∧ _ by rw [← HM.out]; exact h.lt)
  have h0M : Hid (w0.heap.size ≤ M) := (show _ ≤ _ by rw [← HM.out]; exact h.base.size)
  have HS1 : Hid (w1.heap.size = M + 1) := (show _ = _ by rw [hw1, World.size_alloc, HM.out])
  have hM1 : Hid (M ≤ w1.heap.size) := (show _ ≤ _ from Nat.le_of_lt bn.out.lt)
  have HNE := hide (S1.out.neT bn.out (by decide) (by decide))
  obtain ⟨n, Hn⟩ : ∃ z, Hid (got (pN m) 0 s = z) := ⟨_, rfl⟩
  obtain ⟨s1, Hs1⟩ : ∃ z, Hid (aft (pN m) s = z) := ⟨_, rfl⟩
  have hnm : n ≤ m := by rw [← Hn.out]; exact got_le m s
  have CN := hide (snum_any S1.out m (by omega))
  rw [Hn.out, Hs1.out] at CN
  have HPA : Hid (aft (pK pR n) s1 = aft (pL m pR) s) := (show _ = _ by rw [pL_aft, Hn.out, Hs1.out])
  have HPV : Hid (∀ ys z, s.bind (pL m pR) = some (ys, z) → s1.bind (pK pR n) = some (ys, z)) := (show ∀ ys z, _ from fun ys z hy => by have := pL_val hy; rwa [Hn.out, Hs1.out] at this)
  have d0 := bn.out.cell (j := 0) rfl
  clear h hw1
  go_enter Tryd.func55, Tryd.ntmps55
  go_upto_region 1 with fail
  change Code.wp _ _ _ _ (w.alloc (.cells (SC6 Bb Br Bt).toArray 55 (0, 0)))
  rw [← HW.out, HM.out]
  go_wp2_with fail
  refine CN.out.mono ?_
  rintro e w2 ⟨rfl, s2, c2⟩
  have S0 : Hid (SrcAt w0 w2 Bb Br Bt s1) := (show SrcAt _ _ _ _ _ _ from s2)
  have C0 : Hid (Chg (GF Bb Br) w1 w2) := (show Chg _ _ _ from c2)
  have O0 : Hid (OwnR9 w2 M (.slice none 0 0) []) := (show _ from ⟨ownG_nil _ _ _, fun y hy => by cases hy⟩)
  have A0 : Hid (aft (pK pR (n - 0)) s1 = aft (pL m pR) s) := (show _ = _ from HPA.out)
  have V0 : Hid (∀ ys z, s.bind (pL m pR) = some (ys, z) → ∃ xs, ys = (([] : List Rz).map plR) ++ xs ∧ s1.bind (pK pR (n - 0)) = some (xs, z)) := (show ∀ ys z, _ from fun ys z hy => ⟨ys, rfl, HPV.out ys z hy⟩)
  clear s2 c2 CN d0
  go_wp2_with fail
  go_loopg [7, 12] (n + 1) (fun g x z wr => ∃ (i : Nat) (L : List Rz) (a : Option Addr) (q c : Nat) (si : Option (List UInt8)), i ≤ n ∧ g + i = n + 1 ∧ x = .slice a q c ∧ z = .int .i64 (i : Int) ∧ Hid (L.length = q) ∧ q ≤ i ∧ Hid (OwnR9 wr M (.slice a q c) L) ∧ Hid (SrcAt w0 wr Bb Br Bt si) ∧ Hid (aft (pK pR (n - i)) si = aft (pL m pR) s) ∧ Hid (∀ ys z, s.bind (pL m pR) = some (ys, z) → ∃ xs, ys = (L.map plR) ++ xs ∧ si.bind (pK pR (n - i)) = some (xs, z)) ∧ Hid (Chg (GF Bb Br) w1 wr))
  case atStart => exact ⟨0, [], none, 0, 0, s1, Nat.zero_le _, by omega, rfl, rfl, (show _ = _ from rfl), Nat.le_refl _, O0, S0, A0, V0, C0⟩
  case round =>
    clear S0 C0 O0 A0 V0 HPA HPV
    obtain ⟨i, L, a, q, c, si, hi, hg, rfl, rfl, HQ, hqi, OR, SR, AR, VR, CR⟩ := hrel
    by_cases hlt : i < n
    · have hlt' : (i : Int) < (n : Int) := by omega
      have CG := hide (sread_any SR.out)
      have rk := (bn.out.chg CR.out HNE.out).range0
      obtain ⟨W, HWr⟩ : ∃ z, Hid (wr.heap.size = z) := ⟨_, rfl⟩
      have hMW : M ≤ W := by have h1 := CR.out.size; have h2 := hM1.out; have h3 := HWr.out; omega
      have HGK : Hid (∀ k, M ≤ k → ¬ GF Bb Br k) := (show ∀ k, _ from fun k hk e => by have := HLT.out; rcases e with e | e <;> omega)
      go_wp2_with (first
        | (refine wpList_load_mid rfl 55 _ rfl M 0 rfl (SC6 Bb Br Bt) _ rk Tryd.underlying55 rfl Tryd.size55 ?_)
        | fail)
      refine CG.out.mono ?_
      rintro e w3 ⟨x, rfl, XO3, S3, V3, C3⟩
      have S3 := hide S3
      have V3 := hide V3
      have C3 := hide C3
      have XO3 := hide XO3
      obtain ⟨s3, Hs3⟩ : ∃ z, Hid (aft pR si = z) := ⟨_, rfl⟩
      rw [Hs3.out] at S3
      have hWs : wr.heap.size ≤ w3.heap.size := C3.out.size
      have O3 : Hid (OwnR9 w3 M (.slice a q c) L) := (show _ from ⟨OR.out.row.chg C3.out (fun k hk e => HGK.out k (OR.out.row.block hk).1 e), fun y hy => (OR.out.ps y hy).chg C3.out (fun k hk e => HGK.out k ((OR.out.ps y hy).block hk).1 e)⟩)
      obtain ⟨w4, hw4⟩ : ∃ y, y = w3.alloc (.cells (XE.c x).toArray 46 (0, 0)) := ⟨_, rfl⟩
      have l4 : Hid (Below w3.heap.size w3 w4) := (show Below _ _ _ by rw [hw4]; exact (Below.refl _ _).alloc (Nat.le_refl _) _)
      have R4 : Hid (RdG XE w4 (.slice (some ⟨w3.heap.size, 0, none⟩) 1 1) [x]) := (show RdG _ _ _ _ by rw [hw4]; exact rdG_one (E := XE) w3 46 x)
      have O4 : Hid (OwnG XE w4 M 46 (.slice a q c) L) := (show OwnG _ _ _ _ _ _ from O3.out.row.kept l4.out)
      have HL9 : Hid (L.length + [x].length ≤ 10000000) := (show _ ≤ _ by rw [List.length_singleton, HQ.out]; omega)
      have HL8 : Hid (M ≤ w4.heap.size) := (show _ ≤ _ by have h1 := l4.out.size; have h2 := HWr.out; omega)
      have HW4 := hide hw4
      clear hw4 CG rk
      go_wp2_with (first
        | (refine wpList_build1E (E := XE) build_read1 rfl _ rfl x rfl ?_; change wpList _ _ _ _ _ (w3.alloc (.cells (XE.c x).toArray 46 (0, 0))); rw [← HW4.out])
        | (refine wpList_append_E (E := XE) Tryd.underlying22 infoX (by decide) rfl (.tmp 14) (.tmp 18) rfl M (.slice a q c) L rfl O4.out (.slice (some ⟨w3.heap.size, 0, none⟩) 1 1) [x] rfl R4.out HL9.out HL8.out ?_; intro v9 w9 o9 g9 q9; obtain ⟨p9, c9, hv9⟩ := o9.form; have hn9 : (L ++ [x]).length = q + 1 := (by rw [List.length_append, List.length_singleton, HQ.out]); rw [hn9] at hv9; subst hv9; have O9 := hide o9; have G9 := hide g9; have HN9 := hide hn9; clear o9 g9 q9 hn9; have K9 : Hid (Chg (fun b => (Value.slice a q c).ownBlock = some b) w3 w9) := (show Chg _ _ _ from (Chg.of_below l4.out).trans (Chg.of_grown G9.out (fun k e _ => e))); have S9 := hide (S3.out.grow K9.out O3.out.row (by decide) (by decide) (by decide) h0M.out); have B9 : Hid (Blk w9 M 55 (SC6 Bb Br Bt)) := (show Blk _ _ _ _ from ((bn.out.chg CR.out HNE.out).chg C3.out HNE.out).chg K9.out (fun e => by obtain ⟨_, _, cu, h5⟩ := O3.out.row.block e; exact cells_ne h5 ((bn.out.chg CR.out HNE.out).chg C3.out HNE.out) (by decide) rfl)); have d3 := B9.out.cell (j := 3) rfl; have CO := hide (sover_any S9.out))
        | fail)
      refine CO.out.mono ?_
      rintro e w_ ⟨rfl, hw_⟩
      subst w_
      have C9 : Hid (Chg (GF Bb Br) w1 w9) := (show Chg _ _ _ from (CR.out.trans C3.out).then K9.out (fun k hk e => by
        obtain ⟨h1, _, cu, h5⟩ := O3.out.row.block e
        obtain rfl : k = M := by have := HS1.out; omega
        exact absurd rfl (cells_ne h5 ((bn.out.chg CR.out HNE.out).chg C3.out HNE.out) (by decide))))
      have ON : Hid (OwnR9 w9 M (.slice p9 (q + 1) c9) (L ++ [x])) := (show _ from ⟨O9.out, fun y hy => by
        have hne : ∀ {B2 : Nat} {v2 : Value} {l2 : List Pr}, OwnG PE w3 B2 43 v2 l2 → ∀ k, v2.ownBlock = some k → ¬ (Value.slice a q c).ownBlock = some k := fun ho k hk e => by
          obtain ⟨_, _, c1, h5⟩ := ho.block hk
          obtain ⟨_, _, c2, h6⟩ := O3.out.row.block e
          rw [h5] at h6
          cases h6
        rcases List.mem_append.1 hy with hy | hy
        · exact (O3.out.ps y hy).chg K9.out (hne (O3.out.ps y hy))
        · rw [List.mem_singleton] at hy
          subst hy
          exact ((XO3.out.chg K9.out (hne XO3.out)).mono (by rw [HWr.out]; exact hMW))⟩)
      obtain ⟨j, Hj⟩ : ∃ j, Hid (n - i = j + 1) := ⟨n - i - 1, (show _ = _ by omega)⟩
      have hj2 : n - (i + 1) = j := by have := Hj.out; omega
      have AN : Hid (aft (pK pR (n - (i + 1))) s3 = aft (pL m pR) s) := (show _ = _ by rw [hj2, ← AR.out, Hj.out, pK_aft, Hs3.out])
      have VN : Hid (∀ ys z, s.bind (pL m pR) = some (ys, z) → ∃ xs, ys = ((L ++ [x]).map plR) ++ xs ∧ s3.bind (pK pR (n - (i + 1))) = some (xs, z)) := (show ∀ ys z, _ from fun ys z hy => by
        obtain ⟨xs, h1, h2⟩ := VR.out ys z hy
        rw [Hj.out] at h2
        obtain ⟨x0, xs0, z1, h3, h4, h5⟩ := pK_val h2
        rw [Hs3.out] at h5
        refine ⟨xs0, ?_, by rw [hj2]; exact h5⟩
        rw [h1, h3, ← V3.out x0 z1 h4]
        simp)
      obtain ⟨ov, Hov⟩ : ∃ z, Hid ((!s3.isSome) = z) := ⟨_, rfl⟩
      rw [Hov.out]
      clear CO d3
      cases ov with
      | true =>
        have h3n : s3 = none := by
          have := Hov.out
          cases s3 with
          | none => rfl
          | some z => cases this
        subst h3n
        have PN : Hid (LrPost w0 Bb Br Bt m pR s w (.returned (.slice p9 (q + 1) c9)) w9) := (show _ from ⟨_, L ++ [x], rfl, (show _ by rw [HM.out]; exact ON.out), by have := HN9.out; omega, by rw [← AN.out, aft_none]; exact S9.out, (fun ys z hy => by
          obtain ⟨xs, -, h2⟩ := VN.out ys z hy
          cases h2), (Chg.of_below l1.out).trans C9.out⟩)
        go_wp2_with fail
        go_ret
        exact PN.out
      | false =>
        go_wp2_with fail
        go_roundg (n - i)
        case measure => omega
        case rel => exact ⟨i + 1, L ++ [x], p9, q + 1, c9, s3, by omega, by omega, rfl, by go_num, HN9, by omega, ON, S9, AN, VN, C9⟩
    · obtain rfl : i = n := by omega
      have hlt' : ¬ (i : Int) < i := by omega
      have PN : Hid (LrPost w0 Bb Br Bt m pR s w (.returned (.slice a q c)) wr) := (show _ from ⟨_, L, rfl, (show _ by rw [HM.out]; exact OR.out), by have := HQ.out; omega, by
        rw [← AR.out, Nat.sub_self, show aft (pK pR 0) si = si from pK_zero si]
        exact SR.out, fun ys z hy => by
        obtain ⟨xs, h1, h2⟩ := VR.out ys z hy
        rw [Nat.sub_self] at h2
        rw [h1, pK_nil h2, List.append_nil], (Chg.of_below l1.out).trans CR.out⟩)
      go_wp2_with fail
      go_ret
      exact PN.out
#print axioms slistR_any
end Go.Proofs.YtmicmbjbclkbjaaDoor
