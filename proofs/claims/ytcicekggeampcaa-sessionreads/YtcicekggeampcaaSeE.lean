/-
  package session: had, Get: what the calls do.
-/
import Derived.Test.YtcicekggeampcaaSeD
namespace Go.Proofs.Ytcicekggeampcaa
open Go.RowKit
def hadP (p : Pr) : ByteArray × Int := if p.2.2 = true then (em, 8) else (p.2.1, 0)
set_option maxRecDepth 100000 in
theorem zHad_any (p : Pr) (w : World) : Calls Try.prog 43 #[.agg (PC p).toArray] w fun e w' => e = .returned (.tuple #[.string (hadP p).1, .int .i64 (hadP p).2]) ∧ Below w.heap.size w w' := by
  obtain ⟨E, HE⟩ : ∃ E, Hid (w.heap.size = E) := ⟨_, rfl⟩
  obtain ⟨w1, hw1⟩ : ∃ y, y = w.alloc (.cells (PC p).toArray 48 (0, 0)) := ⟨_, rfl⟩
  obtain ⟨b1, l1⟩ := newB HE hw1
  have HW := hide hw1
  have c1 := b1.out.val
  have c2 := b1.out.dead
  clear hw1
  obtain ⟨r, HR⟩ : ∃ r, Hid (hadP p = r) := ⟨_, rfl⟩
  have HH : Hid (r = if p.2.2 = true then (em, 8) else (p.2.1, 0)) := (show _ = _ by rw [← HR.out]; rfl)
  rw [HR.out]
  obtain ⟨k, v, d⟩ := p
  simp only at c1 c2
  cases d with
  | true =>
    obtain rfl : r = (em, 8) := HH.out
    go_enter Try.func43, Try.ntmps43
    go_upto_region 1 with fail
    change Code.wp _ _ _ _ (w.alloc (.cells (PC (k, v, true)).toArray 48 (0, 0)))
    rw [← HW.out, HE.out]
    go_wp2_with fail
    go_ret2
    exact ⟨rfl, l1.out⟩
  | false =>
    obtain rfl : r = (v, 0) := HH.out
    go_enter Try.func43, Try.ntmps43
    go_upto_region 1 with fail
    change Code.wp _ _ _ _ (w.alloc (.cells (PC (k, v, false)).toArray 48 (0, 0)))
    rw [← HW.out, HE.out]
    go_wp2_with fail
    go_ret2
    exact ⟨rfl, l1.out⟩
/-- What Get tells, and the transaction behind it. -/
def getT (s : SP) (t : Tx) (k : ByteArray) : (ByteArray × Int) × Tx :=
  if 64 ≤ t.ops then ((em, 13), t)
  else if k.size < 1 ∨ 64 < k.size then ((em, 2), t.more)
  else match getB t.W k with
    | some p => (hadP p, t.more)
    | none => (getS s k t.snap, if (getS s k t.snap).2 = 0 then { t.more with R := sawP t.R k [(k, (getS s k t.snap).1, false)] } else if (getS s k t.snap).2 = 8 then { t.more with R := sawP t.R k [] } else t.more)
theorem getT_many {s : SP} {t : Tx} {k : ByteArray} (h : 64 ≤ t.ops) : getT s t k = ((em, 13), t) := by unfold getT; rw [if_pos h]
theorem getT_arg {s : SP} {t : Tx} {k : ByteArray} (h : t.ops < 64) (hk : k.size < 1 ∨ 64 < k.size) : getT s t k = ((em, 2), t.more) := by unfold getT; rw [if_neg (by omega), if_pos hk]
theorem getT_own {s : SP} {t : Tx} {k : ByteArray} {p : Pr} (h : t.ops < 64) (hk : ¬ (k.size < 1 ∨ 64 < k.size)) (hp : getB t.W k = some p) : getT s t k = (hadP p, t.more) := by unfold getT; rw [if_neg (by omega), if_neg hk, hp]
theorem getT_store {s : SP} {t : Tx} {k : ByteArray} (h : t.ops < 64) (hk : ¬ (k.size < 1 ∨ 64 < k.size)) (hp : getB t.W k = none) {r : ByteArray × Int} (hr : getS s k t.snap = r) : getT s t k = (r, if r.2 = 0 then { t.more with R := sawP t.R k [(k, r.1, false)] } else if r.2 = 8 then { t.more with R := sawP t.R k [] } else t.more) := by unfold getT; rw [if_neg (by omega), if_neg hk, hp, hr]
theorem build_pair (k v : ByteArray) : ∀ W : World, (Instr.build 48 #[(0, .string k), (1, .string v)]).run Try.prog W = .ok (.agg (PC (k, v, false)).toArray) W := fun W => by kernel_rfl
/-- Where the transaction alone changes, the session has it changed. -/
theorem Duo.tx {w0 w w' : World} {D i : Nat} {s : SP} {X : Nat} {id : Int} {b b' : Tb} {t t' : Tx} (h : Duo w0 w D i s X id (some (b, t))) (hT : TxAt w' w0.heap.size b' t') (hc : Chg b.G w w') (hb : b'.T = b.T) (hG : ∀ j, b'.G j → b.G j ∨ w.heap.size ≤ j) : Duo w0 w' D i s X id (some (b', t')) := by
  have hne : ¬ b.G X := fun hx => by
    have ht := h.ss.tx b t rfl
    rcases hx with hx | hx | hx | hx
    · exact cells_ne h.ss.x ht.d (by decide) hx
    · exact cells_map h.ss.x ht.set.block hx
    · exact cells_map h.ss.x ht.buf.mp.block hx
    · obtain ⟨_, _, cur, hc⟩ := ht.row.block hx
      exact cells_ne h.ss.x hc (by decide) rfl
  have hx : Blk w' X 59 [.int .i64 id, SPt (some (b', t'))] := by
    have := h.ss.x.chg hc hne
    simp only [SPt] at this ⊢
    rw [hb]
    exact this
  exact h.step ⟨hx, h.ss.lo, h.ss.id, fun b'' t'' e => by cases e; exact hT⟩ hc (fun j hj => .inr hj) (fun j hj => by
    rcases hj with hj | hj
    · exact .inl (.inl hj)
    · exact (hG j hj).imp (fun h => .inr h) (fun h => h))
/-- An act of a session beside a store: what it tells, how it leaves them. -/
def ActPost (w0 w : World) (D i : Nat) (s : SP) (X : Nat) (id : Int) (b : Tb) (t t' : Tx) (r : Value) (e : Ending) (w' : World) : Prop :=
  e = .returned r ∧ ∃ b', Duo w0 w' D i s X id (some (b', t')) ∧ Chg (SG X (some (b, t))) w w' ∧ b'.T = b.T ∧ ∀ k, SG X (some (b', t')) k → SG X (some (b, t)) k ∨ w.heap.size ≤ k
set_option maxHeartbeats 4000000 in
set_option maxRecDepth 100000 in
theorem zGet_any {w0 w : World} {D i : Nat} {s : SP} {X : Nat} {id : Int} {b : Tb} {t : Tx} (h : Duo w0 w D i s X id (some (b, t))) (hi : i ≤ 1000) (k : ByteArray) (hk : k.size ≤ maxLen) :
    Calls Try.prog 17 #[PT X, PT D, .string k] w fun e w' => ActPost w0 w D i s X id b t (getT s t k).2 (.tuple #[.string (getT s t k).1.1, .int .i64 (getT s t k).1.2]) e w' := by
  have H := hide h
  have CA := hide (zAct_any h.ss)
  obtain ⟨r, HR⟩ : ∃ r, Hid (getT s t k = r) := ⟨_, rfl⟩
  rw [HR.out]
  obtain ⟨⟨r1, r2⟩, t'⟩ := r
  simp only
  have hz := Zpair
  have hlr : ∀ W, (Builtin.len_ #[9] 3 #[.string k]).run Try.prog W = .ok (.int .i64 (k.size : Int)) W := fun W => by simp [Builtin.len_, go_sem]
  obtain ⟨kn, HKN⟩ : ∃ n, Hid (k.size = n) := ⟨_, rfl⟩
  rw [HKN.out] at hlr hk
  clear h
  go_enter Try.func17, Try.ntmps17
  go_wp2_with fail
  refine CA.out.mono ?_
  rintro e w1 (⟨hm, rfl, hw⟩ | ⟨hm, rfl, S1, C1⟩)
  · subst w1
    have hg := HR.out
    rw [getT_many hm] at hg
    cases hg
    go_wp2_with fail
    go_ret2
    exact ⟨rfl, b, H.out, Chg.refl _ _, rfl, fun k hk => .inl hk⟩
  · have HM : Hid (t.ops < 64) := hm
    have D1 : Hid (Duo w0 w1 D i s X id (some (b, t.more))) := (show Duo _ _ _ _ _ _ _ _ from H.out.step S1 C1 (fun k hk => .inr (.inl hk)) (fun k hk => .inl hk))
    have K1 : Hid (Chg (SG X (some (b, t))) w w1) := (show Chg _ _ _ from C1.mono (fun k _ hk => .inr (.inl hk)))
    clear S1 C1 hm CA
    by_cases h1 : kn < 1
    · have q1 : decide ((kn : Int) < 1) = true := by simp; omega
      have hg := HR.out
      rw [getT_arg HM.out (.inl (by rw [HKN.out]; exact h1))] at hg
      cases hg
      go_wp2_with fail
      go_ret2
      exact ⟨rfl, b, D1.out, K1.out, rfl, fun k hk => .inl hk⟩
    · have q1 : decide ((kn : Int) < 1) = false := by simp; omega
      by_cases h2 : 64 < kn
      · have q2 : decide (64 < (kn : Int)) = true := by simp; omega
        have hg := HR.out
        rw [getT_arg HM.out (.inr (by rw [HKN.out]; exact h2))] at hg
        cases hg
        go_wp2_with fail
        go_ret2
        exact ⟨rfl, b, D1.out, K1.out, rfl, fun k hk => .inl hk⟩
      · have q2 : decide (64 < (kn : Int)) = false := by simp; omega
        have HKO : Hid (¬ (k.size < 1 ∨ 64 < k.size)) := (show ¬ _ by rw [HKN.out]; omega)
        have T1 := hide (D1.out.ss.tx b t.more rfl)
        have c1 := D1.out.ss.x.cell (j := 1) rfl
        have d4 := T1.out.d.cell (j := 4) rfl
        simp only [SPt] at c1
        obtain ⟨bT, HbT⟩ : ∃ z, Hid (b.T = z) := ⟨_, rfl⟩
        obtain ⟨bD, HbD⟩ : ∃ z, Hid (b.D = z) := ⟨_, rfl⟩
        have CB := hide (bGet_any T1.out.buf k (by unfold maxLen at *; rw [HKN.out]; omega))
        obtain ⟨q, HQ⟩ : ∃ q, Hid ((getB t.more.W k).getD zp = q) := ⟨_, rfl⟩
        obtain ⟨ok, HO⟩ : ∃ q, Hid ((getB t.more.W k).isSome = q) := ⟨_, rfl⟩
        rw [HQ.out, HO.out, HbD.out] at CB
        rw [HbT.out] at c1 d4
        rw [HbD.out] at d4
        go_wp2_with fail
        refine CB.out.mono ?_
        rintro e w2 ⟨rfl, hb2⟩
        obtain ⟨E2, HE2⟩ : ∃ E, Hid (w2.heap.size = E) := ⟨_, rfl⟩
        obtain ⟨w3, hw3⟩ : ∃ y, y = w2.alloc (.cells (PC q).toArray 48 (0, 0)) := ⟨_, rfl⟩
        obtain ⟨b3, l3⟩ := newB HE2 hw3
        have HW3 := hide hw3
        have L3 : Hid (Below w1.heap.size w1 w3) := (show Below _ _ _ from hb2.trans (l3.out.mono hb2.size))
        have D3 := hide (D1.out.kept L3.out)
        have K3 : Hid (Chg (SG X (some (b, t))) w w3) := (show Chg _ _ _ from K1.out.trans (Chg.of_below L3.out))
        clear hb2 hw3 c1 d4
        cases ok with
        | true =>
          obtain ⟨p, hp⟩ : ∃ p, getB t.W k = some p := Option.isSome_iff_exists.1 HO.out
          have hq : p = q := by
            have := HQ.out
            rw [show t.more.W = t.W from rfl, hp] at this
            exact this
          have hg := HR.out
          rw [getT_own HM.out HKO.out hp, hq] at hg
          obtain ⟨hg1, hg2⟩ := Prod.mk.inj hg
          subst hg2
          have CH := hide (zHad_any q w3)
          rw [hg1] at CH
          clear hg hg1 hp hq
          go_upto_region 7 with (first
            | (refine wpList_store_new rfl 48 _ _ rfl w2 _ (PC q).toArray _ rfl rfl rfl Try.size48 rfl (all_one (PC_one q)) ?_; rw [← HW3.out, HE2.out])
            | fail)
          go_wp2_with (first
            | (refine wpList_load_mid rfl 48 _ rfl E2 0 rfl (PC q) _ b3.out.range0 Try.underlying48 rfl Try.size48 ?_)
            | fail)
          refine CH.out.mono ?_
          rintro e w4 ⟨rfl, hb4⟩
          have D4 := hide (D3.out.kept hb4)
          have K4 : Hid (Chg (SG X (some (b, t))) w w4) := (show Chg _ _ _ from K3.out.trans (Chg.of_below hb4))
          clear hb4
          go_wp2_with fail
          go_ret2
          exact ⟨rfl, b, D4.out, K4.out, rfl, fun k hk => .inl hk⟩
        | false =>
          have hp : getB t.W k = none := by
            have := HO.out
            rw [show t.more.W = t.W from rfl] at this
            cases hh : getB t.W k with
            | none => rfl
            | some p => rw [hh] at this; cases this
          have CG := hide (D3.out.ls.get hi k (by unfold maxLen at *; rw [HKN.out]; omega) t.snap)
          obtain ⟨⟨g1, g2⟩, HGS⟩ : ∃ g, Hid (getS s k t.snap = g) := ⟨_, rfl⟩
          rw [HGS.out] at CG
          simp only at CG
          have HG : Hid (((r1, r2), t') = ((g1, g2), if g2 = 0 then { t.more with R := sawP t.R k [(k, g1, false)] } else if g2 = 8 then { t.more with R := sawP t.R k [] } else t.more)) := (show _ = _ by rw [← HR.out]; exact getT_store HM.out HKO.out hp HGS.out)
          obtain ⟨sn, HSN⟩ : ∃ z, Hid (t.snap = z) := ⟨_, rfl⟩
          rw [HSN.out] at CG
          have T3 := hide (D3.out.ss.tx b t.more rfl)
          have c31 := D3.out.ss.x.cell (j := 1) rfl
          have d30 := T3.out.d.cell (j := 0) rfl
          simp only [SPt] at c31
          rw [HbT.out] at c31 d30
          rw [show t.more.snap = t.snap from rfl, HSN.out] at d30
          clear hp
          go_upto_region 7 with (first
            | (refine wpList_store_new rfl 48 _ _ rfl w2 _ (PC q).toArray _ rfl rfl rfl Try.size48 rfl (all_one (PC_one q)) ?_; rw [← HW3.out, HE2.out])
            | fail)
          go_wp2_with fail
          refine CG.out.mono ?_
          rintro e w4 ⟨rfl, hb4⟩
          have D4 := hide (D3.out.kept hb4)
          have K4 : Hid (Chg (SG X (some (b, t))) w w4) := (show Chg _ _ _ from K3.out.trans (Chg.of_below hb4))
          have T4 := hide (D4.out.ss.tx b t.more rfl)
          have c41 := D4.out.ss.x.cell (j := 1) rfl
          simp only [SPt] at c41
          rw [HbT.out] at c41
          clear hb4 c31 d30
          have hlen : Hid (t.more.R.length < t.more.ops) := (show t.R.length < t.ops + 1 by
            have := (H.out.ss.tx b t rfl).len
            omega)
          have hB4 : Hid (w0.heap.size ≤ w4.heap.size) := (show _ from D4.out.ls.lo.size)
          by_cases h0 : g2 = 0
          · obtain ⟨q0, HQ0⟩ : ∃ z, Hid (g2 = z) := ⟨_, rfl⟩
            have hg := HG.out
            rw [if_pos h0] at hg
            obtain ⟨hg1, hg2⟩ := Prod.mk.inj hg
            cases hg1
            subst h0
            obtain ⟨E4, HE4⟩ : ∃ E, Hid (w4.heap.size = E) := ⟨_, rfl⟩
            obtain ⟨w5, hw5⟩ : ∃ y, y = w4.alloc (.cells (PC (k, r1, false)).toArray 48 (0, 0)) := ⟨_, rfl⟩
            obtain ⟨b5, l5⟩ := newB HE4 hw5
            have HW5 := hide hw5
            have O5 : Hid (OwnG PE w5 w0.heap.size 48 (.slice (some ⟨E4, 0, none⟩) [(k, r1, false)].length 1) [(k, r1, false)]) := (show OwnG _ _ _ _ _ _ by
              rw [hw5, ← HE4.out]
              exact ownE_one (E := PE) w4 w0.heap.size 48 (k, r1, false) hB4.out)
            have T5 := hide (T4.out.kept l5.out)
            have CS := hide (zSaw_any T5.out k (by unfold maxLen at *; rw [HKN.out]; omega) O5.out hlen.out)
            rw [HbT.out] at CS
            have hbp := build_pair k r1
            clear hw5 hg
            go_wp2_with (first
              | (refine wpList_build1E (E := PE) (fun x W => build_row1 x W) rfl _ rfl (k, r1, false) rfl ?_; change wpList _ _ _ _ _ (w4.alloc (.cells (PC (k, r1, false)).toArray 48 (0, 0))); rw [← HW5.out, HE4.out])
              | fail)
            refine CS.out.mono ?_
            rintro e w6 ⟨rfl, b', hT, hC, hbT, hG⟩
            have T6 := hide hT
            have C6 : Hid (Chg b.G w5 w6) := hC
            have HB' : Hid (b'.T = b.T) := hbT.trans HbT.out.symm
            have HG6 : Hid (∀ j, b'.G j → b.G j ∨ w5.heap.size ≤ j) := hG
            clear hT hC hbT hG
            go_wp2_with fail
            go_ret2
            have D6 := (D4.out.kept l5.out).tx T6.out C6.out HB'.out HG6.out
            rw [hg2]
            refine ⟨rfl, b', D6, (K4.out.trans (Chg.of_below l5.out)).trans (C6.out.mono (fun j _ hj => .inr hj)), HB'.out, fun j hj => ?_⟩
            rcases hj with hj | hj
            · exact .inl (.inl hj)
            · refine (HG6.out j hj).imp (fun h => .inr h) (fun h => ?_)
              have := (K4.out.trans (Chg.of_below l5.out)).size
              omega
          · have q0 : (g2 == 0) = false := by simp [h0]
            by_cases h8 : g2 = 8
            · have hg := HG.out
              rw [if_neg h0, if_pos h8] at hg
              obtain ⟨hg1, hg2⟩ := Prod.mk.inj hg
              cases hg1
              subst h8
              have CS := hide (zSaw_any T4.out k (by unfold maxLen at *; rw [HKN.out]; omega) (la := none) (lc := 0) (ps := []) (ownG_nil _ _ _) hlen.out)
              rw [HbT.out] at CS
              clear hg
              go_wp2_with fail
              refine CS.out.mono ?_
              rintro e w6 ⟨rfl, b', hT, hC, hbT, hG⟩
              have T6 := hide hT
              have C6 : Hid (Chg b.G w4 w6) := hC
              have HB' : Hid (b'.T = b.T) := hbT.trans HbT.out.symm
              have HG6 : Hid (∀ j, b'.G j → b.G j ∨ w4.heap.size ≤ j) := hG
              clear hT hC hbT hG
              go_wp2_with fail
              go_ret2
              have D6 := D4.out.tx T6.out C6.out HB'.out HG6.out
              rw [hg2]
              refine ⟨rfl, b', D6, K4.out.trans (C6.out.mono (fun j _ hj => .inr hj)), HB'.out, fun j hj => ?_⟩
              rcases hj with hj | hj
              · exact .inl (.inl hj)
              · refine (HG6.out j hj).imp (fun h => .inr h) (fun h => ?_)
                have := K4.out.size
                omega
            · have q8 : (g2 == 8) = false := by simp [h8]
              have hg := HG.out
              rw [if_neg h0, if_neg h8] at hg
              obtain ⟨hg1, hg2⟩ := Prod.mk.inj hg
              cases hg1
              subst hg2
              clear hg
              go_wp2_with fail
              go_ret2
              exact ⟨rfl, b, D4.out, K4.out, rfl, fun k hk => .inl hk⟩
#print axioms zGet_any
end Go.Proofs.Ytcicekggeampcaa
