/-
  Texts that ride together: SeE SeP Region16 SeS SeR.
-/
import Derived.Test.YtcicekggeampcaaGreatGE1
import Derived.Test.YtcicekggeampcaaGreatGG
/-
  package session: had, Get: what the calls do.
-/
namespace Go.Proofs.YtcicekggeampcaaGreat
open Go.RowKit
def hadP (p : Pr) : ByteArray × Int := if p.2.2 = true then (em, 8) else (p.2.1, 0)
set_option maxRecDepth 100000 in
theorem zHad_any (p : Pr) (w : World) : Calls Tryz.prog 46 #[.agg (PC p).toArray] w fun e w' => e = .returned (.tuple #[.string (hadP p).1, .int .i64 (hadP p).2]) ∧ Below w.heap.size w w' := by
  obtain ⟨E, HE⟩ : ∃ E, Hid (w.heap.size = E) := ⟨_, rfl⟩
  obtain ⟨w1, hw1⟩ : ∃ y, y = w.alloc (.cells (PC p).toArray 51 (0, 0)) := ⟨_, rfl⟩
  obtain ⟨b1, l1⟩ := newB HE hw1
  have HW := hide hw1
  have c1 := b1.out.val
  have c2 := b1.out.dead
  clear hw1
  obtain ⟨r, HR⟩ : ∃ r, Hid (hadP p = r) := ⟨_, rfl⟩
  have HH : Hid (r = if p.2.2 = true then (em, 8) else (p.2.1, 0)) := (show _ = _ by rw [← HR.out]; rfl)
  rw [HR.out]
  obtain ⟨k, v, d⟩ := p
  simp only at c1 c2
  cases d with
  | true =>
    obtain rfl : r = (em, 8) := HH.out
    go_enter Tryz.func46, Tryz.ntmps46
    go_upto_region 1 with fail
    change Code.wp _ _ _ _ (w.alloc (.cells (PC (k, v, true)).toArray 51 (0, 0)))
    rw [← HW.out, HE.out]
    go_wp2_with fail
    go_ret2
    exact ⟨rfl, l1.out⟩
  | false =>
    obtain rfl : r = (v, 0) := HH.out
    go_enter Tryz.func46, Tryz.ntmps46
    go_upto_region 1 with fail
    change Code.wp _ _ _ _ (w.alloc (.cells (PC (k, v, false)).toArray 51 (0, 0)))
    rw [← HW.out, HE.out]
    go_wp2_with fail
    go_ret2
    exact ⟨rfl, l1.out⟩
/-- What Get tells, and the transaction behind it. -/
def getT (s : SP) (t : Tx) (k : ByteArray) : (ByteArray × Int) × Tx :=
  if 64 ≤ t.ops then ((em, 13), t)
  else if k.size < 1 ∨ 64 < k.size then ((em, 2), t.more)
  else match getB t.W k with
    | some p => (hadP p, t.more)
    | none => (getS s k t.snap, if (getS s k t.snap).2 = 0 then { t.more with R := sawP t.R k [(k, (getS s k t.snap).1, false)] } else if (getS s k t.snap).2 = 8 then { t.more with R := sawP t.R k [] } else t.more)
theorem getT_many {s : SP} {t : Tx} {k : ByteArray} (h : 64 ≤ t.ops) : getT s t k = ((em, 13), t) := by unfold getT; rw [if_pos h]
theorem getT_arg {s : SP} {t : Tx} {k : ByteArray} (h : t.ops < 64) (hk : k.size < 1 ∨ 64 < k.size) : getT s t k = ((em, 2), t.more) := by unfold getT; rw [if_neg (by omega), if_pos hk]
theorem getT_own {s : SP} {t : Tx} {k : ByteArray} {p : Pr} (h : t.ops < 64) (hk : ¬ (k.size < 1 ∨ 64 < k.size)) (hp : getB t.W k = some p) : getT s t k = (hadP p, t.more) := by unfold getT; rw [if_neg (by omega), if_neg hk, hp]
theorem getT_store {s : SP} {t : Tx} {k : ByteArray} (h : t.ops < 64) (hk : ¬ (k.size < 1 ∨ 64 < k.size)) (hp : getB t.W k = none) {r : ByteArray × Int} (hr : getS s k t.snap = r) : getT s t k = (r, if r.2 = 0 then { t.more with R := sawP t.R k [(k, r.1, false)] } else if r.2 = 8 then { t.more with R := sawP t.R k [] } else t.more) := by unfold getT; rw [if_neg (by omega), if_neg hk, hp, hr]
theorem build_pair (k v : ByteArray) : ∀ W : World, (Instr.build 51 #[(0, .string k), (1, .string v)]).run Tryz.prog W = .ok (.agg (PC (k, v, false)).toArray) W := fun W => by kernel_rfl
/-- Where the transaction alone changes, the session has it changed. -/
theorem Duo.tx {w0 w w' : World} {D i : Nat} {s : SP} {X : Nat} {id : Int} {b b' : Tb} {t t' : Tx} (h : Duo w0 w D i s X id (some (b, t))) (hT : TxAt w' w0.heap.size b' t') (hc : Chg b.G w w') (hb : b'.T = b.T) (hG : ∀ j, b'.G j → b.G j ∨ w.heap.size ≤ j) : Duo w0 w' D i s X id (some (b', t')) := by
  have hne : ¬ b.G X := fun hx => by
    have ht := h.ss.tx b t rfl
    rcases hx with hx | hx | hx | hx
    · exact cells_ne h.ss.x ht.d (by decide) hx
    · exact cells_map h.ss.x ht.set.block hx
    · exact cells_map h.ss.x ht.buf.mp.block hx
    · obtain ⟨_, _, cur, hc⟩ := ht.row.block hx
      exact cells_ne h.ss.x hc (by decide) rfl
  have hx : Blk w' X 61 [.int .i64 id, SPt (some (b', t'))] := by
    have := h.ss.x.chg hc hne
    simp only [SPt] at this ⊢
    rw [hb]
    exact this
  exact h.step ⟨hx, h.ss.lo, h.ss.id, fun b'' t'' e => by cases e; exact hT⟩ hc (fun j hj => .inr hj) (fun j hj => by
    rcases hj with hj | hj
    · exact .inl (.inl hj)
    · exact (hG j hj).imp (fun h => .inr h) (fun h => h))
/-- An act of a session beside a store: what it tells, how it leaves them. -/
def ActPost (w0 w : World) (D i : Nat) (s : SP) (X : Nat) (id : Int) (b : Tb) (t t' : Tx) (r : Value) (e : Ending) (w' : World) : Prop :=
  e = .returned r ∧ ∃ b', Duo w0 w' D i s X id (some (b', t')) ∧ Chg (SG X (some (b, t))) w w' ∧ b'.T = b.T ∧ ∀ k, SG X (some (b', t')) k → SG X (some (b, t)) k ∨ w.heap.size ≤ k
set_option maxHeartbeats 4000000 in
set_option maxRecDepth 100000 in
theorem zGet_any {w0 w : World} {D i : Nat} {s : SP} {X : Nat} {id : Int} {b : Tb} {t : Tx} (h : Duo w0 w D i s X id (some (b, t))) (hi : i ≤ 1000) (k : ByteArray) (hk : k.size ≤ maxLen) :
    Calls Tryz.prog 18 #[PT X, PT D, .string k] w fun e w' => ActPost w0 w D i s X id b t (getT s t k).2 (.tuple #[.string (getT s t k).1.1, .int .i64 (getT s t k).1.2]) e w' := by
  have H := hide h
  have CA := hide (zAct_any h.ss)
  obtain ⟨r, HR⟩ : ∃ r, Hid (getT s t k = r) := ⟨_, rfl⟩
  rw [HR.out]
  obtain ⟨⟨r1, r2⟩, t'⟩ := r
  simp only
  have hz := Zpair
  have hlr : ∀ W, (Builtin.len_ #[9] 3 #[.string k]).run Tryz.prog W = .ok (.int .i64 (k.size : Int)) W := fun W => by simp [Builtin.len_, go_sem]
  obtain ⟨kn, HKN⟩ : ∃ n, Hid (k.size = n) := ⟨_, rfl⟩
  rw [HKN.out] at hlr hk
  clear h
  go_enter Tryz.func18, Tryz.ntmps18
  go_wp2_with fail
  refine CA.out.mono ?_
  rintro e w1 (⟨hm, rfl, hw⟩ | ⟨hm, rfl, S1, C1⟩)
  · subst w1
    have hg := HR.out
    rw [getT_many hm] at hg
    cases hg
    go_wp2_with fail
    go_ret2
    exact ⟨rfl, b, H.out, Chg.refl _ _, rfl, fun k hk => .inl hk⟩
  · have HM : Hid (t.ops < 64) := hm
    have D1 : Hid (Duo w0 w1 D i s X id (some (b, t.more))) := (show Duo _ _ _ _ _ _ _ _ from H.out.step S1 C1 (fun k hk => .inr (.inl hk)) (fun k hk => .inl hk))
    have K1 : Hid (Chg (SG X (some (b, t))) w w1) := (show Chg _ _ _ from C1.mono (fun k _ hk => .inr (.inl hk)))
    clear S1 C1 hm CA
    by_cases h1 : kn < 1
    · have q1 : decide ((kn : Int) < 1) = true := by simp; omega
      have hg := HR.out
      rw [getT_arg HM.out (.inl (by rw [HKN.out]; exact h1))] at hg
      cases hg
      go_wp2_with fail
      go_ret2
      exact ⟨rfl, b, D1.out, K1.out, rfl, fun k hk => .inl hk⟩
    · have q1 : decide ((kn : Int) < 1) = false := by simp; omega
      by_cases h2 : 64 < kn
      · have q2 : decide (64 < (kn : Int)) = true := by simp; omega
        have hg := HR.out
        rw [getT_arg HM.out (.inr (by rw [HKN.out]; exact h2))] at hg
        cases hg
        go_wp2_with fail
        go_ret2
        exact ⟨rfl, b, D1.out, K1.out, rfl, fun k hk => .inl hk⟩
      · have q2 : decide (64 < (kn : Int)) = false := by simp; omega
        have HKO : Hid (¬ (k.size < 1 ∨ 64 < k.size)) := (show ¬ _ by rw [HKN.out]; omega)
        have T1 := hide (D1.out.ss.tx b t.more rfl)
        have c1 := D1.out.ss.x.cell (j := 1) rfl
        have d4 := T1.out.d.cell (j := 4) rfl
        simp only [SPt] at c1
        obtain ⟨bT, HbT⟩ : ∃ z, Hid (b.T = z) := ⟨_, rfl⟩
        obtain ⟨bD, HbD⟩ : ∃ z, Hid (b.D = z) := ⟨_, rfl⟩
        have CB := hide (bGet_any T1.out.buf k (by unfold maxLen at *; rw [HKN.out]; omega))
        obtain ⟨q, HQ⟩ : ∃ q, Hid ((getB t.more.W k).getD zp = q) := ⟨_, rfl⟩
        obtain ⟨ok, HO⟩ : ∃ q, Hid ((getB t.more.W k).isSome = q) := ⟨_, rfl⟩
        rw [HQ.out, HO.out, HbD.out] at CB
        rw [HbT.out] at c1 d4
        rw [HbD.out] at d4
        go_wp2_with fail
        refine CB.out.mono ?_
        rintro e w2 ⟨rfl, hb2⟩
        obtain ⟨E2, HE2⟩ : ∃ E, Hid (w2.heap.size = E) := ⟨_, rfl⟩
        obtain ⟨w3, hw3⟩ : ∃ y, y = w2.alloc (.cells (PC q).toArray 51 (0, 0)) := ⟨_, rfl⟩
        obtain ⟨b3, l3⟩ := newB HE2 hw3
        have HW3 := hide hw3
        have L3 : Hid (Below w1.heap.size w1 w3) := (show Below _ _ _ from hb2.trans (l3.out.mono hb2.size))
        have D3 := hide (D1.out.kept L3.out)
        have K3 : Hid (Chg (SG X (some (b, t))) w w3) := (show Chg _ _ _ from K1.out.trans (Chg.of_below L3.out))
        clear hb2 hw3 c1 d4
        cases ok with
        | true =>
          obtain ⟨p, hp⟩ : ∃ p, getB t.W k = some p := Option.isSome_iff_exists.1 HO.out
          have hq : p = q := by
            have := HQ.out
            rw [show t.more.W = t.W from rfl, hp] at this
            exact this
          have hg := HR.out
          rw [getT_own HM.out HKO.out hp, hq] at hg
          obtain ⟨hg1, hg2⟩ := Prod.mk.inj hg
          subst hg2
          have CH := hide (zHad_any q w3)
          rw [hg1] at CH
          clear hg hg1 hp hq
          go_upto_region 7 with (first
            | (refine wpList_store_new rfl 51 _ _ rfl w2 _ (PC q).toArray _ rfl rfl rfl Tryz.size51 rfl (all_one (PC_one q)) ?_; rw [← HW3.out, HE2.out])
            | fail)
          go_wp2_with (first
            | (refine wpList_load_mid rfl 51 _ rfl E2 0 rfl (PC q) _ b3.out.range0 Tryz.underlying51 rfl Tryz.size51 ?_)
            | fail)
          refine CH.out.mono ?_
          rintro e w4 ⟨rfl, hb4⟩
          have D4 := hide (D3.out.kept hb4)
          have K4 : Hid (Chg (SG X (some (b, t))) w w4) := (show Chg _ _ _ from K3.out.trans (Chg.of_below hb4))
          clear hb4
          go_wp2_with fail
          go_ret2
          exact ⟨rfl, b, D4.out, K4.out, rfl, fun k hk => .inl hk⟩
        | false =>
          have hp : getB t.W k = none := by
            have := HO.out
            rw [show t.more.W = t.W from rfl] at this
            cases hh : getB t.W k with
            | none => rfl
            | some p => rw [hh] at this; cases this
          have CG := hide (D3.out.ls.get hi k (by unfold maxLen at *; rw [HKN.out]; omega) t.snap)
          obtain ⟨⟨g1, g2⟩, HGS⟩ : ∃ g, Hid (getS s k t.snap = g) := ⟨_, rfl⟩
          rw [HGS.out] at CG
          simp only at CG
          have HG : Hid (((r1, r2), t') = ((g1, g2), if g2 = 0 then { t.more with R := sawP t.R k [(k, g1, false)] } else if g2 = 8 then { t.more with R := sawP t.R k [] } else t.more)) := (show _ = _ by rw [← HR.out]; exact getT_store HM.out HKO.out hp HGS.out)
          obtain ⟨sn, HSN⟩ : ∃ z, Hid (t.snap = z) := ⟨_, rfl⟩
          rw [HSN.out] at CG
          have T3 := hide (D3.out.ss.tx b t.more rfl)
          have c31 := D3.out.ss.x.cell (j := 1) rfl
          have d30 := T3.out.d.cell (j := 0) rfl
          simp only [SPt] at c31
          rw [HbT.out] at c31 d30
          rw [show t.more.snap = t.snap from rfl, HSN.out] at d30
          clear hp
          go_upto_region 7 with (first
            | (refine wpList_store_new rfl 51 _ _ rfl w2 _ (PC q).toArray _ rfl rfl rfl Tryz.size51 rfl (all_one (PC_one q)) ?_; rw [← HW3.out, HE2.out])
            | fail)
          go_wp2_with fail
          refine CG.out.mono ?_
          rintro e w4 ⟨rfl, hb4⟩
          have D4 := hide (D3.out.kept hb4)
          have K4 : Hid (Chg (SG X (some (b, t))) w w4) := (show Chg _ _ _ from K3.out.trans (Chg.of_below hb4))
          have T4 := hide (D4.out.ss.tx b t.more rfl)
          have c41 := D4.out.ss.x.cell (j := 1) rfl
          simp only [SPt] at c41
          rw [HbT.out] at c41
          clear hb4 c31 d30
          have hlen : Hid (t.more.R.length < t.more.ops) := (show t.R.length < t.ops + 1 by
            have := (H.out.ss.tx b t rfl).len
            omega)
          have hB4 : Hid (w0.heap.size ≤ w4.heap.size) := (show _ from D4.out.ls.lo.size)
          by_cases h0 : g2 = 0
          · obtain ⟨q0, HQ0⟩ : ∃ z, Hid (g2 = z) := ⟨_, rfl⟩
            have hg := HG.out
            rw [if_pos h0] at hg
            obtain ⟨hg1, hg2⟩ := Prod.mk.inj hg
            cases hg1
            subst h0
            obtain ⟨E4, HE4⟩ : ∃ E, Hid (w4.heap.size = E) := ⟨_, rfl⟩
            obtain ⟨w5, hw5⟩ : ∃ y, y = w4.alloc (.cells (PC (k, r1, false)).toArray 51 (0, 0)) := ⟨_, rfl⟩
            obtain ⟨b5, l5⟩ := newB HE4 hw5
            have HW5 := hide hw5
            have O5 : Hid (OwnG PE w5 w0.heap.size 51 (.slice (some ⟨E4, 0, none⟩) [(k, r1, false)].length 1) [(k, r1, false)]) := (show OwnG _ _ _ _ _ _ by
              rw [hw5, ← HE4.out]
              exact ownE_one (E := PE) w4 w0.heap.size 51 (k, r1, false) hB4.out)
            have T5 := hide (T4.out.kept l5.out)
            have CS := hide (zSaw_any T5.out k (by unfold maxLen at *; rw [HKN.out]; omega) O5.out hlen.out)
            rw [HbT.out] at CS
            have hbp := build_pair k r1
            clear hw5 hg
            go_wp2_with (first
              | (refine wpList_build1E (E := PE) (fun x W => build_row1 x W) rfl _ rfl (k, r1, false) rfl ?_; change wpList _ _ _ _ _ (w4.alloc (.cells (PC (k, r1, false)).toArray 51 (0, 0))); rw [← HW5.out, HE4.out])
              | fail)
            refine CS.out.mono ?_
            rintro e w6 ⟨rfl, b', hT, hC, hbT, hG⟩
            have T6 := hide hT
            have C6 : Hid (Chg b.G w5 w6) := hC
            have HB' : Hid (b'.T = b.T) := hbT.trans HbT.out.symm
            have HG6 : Hid (∀ j, b'.G j → b.G j ∨ w5.heap.size ≤ j) := hG
            clear hT hC hbT hG
            go_wp2_with fail
            go_ret2
            have D6 := (D4.out.kept l5.out).tx T6.out C6.out HB'.out HG6.out
            rw [hg2]
            refine ⟨rfl, b', D6, (K4.out.trans (Chg.of_below l5.out)).trans (C6.out.mono (fun j _ hj => .inr hj)), HB'.out, fun j hj => ?_⟩
            rcases hj with hj | hj
            · exact .inl (.inl hj)
            · refine (HG6.out j hj).imp (fun h => .inr h) (fun h => ?_)
              have := (K4.out.trans (Chg.of_below l5.out)).size
              omega
          · have q0 : (g2 == 0) = false := by simp [h0]
            by_cases h8 : g2 = 8
            · have hg := HG.out
              rw [if_neg h0, if_pos h8] at hg
              obtain ⟨hg1, hg2⟩ := Prod.mk.inj hg
              cases hg1
              subst h8
              have CS := hide (zSaw_any T4.out k (by unfold maxLen at *; rw [HKN.out]; omega) (la := none) (lc := 0) (ps := []) (ownG_nil _ _ _) hlen.out)
              rw [HbT.out] at CS
              clear hg
              go_wp2_with fail
              refine CS.out.mono ?_
              rintro e w6 ⟨rfl, b', hT, hC, hbT, hG⟩
              have T6 := hide hT
              have C6 : Hid (Chg b.G w4 w6) := hC
              have HB' : Hid (b'.T = b.T) := hbT.trans HbT.out.symm
              have HG6 : Hid (∀ j, b'.G j → b.G j ∨ w4.heap.size ≤ j) := hG
              clear hT hC hbT hG
              go_wp2_with fail
              go_ret2
              have D6 := D4.out.tx T6.out C6.out HB'.out HG6.out
              rw [hg2]
              refine ⟨rfl, b', D6, K4.out.trans (C6.out.mono (fun j _ hj => .inr hj)), HB'.out, fun j hj => ?_⟩
              rcases hj with hj | hj
              · exact .inl (.inl hj)
              · refine (HG6.out j hj).imp (fun h => .inr h) (fun h => ?_)
                have := K4.out.size
                omega
            · have q8 : (g2 == 8) = false := by simp [h8]
              have hg := HG.out
              rw [if_neg h0, if_neg h8] at hg
              obtain ⟨hg1, hg2⟩ := Prod.mk.inj hg
              cases hg1
              subst hg2
              clear hg
              go_wp2_with fail
              go_ret2
              exact ⟨rfl, b, D4.out, K4.out, rfl, fun k hk => .inl hk⟩
end Go.Proofs.YtcicekggeampcaaGreat

/-
  package session: Put, Drop: what the calls do.
-/
namespace Go.Proofs.YtcicekggeampcaaGreat
open Go.RowKit
/-- What a write answers, and the transaction behind it. -/
def putT (t : Tx) (p : Pr) : Int × Tx := if 64 ≤ t.ops then (13, t) else (wrE t.W p, { t.more with W := wrB t.W p })
set_option maxHeartbeats 1000000 in
set_option maxRecDepth 100000 in
theorem zPut_any {w0 w : World} {D i : Nat} {s : SP} {X : Nat} {id : Int} {b : Tb} {t : Tx} (h : Duo w0 w D i s X id (some (b, t))) (k v : ByteArray) (hk : k.size ≤ maxLen) :
    Calls Tryz.prog 17 #[PT X, .string k, .string v] w fun e w' => ActPost w0 w D i s X id b t (putT t (k, v, false)).2 (.int .i64 (putT t (k, v, false)).1) e w' := by
  have H := hide h
  have CA := hide (zAct_any h.ss)
  obtain ⟨⟨r, t'⟩, HR⟩ : ∃ r, Hid (putT t (k, v, false) = r) := ⟨_, rfl⟩
  rw [HR.out]
  simp only
  clear h
  go_enter Tryz.func17, Tryz.ntmps17
  go_wp2_with fail
  refine CA.out.mono ?_
  rintro e w1 (⟨hm, rfl, hw⟩ | ⟨hm, rfl, S1, C1⟩)
  · subst w1
    have hg := HR.out
    unfold putT at hg
    rw [if_pos hm] at hg
    cases hg
    go_wp2_with fail
    go_ret
    exact ⟨rfl, b, H.out, Chg.refl _ _, rfl, fun k hk => .inl hk⟩
  · have D1 : Hid (Duo w0 w1 D i s X id (some (b, t.more))) := (show Duo _ _ _ _ _ _ _ _ from H.out.step S1 C1 (fun k hk => .inr (.inl hk)) (fun k hk => .inl hk))
    have K1 : Hid (Chg (SG X (some (b, t))) w w1) := (show Chg _ _ _ from C1.mono (fun k _ hk => .inr (.inl hk)))
    have HG : Hid (r = wrE t.W (k, v, false) ∧ t' = { t.more with W := wrB t.W (k, v, false) }) := (show _ ∧ _ by
      have hg := HR.out
      unfold putT at hg
      rw [if_neg (by omega)] at hg
      obtain ⟨h1, h2⟩ := Prod.mk.inj hg
      exact ⟨h1.symm, h2.symm⟩)
    clear S1 C1 hm CA
    have T1 := hide (D1.out.ss.tx b t.more rfl)
    have c1 := D1.out.ss.x.cell (j := 1) rfl
    have d4 := T1.out.d.cell (j := 4) rfl
    simp only [SPt] at c1
    obtain ⟨bT, HbT⟩ : ∃ z, Hid (b.T = z) := ⟨_, rfl⟩
    obtain ⟨bD, HbD⟩ : ∃ z, Hid (b.D = z) := ⟨_, rfl⟩
    have CB := hide (bPut_any T1.out.buf k v hk)
    rw [show wrE t.more.W (k, v, false) = r from HG.out.1.symm, HbD.out] at CB
    rw [HbT.out] at c1 d4
    rw [HbD.out] at d4
    go_wp2_with fail
    refine CB.out.mono ?_
    rintro e w2 ⟨rfl, hB, hC⟩
    have B2 := hide hB
    have C2 := hide hC
    clear hB hC
    go_wp2_with fail
    go_ret
    have T2 := T1.out.setM C2.out (by rw [HbD.out]; exact B2.out)
    have D2 := D1.out.tx T2 (C2.out.mono (fun k _ hk => .inr (.inr (.inl hk)))) rfl (fun j hj => .inl hj)
    rw [HG.out.2]
    exact ⟨rfl, b, D2, K1.out.trans (C2.out.mono (fun k _ hk => .inr (.inr (.inr (.inl hk))))), rfl, fun k hk => .inl hk⟩
set_option maxHeartbeats 1000000 in
set_option maxRecDepth 100000 in
theorem zDrop_any {w0 w : World} {D i : Nat} {s : SP} {X : Nat} {id : Int} {b : Tb} {t : Tx} (h : Duo w0 w D i s X id (some (b, t))) (k : ByteArray) (hk : k.size ≤ maxLen) :
    Calls Tryz.prog 22 #[PT X, .string k] w fun e w' => ActPost w0 w D i s X id b t (putT t (k, em, true)).2 (.int .i64 (putT t (k, em, true)).1) e w' := by
  have H := hide h
  have CA := hide (zAct_any h.ss)
  obtain ⟨⟨r, t'⟩, HR⟩ : ∃ r, Hid (putT t (k, em, true) = r) := ⟨_, rfl⟩
  rw [HR.out]
  simp only
  clear h
  go_enter Tryz.func22, Tryz.ntmps22
  go_wp2_with fail
  refine CA.out.mono ?_
  rintro e w1 (⟨hm, rfl, hw⟩ | ⟨hm, rfl, S1, C1⟩)
  · subst w1
    have hg := HR.out
    unfold putT at hg
    rw [if_pos hm] at hg
    cases hg
    go_wp2_with fail
    go_ret
    exact ⟨rfl, b, H.out, Chg.refl _ _, rfl, fun k hk => .inl hk⟩
  · have D1 : Hid (Duo w0 w1 D i s X id (some (b, t.more))) := (show Duo _ _ _ _ _ _ _ _ from H.out.step S1 C1 (fun k hk => .inr (.inl hk)) (fun k hk => .inl hk))
    have K1 : Hid (Chg (SG X (some (b, t))) w w1) := (show Chg _ _ _ from C1.mono (fun k _ hk => .inr (.inl hk)))
    have HG : Hid (r = wrE t.W (k, em, true) ∧ t' = { t.more with W := wrB t.W (k, em, true) }) := (show _ ∧ _ by
      have hg := HR.out
      unfold putT at hg
      rw [if_neg (by omega)] at hg
      obtain ⟨h1, h2⟩ := Prod.mk.inj hg
      exact ⟨h1.symm, h2.symm⟩)
    clear S1 C1 hm CA
    have T1 := hide (D1.out.ss.tx b t.more rfl)
    have c1 := D1.out.ss.x.cell (j := 1) rfl
    have d4 := T1.out.d.cell (j := 4) rfl
    simp only [SPt] at c1
    obtain ⟨bT, HbT⟩ : ∃ z, Hid (b.T = z) := ⟨_, rfl⟩
    obtain ⟨bD, HbD⟩ : ∃ z, Hid (b.D = z) := ⟨_, rfl⟩
    have CB := hide (bDrop_any T1.out.buf k hk)
    rw [show wrE t.more.W (k, em, true) = r from HG.out.1.symm, HbD.out] at CB
    rw [HbT.out] at c1 d4
    rw [HbD.out] at d4
    go_wp2_with fail
    refine CB.out.mono ?_
    rintro e w2 ⟨rfl, hB, hC⟩
    have B2 := hide hB
    have C2 := hide hC
    clear hB hC
    go_wp2_with fail
    go_ret
    have T2 := T1.out.setM C2.out (by rw [HbD.out]; exact B2.out)
    have D2 := D1.out.tx T2 (C2.out.mono (fun k _ hk => .inr (.inr (.inl hk)))) rfl (fun j hj => .inl hj)
    rw [HG.out.2]
    exact ⟨rfl, b, D2, K1.out.trans (C2.out.mono (fun k _ hk => .inr (.inr (.inr (.inl hk))))), rfl, fun k hk => .inl hk⟩
end Go.Proofs.YtcicekggeampcaaGreat

/-
  A region that draws its order, whose last operations wait for all ahead of them, and where one of those ahead writes to old memory.
-/
namespace Go.Proofs.YtcicekggeampcaaGreat
open Go.RowKit
structure TJZ (P : Program) (ops : Array Oper) (S S' : Nat → World → Value → Prop) (C : World → Prop) (Q : Exit → Act → World → Prop) (k z : Nat) (w0 : World) (l : Nat → Bool) (a : Act) (w : World) : Prop where
  closed : Closed ops l
  left : (∀ i, k ≤ i → i < ops.size → l i = false) → (l z = false → (∀ (i : Nat) (o : Oper) (d : Nat), ops[i]? = some o → l i = true → o.dst = some d → S i w (a.eval (.tmp d))) ∧ Gr w0 w) ∧
    (l z = true → (∀ (i : Nat) (o : Oper) (d : Nat), ops[i]? = some o → l i = true → o.dst = some d → S' i w (a.eval (.tmp d))) ∧ C w)
  right : (∃ i, k ≤ i ∧ i < ops.size ∧ l i = true) → ∃ m, k < m ∧ m ≤ ops.size ∧ (∀ i, i < m → l i = true) ∧ (∀ i, m ≤ i → i < ops.size → l i = false) ∧ wpSeq P Q (ops.toList.drop m) a w
theorem wp_region_tailsZ {P : Program} {id : Nat} {ops : Array Oper} {Q : Exit → Act → World → Prop} {a0 : Act} {w : World} (hm : P.follows .mixedOrders = true) (S S' : Nat → World → Value → Prop) (C : World → Prop) (z : Nat)
    (n : Nat) (hn : a0.tmps.size = n) (hf : formB ops n = true) (k : Nat) (hk0 : k < ops.size) (hzk : z < k) (hlb : tailsB ops k = true) (hmono : ∀ i w w' x, Gr w w' → S i w x → S i w' x) (hmono' : ∀ i w w' x, Gr w w' → S' i w x → S' i w' x)
    (hC : ∀ w w', Gr w w' → C w → C w') (hconv : ∀ j, j ≠ z → ∀ w w' x, S j w x → S' j w' x)
    (hstep : AllFrom (fun i o => o.guard = none ∧
      (i ≠ z → ∀ a w', Gr w w' → Kept ops a0 a → Deps ops S a w' o.after.toList → ∀ Q, o.wp P a w' (fun a' w'' => ∃ v, a' = a.put o.dst v ∧ S i w'' v ∧ Gr w' w'') Q) ∧
      (i ≠ z → reachB ops ops.size z i = false → ∀ a w', C w' → Kept ops a0 a → Deps ops S' a w' o.after.toList → ∀ Q, o.wp P a w' (fun a' w'' => ∃ v, a' = a.put o.dst v ∧ S' i w'' v ∧ Gr w' w'') Q) ∧
      (i = z → ∀ a w', Gr w w' → Kept ops a0 a → Deps ops S a w' o.after.toList → ∀ Q, o.wp P a w' (fun a' w'' => ∃ v, a' = a.put o.dst v ∧ S' z w'' v ∧ C w'') Q)) 0 (ops.toList.take k))
    (hQ : ∀ a w', a.tmps.size = a0.tmps.size → a.defers = a0.defers → Kept ops a0 a →
      (∀ (i : Nat) (o : Oper) (d : Nat), i < k → ops[i]? = some o → o.dst = some d → S' i w' (a.eval (.tmp d))) → C w' → wpSeq P Q (ops.toList.drop k) a w') : (Code.region id ops true).wp P Q a0 w := by
  subst hn
  have hdrop : ∀ {i : Nat} {o : Oper}, ops[i]? = some o → ops.toList.drop i = o :: ops.toList.drop (i + 1) := by
    intro i o ho
    have hi : i < ops.toList.length := by have := (Array.getElem?_eq_some_iff.1 ho).1; simpa using this
    rw [List.drop_eq_getElem_cons hi]
    congr 1
    have : ops.toList[i]? = some o := by simpa using ho
    rw [List.getElem?_eq_getElem hi] at this
    exact Option.some.inj this
  refine wp_region_J hm (TJZ P ops S S' C Q k z w) a0.tmps.size rfl hf ?_ ?_ ?_
  · intro w' _ hg
    exact ⟨fun i o _ hl => by simp at hl, fun _ => ⟨fun _ => ⟨fun i o d _ hl => by simp at hl, hg⟩, fun h => by cases h⟩, fun ⟨i, _, _, hl⟩ => by simp at hl⟩
  · intro i o ho l a w1 hJ hsz hdf hkp hli hwt
    have hi : i < ops.size := (Array.getElem?_eq_some_iff.1 ho).1
    by_cases hr : ∃ j, k ≤ j ∧ j < ops.size ∧ l j = true
    · obtain ⟨m, hkm, hms, hdone, hnot, hseq⟩ := hJ.right hr
      have him : m ≤ i := Nat.le_of_not_lt fun h => by rw [hdone i h] at hli; cases hli
      have hall := tailsB_at hJ.closed hlb ho (by omega) hwt
      obtain rfl : i = m := by
        rcases Nat.lt_or_ge m i with h | h
        · have := hall m h
          rw [hnot m (Nat.le_refl _) (by omega)] at this
          cases this
        · omega
      rw [hdrop ho] at hseq
      refine ⟨hseq.1, Oper.wp_mono ?_ hseq.2⟩
      rintro a' w' ⟨v, rfl, hs⟩
      refine ⟨v, rfl, hJ.closed.step ho hwt, fun h => ?_, fun _ => ⟨i + 1, by omega, by omega, fun j hj => ?_, fun j h1 h2 => ?_, hs⟩⟩
      · have := h i (by omega) hi
        simp at this
      · rcases Nat.lt_or_ge j i with h | h
        · simp [hdone j h]
        · obtain rfl : j = i := by omega
          simp
      · have : (j == i) = false := by simp; omega
        simp [hnot j (by omega) h2, this]
    · have hno : ∀ j, k ≤ j → j < ops.size → l j = false := fun j h1 h2 => by
        cases hl : l j with
        | false => rfl
        | true => exact absurd ⟨j, h1, h2, hl⟩ hr
      have hleft := hJ.left hno
      by_cases hik : i < k
      · have hst := AllFrom.at (i := i) hstep (by rw [List.getElem?_take_of_lt hik]; simpa using ho)
        rw [Nat.zero_add] at hst
        obtain ⟨hgd, hs1, hs2, hs3⟩ := hst
        have hright : ¬ ∃ j, k ≤ j ∧ j < ops.size ∧ (l j || j == i) = true := by
          rintro ⟨j, h1, h2, h3⟩
          have : (j == i) = false := by simp; omega
          rw [hno j h1 h2, this] at h3
          cases h3
        have hput : ∀ {S0 : Nat → World → Value → Prop} {v : Value} {w2 : World}, (∀ (j : Nat) (oj : Oper) (d : Nat), j ≠ i → ops[j]? = some oj → l j = true → oj.dst = some d → S0 j w2 (a.eval (.tmp d))) → S0 i w2 v →
            ∀ (j : Nat) (oj : Oper) (d : Nat), ops[j]? = some oj → (l j || j == i) = true → oj.dst = some d → S0 j w2 ((a.put o.dst v).eval (.tmp d)) := by
          intro S0 v w2 hS hv j oj d hj hl hd
          by_cases hij : i = j
          · subst hij
            rw [ho] at hj
            simp only [Option.some.injEq] at hj
            subst hj
            rw [hd, eval_put_same (by rw [hsz]; exact ((formB_spec hf ho).2 d hd).1)]
            exact hv
          · rw [eval_put_other (fun e => hij (formB_ne hf ho hj e hd))]
            have : (j == i) = false := by simp; omega
            exact hS j oj d (fun e => hij e.symm) hj (by simpa [this] using hl) hd
        have hdep : ∀ {S0 : Nat → World → Value → Prop}, (∀ (j : Nat) (oj : Oper) (d : Nat), ops[j]? = some oj → l j = true → oj.dst = some d → S0 j w1 (a.eval (.tmp d))) → Deps ops S0 a w1 o.after.toList := fun hS => Deps.of fun e he hb o' ho' d' hd' => hS e.on o' d' ho' (waitsB_at hwt e.on (by
          rw [Array.any_eq_true']
          exact ⟨e, by simpa using he, by simp [hb]⟩)) hd'
        refine ⟨hgd, ?_⟩
        by_cases hiz : i = z
        · subst hiz
          obtain ⟨hS, hg⟩ := hleft.1 hli
          refine Oper.wp_mono ?_ (hs3 rfl a w1 hg hkp (hdep hS) Q)
          rintro a' w' ⟨v, rfl, hv, hc⟩
          refine ⟨v, rfl, hJ.closed.step ho hwt, fun _ => ⟨fun h => by simp at h, fun _ => ⟨hput (fun j oj d hji hj hl hd => hconv j hji _ _ _ (hS j oj d hj hl hd)) hv, hc⟩⟩, fun h => absurd h hright⟩
        · have hzi : (z == i) = false := by simp; omega
          cases hlz : l z with
          | false =>
            obtain ⟨hS, hg⟩ := hleft.1 hlz
            refine Oper.wp_mono ?_ (hs1 hiz a w1 hg hkp (hdep hS) Q)
            rintro a' w' ⟨v, rfl, hv, hgr⟩
            refine ⟨v, rfl, hJ.closed.step ho hwt, fun _ => ⟨fun _ => ⟨hput (fun j oj d hji hj hl hd => hmono j _ _ _ hgr (hS j oj d hj hl hd)) hv, hg.trans hgr⟩, fun h => by rw [hlz, hzi] at h; cases h⟩, fun h => absurd h hright⟩
          | true =>
            obtain ⟨hS, hc⟩ := hleft.2 hlz
            have hrz : reachB ops ops.size z i = false := by
              cases hrb : reachB ops ops.size z i with
              | false => rfl
              | true =>
                exfalso
                have hoz : ops[z]? = some ops[z] := Array.getElem?_eq_getElem (by omega)
                have := reach_done hJ.closed _ z i ops[z] hoz (hJ.closed z _ hoz hlz) hrb
                rw [hli] at this
                cases this
            refine Oper.wp_mono ?_ (hs2 hiz hrz a w1 hc hkp (hdep hS) Q)
            rintro a' w' ⟨v, rfl, hv, hgr⟩
            refine ⟨v, rfl, hJ.closed.step ho hwt, fun _ => ⟨fun h => (by rw [hlz] at h; cases h), fun _ => ⟨hput (fun j oj d hji hj hl hd => hmono' j _ _ _ hgr (hS j oj d hj hl hd)) hv, hC _ _ hgr hc⟩⟩, fun h => absurd h hright⟩
      · have hall := tailsB_at hJ.closed hlb ho (by omega) hwt
        obtain rfl : i = k := by
          rcases Nat.lt_or_ge k i with h | h
          · have := hall k h
            rw [hno k (Nat.le_refl _) (by omega)] at this
            cases this
          · omega
        obtain ⟨hS, hc⟩ := hleft.2 (hall z hzk)
        have hseq := hQ a w1 hsz hdf hkp (fun j o' d h1 h2 h3 => hS j o' d h2 (hall j h1) h3) hc
        rw [hdrop ho] at hseq
        refine ⟨hseq.1, Oper.wp_mono ?_ hseq.2⟩
        rintro a' w' ⟨v, rfl, hs⟩
        refine ⟨v, rfl, hJ.closed.step ho hwt, fun h => ?_, fun _ => ⟨i + 1, by omega, by omega, fun j hj => ?_, fun j h1 h2 => ?_, hs⟩⟩
        · have := h i (by omega) hi
          simp at this
        · rcases Nat.lt_or_ge j i with h | h
          · simp [hall j h]
          · obtain rfl : j = i := by omega
            simp
        · have : (j == i) = false := by simp; omega
          simp [hno j (by omega) h2, this]
  · intro l a w1 hall hJ _ _ _
    obtain ⟨m, hkm, hms, _, hnot, hseq⟩ := hJ.right ⟨k, Nat.le_refl _, hk0, hall k hk0⟩
    obtain rfl : m = ops.size := by
      rcases Nat.lt_or_ge m ops.size with h | h
      · have := hnot m (Nat.le_refl _) h
        rw [hall m h] at this
        cases this
      · omega
    rw [List.drop_of_length_le (by simp)] at hseq
    exact hseq
end Go.Proofs.YtcicekggeampcaaGreat

/-
  package session: Scan: what the call does.
-/
namespace Go.Proofs.YtcicekggeampcaaGreat
open Go.RowKit
theorem wpSeq_val {P : Program} {o : Oper} {rest : List Oper} {a : Act} {w : World} {Q : Exit → Act → World → Prop} (hg : o.guard = none) (v : Value) (hrun : (execOp a.eval o).run P w = .ok (.value v) w) (h : wpSeq P Q rest (a.put o.dst v) w) : wpSeq P Q (o :: rest) a w := by
  refine ⟨hg, ?_⟩
  unfold Oper.wp
  rw [hrun]
  exact ⟨v, rfl, h⟩
theorem wpSeq_store_sl {P : Program} {o : Oper} {rest : List Oper} {a : Act} {w : World} {Q : Exit → Act → World → Prop} (hgd : o.guard = none) (ty : TypeId) (hso : ∀ W, (sizeOf ty).run P W = .ok 1 W) (x y : Operand) (ho : o.op = .store ty x y) (b j : Nat) (T : TypeId) (cs : List Value) (p : Option Addr) (n c : Nat)
    (hx : a.eval x = .pointer (some ⟨b, j, none⟩)) (hy : a.eval y = .slice p n c) (hB : Blk w b T cs) (hj : j < cs.length) (h : ∀ w', Blk w' b T (cs.set j (.slice p n c)) → But b w w' → wpSeq P Q rest (a.put o.dst undef) w') : wpSeq P Q (o :: rest) a w := by
  have hc := hB.cell (j := j) (v := cs[j]) (List.getElem?_eq_getElem hj)
  have hf := hB.frozen j
  have hrun : (execOp a.eval o).run P w = .ok .skip (w.setCell ⟨b, j, none⟩ (.slice p n c)) := by
    simp only [execOp, ho, hx, hy]
    go_simp
  refine ⟨hgd, ?_⟩
  unfold Oper.wp
  rw [hrun]
  exact ⟨undef, rfl, h _ (hB.set j (.slice p n c)) (But.setCell b w j _)⟩
theorem build_scan (k t : ByteArray) (a : Option Addr) (n c : Nat) : ∀ W : World, (Instr.build 58 #[(0, .bool true), (1, .string k), (2, .string t), (3, .slice a n c)]).run Tryz.prog W = .ok (.agg #[.bool true, .string k, .string t, .slice a n c]) W := fun W => by kernel_rfl
/-- What Scan tells, and the transaction behind it. -/
def scanT (s : SP) (ks : List ByteArray) (t : Tx) (a b : ByteArray) : (List Pr × Int) × Tx :=
  if 64 ≤ t.ops then (([], 13), t)
  else if 64 < a.size ∨ 64 < b.size then (([], 2), t.more)
  else if (scanS s ks a b t.snap 201).2 ≠ 0 then (([], (scanS s ks a b t.snap 201).2), t.more)
  else if 200 < (scanS s ks a b t.snap 201).1.length then (([], 13), t.more)
  else ((overB (scanS s ks a b t.snap 201).1 t.W a b 200, 0), { t.more with R := t.R ++ [(true, a, b, (scanS s ks a b t.snap 201).1)] })
theorem scanS_len (s : SP) (ks : List ByteArray) (a b : ByteArray) (n : Int) : (scanS s ks a b n 201).1.length ≤ 201 := by
  unfold scanS
  split
  · show (List.take _ _).length ≤ 201
    rw [List.length_take]
    have : (201 : Int).toNat = 201 := rfl
    omega
  · simp
set_option maxHeartbeats 4000000 in
set_option maxRecDepth 100000 in
theorem zScan_any {w0 w : World} {D i : Nat} {s : SP} {X : Nat} {id : Int} {b : Tb} {t : Tx} (h : Duo w0 w D i s X id (some (b, t))) (hi : i ≤ 1000) {ks : List ByteArray} (hks : Inv s ks) (fa ta : ByteArray) :
    Calls Tryz.prog 24 #[PT X, PT D, .string fa, .string ta] w fun e w' => ∃ v, ActPost w0 w D i s X id b t (scanT s ks t fa ta).2 (.tuple #[v, .int .i64 (scanT s ks t fa ta).1.2]) e w' ∧ OwnG PE w' w.heap.size 51 v (scanT s ks t fa ta).1.1 := by
  have H := hide h
  have HKS := hide hks
  have CA := hide (zAct_any h.ss)
  obtain ⟨⟨⟨r1, r2⟩, t'⟩, HR⟩ : ∃ r, Hid (scanT s ks t fa ta = r) := ⟨_, rfl⟩
  rw [HR.out]
  simp only
  have hlf : ∀ W, (Builtin.len_ #[9] 3 #[.string fa]).run Tryz.prog W = .ok (.int .i64 (fa.size : Int)) W := fun W => by simp [Builtin.len_, go_sem]
  have hlt : ∀ W, (Builtin.len_ #[9] 3 #[.string ta]).run Tryz.prog W = .ok (.int .i64 (ta.size : Int)) W := fun W => by simp [Builtin.len_, go_sem]
  obtain ⟨fn, HFN⟩ : ∃ n, Hid (fa.size = n) := ⟨_, rfl⟩
  obtain ⟨tn, HTN⟩ : ∃ n, Hid (ta.size = n) := ⟨_, rfl⟩
  rw [HFN.out] at hlf
  rw [HTN.out] at hlt
  clear h hks
  go_enter Tryz.func24, Tryz.ntmps24
  go_wp2_with fail
  refine CA.out.mono ?_
  rintro e w1 (⟨hm, rfl, hw⟩ | ⟨hm, rfl, S1, C1⟩)
  · subst w1
    have hg := HR.out
    unfold scanT at hg
    rw [if_pos hm] at hg
    cases hg
    go_wp2_with fail
    go_ret2
    exact ⟨_, ⟨rfl, b, H.out, Chg.refl _ _, rfl, fun k hk => .inl hk⟩, ownG_nil _ _ _⟩
  · have HM : Hid (t.ops < 64) := hm
    have D1 : Hid (Duo w0 w1 D i s X id (some (b, t.more))) := (show Duo _ _ _ _ _ _ _ _ from H.out.step S1 C1 (fun k hk => .inr (.inl hk)) (fun k hk => .inl hk))
    have K1 : Hid (Chg (SG X (some (b, t))) w w1) := (show Chg _ _ _ from C1.mono (fun k _ hk => .inr (.inl hk)))
    have HG : Hid ((if 64 < fa.size ∨ 64 < ta.size then (([], 2), t.more) else if (scanS s ks fa ta t.snap 201).2 ≠ 0 then (([], (scanS s ks fa ta t.snap 201).2), t.more) else if 200 < (scanS s ks fa ta t.snap 201).1.length then (([], 13), t.more) else ((overB (scanS s ks fa ta t.snap 201).1 t.W fa ta 200, 0), { t.more with R := t.R ++ [(true, fa, ta, (scanS s ks fa ta t.snap 201).1)] })) = ((r1, r2), t')) := (show _ = _ by
      have hg := HR.out
      unfold scanT at hg
      rwa [if_neg (by omega)] at hg)
    clear S1 C1 hm CA
    by_cases h1 : 64 < fn
    · have q1 : decide (64 < (fn : Int)) = true := by simp; omega
      have hg := HG.out
      rw [if_pos (.inl (by rw [HFN.out]; exact h1))] at hg
      cases hg
      go_wp2_with fail
      go_ret2
      exact ⟨_, ⟨rfl, b, D1.out, K1.out, rfl, fun k hk => .inl hk⟩, ownG_nil _ _ _⟩
    · have q1 : decide (64 < (fn : Int)) = false := by simp; omega
      by_cases h2 : 64 < tn
      · have q2 : decide (64 < (tn : Int)) = true := by simp; omega
        have hg := HG.out
        rw [if_pos (.inr (by rw [HTN.out]; exact h2))] at hg
        cases hg
        go_wp2_with fail
        go_ret2
        exact ⟨_, ⟨rfl, b, D1.out, K1.out, rfl, fun k hk => .inl hk⟩, ownG_nil _ _ _⟩
      · have q2 : decide (64 < (tn : Int)) = false := by simp; omega
        obtain ⟨sn, HSN⟩ : ∃ z, Hid (t.snap = z) := ⟨_, rfl⟩
        have CS := hide (D1.out.ls.scan hi HKS.out fa ta t.snap 201)
        have HSL := hide (scanS_len s ks fa ta t.snap)
        obtain ⟨⟨g1, g2⟩, HGS⟩ : ∃ g, Hid (scanS s ks fa ta t.snap 201 = g) := ⟨_, rfl⟩
        have hg := HG.out
        rw [if_neg (by rw [HFN.out, HTN.out]; omega)] at hg
        rw [HGS.out] at CS hg HSL
        simp only at CS hg HSL
        have HG2 := hide hg
        rw [HSN.out] at CS
        have T1 := hide (D1.out.ss.tx b t.more rfl)
        have c1 := D1.out.ss.x.cell (j := 1) rfl
        have d0 := T1.out.d.cell (j := 0) rfl
        simp only [SPt] at c1
        rw [show t.more.snap = t.snap from rfl, HSN.out] at d0
        obtain ⟨bT, HbT⟩ : ∃ z, Hid (b.T = z) := ⟨_, rfl⟩
        rw [HbT.out] at c1 d0
        clear hg
        go_wp2_with fail
        refine CS.out.mono ?_
        rintro e w2 ⟨v2, rfl, ho, hb2⟩
        have O2 := hide ho
        obtain ⟨la, lc, rfl⟩ := ho.form
        have D2 := hide (D1.out.kept hb2)
        have K2 : Hid (Chg (SG X (some (b, t))) w w2) := (show Chg _ _ _ from K1.out.trans (Chg.of_below hb2))
        have T2 := hide (D2.out.ss.tx b t.more rfl)
        have hww1 : Hid (w.heap.size ≤ w1.heap.size) := (show _ from K1.out.size)
        clear ho hb2 c1 d0 CS
        obtain ⟨m, HMm⟩ : ∃ m, Hid (g1.length = m) := ⟨_, rfl⟩
        rw [HMm.out] at O2 HSL HG2 ⊢
        by_cases h3 : g2 = 0
        · have q3 : (g2 != 0) = false := by simp [h3]
          by_cases h4 : 200 < m
          · have q4 : decide (200 < (m : Int)) = true := by simp; omega
            have hg := HG2.out
            rw [if_neg (by simpa using h3), if_pos h4] at hg
            cases hg
            go_wp2_with fail
            go_ret2
            exact ⟨_, ⟨rfl, b, D2.out, K2.out, rfl, fun k hk => .inl hk⟩, ownG_nil _ _ _⟩
          · have q4 : decide (200 < (m : Int)) = false := by simp; omega
            have hg := HG2.out
            rw [if_neg (by simpa using h3), if_neg h4] at hg
            obtain ⟨hg1, hg2⟩ := Prod.mk.inj hg
            obtain ⟨hg3, hg4⟩ := Prod.mk.inj hg1
            have HRV : Hid (overB g1 t.W fa ta 200 = r1) := hg3
            have HRT : Hid ({ t.more with R := t.R ++ [(true, fa, ta, g1)] } = t') := hg2
            subst hg4
            clear hg hg1 hg2 hg3 h3
            obtain ⟨x, hx⟩ : ∃ x : Rz, x = ⟨true, fa, ta, g1, la, lc⟩ := ⟨_, rfl⟩
            have HXC : Hid (XC x = [.bool true, .string fa, .string ta, .slice la m lc]) := (show _ = _ by rw [hx, ← HMm.out]; rfl)
            have HXP : Hid (plR x = (true, fa, ta, g1)) := (show _ = _ by rw [hx]; rfl)
            have HXO : Hid (OwnG PE w2 w0.heap.size 51 (xv x) x.ps) := (show OwnG _ _ _ _ _ _ by
              rw [hx]
              show OwnG PE w2 w0.heap.size 51 (.slice la g1.length lc) g1
              rw [HMm.out]
              exact O2.out.mono D1.out.ls.lo.size)
            have C1 : Hid (∀ W : World, Below w2.heap.size w2 W → W.cell? ⟨X, 1, none⟩ = some (PT bT)) := (show _ from fun W hW => by rw [← HbT.out]; exact (D2.out.kept hW).ss.x.cell (j := 1) rfl)
            have C2 : Hid (∀ W : World, Below w2.heap.size w2 W → W.cell? ⟨bT, 2, none⟩ = some b.v) := (show _ from fun W hW => by rw [← HbT.out]; exact (T2.out.kept hW).d.cell (j := 2) rfl)
            obtain ⟨bv, HBV⟩ : ∃ z, Hid (b.v = z) := ⟨_, rfl⟩
            rw [HBV.out] at C2
            clear hx
            go_upto_region 11 with fail
            have HO : Hid (OwnG XE w2 w0.heap.size 58 bv b.Q) := (show OwnG _ _ _ _ _ _ by rw [← HBV.out]; exact T2.out.row)
            have hq9 : Hid (b.Q.length + [x].length ≤ 10000000) := (show b.Q.length + 1 ≤ 10000000 by
              have h1 := congrArg List.length T2.out.pl
              rw [List.length_map] at h1
              have := T2.out.len
              have := T2.out.ops
              omega)
            have hB2 : Hid (w0.heap.size ≤ w2.heap.size) := (show _ from D2.out.ls.lo.size)
            have C1c : Hid (∀ W : World, Chg (fun k => bv.ownBlock = some k) w2 W → W.cell? ⟨X, 1, none⟩ = some (PT bT)) := (show _ from fun W hW => by
              rw [← HbT.out]
              refine (D2.out.ss.x.chg hW (fun e => ?_)).cell (j := 1) rfl
              rw [← HBV.out] at e
              obtain ⟨_, _, cur, hc⟩ := T2.out.row.block e
              exact cells_ne D2.out.ss.x hc (by decide) rfl)
            refine wp_region_tailsZ Tryz.mixed (KS (fun i_ => match i_ with | 0 | 4 => .val (PT X) | 1 | 5 => .val (.pointer (some ⟨X, 0, none⟩)) | 2 | 6 => .val (.pointer (some ⟨X, 1, none⟩)) | 3 | 7 => .val (PT bT) | 8 => .val (.pointer (some ⟨bT, 0, none⟩)) | 9 => .val (.pointer (some ⟨bT, 2, none⟩)) | 10 => .val (bv) | 11 => .val (.string fa) | 12 => .val (.string ta) | 13 => .val (.slice la m lc) | 14 => .val (.agg (XC x).toArray) | 15 => .of (fun w v_ => RdG XE w v_ [x]) (fun _ _ _ hg h => h.kept hg) | _ => .free)) (KS (fun i_ => match i_ with | 0 => .val (PT X) | 1 | 5 => .val (.pointer (some ⟨X, 0, none⟩)) | 2 | 6 => .val (.pointer (some ⟨X, 1, none⟩)) | 3 | 7 => .val (PT bT) | 8 => .val (.pointer (some ⟨bT, 0, none⟩)) | 9 => .val (.pointer (some ⟨bT, 2, none⟩)) | 10 => .val (bv) | 14 => .val (.agg (XC x).toArray) | 16 => .of (fun w v_ => ∃ p c, v_ = .slice p (b.Q.length + 1) c ∧ OwnG XE w w0.heap.size 58 v_ (b.Q ++ [x]) ∧ ∀ k, v_.ownBlock = some k → bv.ownBlock = some k ∨ w2.heap.size ≤ k) (fun _ _ _ hg ⟨p, c, h1, h2, h3⟩ => ⟨p, c, h1, h2.kept hg, h3⟩) | _ => .free)) (fun W => Chg (fun k => bv.ownBlock = some k) w2 W) 16 76 rfl (by decide +kernel) 17 (by decide) (by decide) (by decide +kernel) (KS_mono _) (KS_mono _) (fun _ _ hg hc => hc.trans (Chg.of_below hg)) (fun j hj w_ w_2 x_ h_ => ?_) ?_ ?_
            · exact (match j, hj, h_ with | 0, _, h => h | 1, _, h => h | 2, _, h => h | 3, _, h => h | 4, _, _ => trivial | 5, _, h => h | 6, _, h => h | 7, _, h => h | 8, _, h => h | 9, _, h => h | 10, _, h => h | 11, _, _ => trivial | 12, _, _ => trivial | 13, _, _ => trivial | 14, _, h => h | 15, _, _ => trivial | 16, h, _ => absurd rfl h | _ + 17, _, _ => trivial)
            · refine AllFrom.cons ⟨rfl, fun _ a' w' hg hk hd Q => ?_, fun _ _ a' w' hc hk hd Q => ?_, fun h => absurd h (by decide)⟩ (AllFrom.cons ⟨rfl, fun _ a' w' hg hk hd Q => ?_, fun _ _ a' w' hc hk hd Q => ?_, fun h => absurd h (by decide)⟩ (AllFrom.cons ⟨rfl, fun _ a' w' hg hk hd Q => ?_, fun _ _ a' w' hc hk hd Q => ?_, fun h => absurd h (by decide)⟩ (AllFrom.cons ⟨rfl, fun _ a' w' hg hk hd Q => ?_, fun _ _ a' w' hc hk hd Q => ?_, fun h => absurd h (by decide)⟩ (AllFrom.cons ⟨rfl, fun _ a' w' hg hk hd Q => ?_, fun _ h => absurd h (by decide +kernel), fun h => absurd h (by decide)⟩ (AllFrom.cons ⟨rfl, fun _ a' w' hg hk hd Q => ?_, fun _ h => absurd h (by decide +kernel), fun h => absurd h (by decide)⟩ (AllFrom.cons ⟨rfl, fun _ a' w' hg hk hd Q => ?_, fun _ h => absurd h (by decide +kernel), fun h => absurd h (by decide)⟩ (AllFrom.cons ⟨rfl, fun _ a' w' hg hk hd Q => ?_, fun _ h => absurd h (by decide +kernel), fun h => absurd h (by decide)⟩ (AllFrom.cons ⟨rfl, fun _ a' w' hg hk hd Q => ?_, fun _ h => absurd h (by decide +kernel), fun h => absurd h (by decide)⟩ (AllFrom.cons ⟨rfl, fun _ a' w' hg hk hd Q => ?_, fun _ h => absurd h (by decide +kernel), fun h => absurd h (by decide)⟩ (AllFrom.cons ⟨rfl, fun _ a' w' hg hk hd Q => ?_, fun _ h => absurd h (by decide +kernel), fun h => absurd h (by decide)⟩ (AllFrom.cons ⟨rfl, fun _ a' w' hg hk hd Q => ?_, fun _ h => absurd h (by decide +kernel), fun h => absurd h (by decide)⟩ (AllFrom.cons ⟨rfl, fun _ a' w' hg hk hd Q => ?_, fun _ h => absurd h (by decide +kernel), fun h => absurd h (by decide)⟩ (AllFrom.cons ⟨rfl, fun _ a' w' hg hk hd Q => ?_, fun _ h => absurd h (by decide +kernel), fun h => absurd h (by decide)⟩ (AllFrom.cons ⟨rfl, fun _ a' w' hg hk hd Q => ?_, fun _ h => absurd h (by decide +kernel), fun h => absurd h (by decide)⟩ (AllFrom.cons ⟨rfl, fun _ a' w' hg hk hd Q => ?_, fun _ h => absurd h (by decide +kernel), fun h => absurd h (by decide)⟩ (AllFrom.cons ⟨rfl, fun h => absurd rfl h, fun h => absurd rfl h, fun _ a' w' hg hk hd Q => ?_⟩ AllFrom.nil))))))))))))))))
              · skip
                have e0 : a'.eval (.tmp 0) = PT X := hk.at 0 (by decide +kernel)
                exact wp_value _ (by simp only [execOp, e0]; rfl) (KS_mkv rfl rfl)
              · skip
                have e0 : a'.eval (.tmp 0) = PT X := hk.at 0 (by decide +kernel)
                exact wp_value _ (by simp only [execOp, e0]; rfl) (KS_mkv rfl rfl)
              · skip
                have e46 : a'.eval (.tmp 46) = PT X := KS_val (hd.val 0 46 (by decide +kernel)) rfl
                clear hd hk
                exact wp_value (.pointer (some ⟨X, 0, none⟩)) (by simp only [execOp, e46]; go_simp) (KS_mkv rfl rfl)
              · skip
                have e46 : a'.eval (.tmp 46) = PT X := KS_val (hd.val 0 46 (by decide +kernel)) rfl
                clear hd hk
                exact wp_value (.pointer (some ⟨X, 0, none⟩)) (by simp only [execOp, e46]; go_simp) (KS_mkv rfl rfl)
              · skip
                have e47 : a'.eval (.tmp 47) = .pointer (some ⟨X, 0, none⟩) := KS_val (hd.val 1 47 (by decide +kernel)) rfl
                clear hd hk
                exact wp_value (.pointer (some ⟨X, 1, none⟩)) (by simp only [execOp, e47]; go_simp) (KS_mkv rfl rfl)
              · skip
                have e47 : a'.eval (.tmp 47) = .pointer (some ⟨X, 0, none⟩) := KS_val (hd.val 1 47 (by decide +kernel)) rfl
                clear hd hk
                exact wp_value (.pointer (some ⟨X, 1, none⟩)) (by simp only [execOp, e47]; go_simp) (KS_mkv rfl rfl)
              · skip
                have e48 : a'.eval (.tmp 48) = .pointer (some ⟨X, 1, none⟩) := KS_val (hd.val 2 48 (by decide +kernel)) rfl
                have hc := C1.out _ hg
                clear hd hk
                exact wp_value (PT bT) (by simp only [execOp, e48]; go_simp) (KS_mkv rfl rfl)
              · skip
                have e48 : a'.eval (.tmp 48) = .pointer (some ⟨X, 1, none⟩) := KS_val (hd.val 2 48 (by decide +kernel)) rfl
                have hc := C1c.out _ hc
                clear hd hk
                exact wp_value (PT bT) (by simp only [execOp, e48]; go_simp) (KS_mkv rfl rfl)
              · skip
                have e0 : a'.eval (.tmp 0) = PT X := hk.at 0 (by decide +kernel)
                exact wp_value _ (by simp only [execOp, e0]; rfl) (KS_mkv rfl rfl)
              · skip
                have e50 : a'.eval (.tmp 50) = PT X := KS_val (hd.val 4 50 (by decide +kernel)) rfl
                clear hd hk
                exact wp_value (.pointer (some ⟨X, 0, none⟩)) (by simp only [execOp, e50]; go_simp) (KS_mkv rfl rfl)
              · skip
                have e51 : a'.eval (.tmp 51) = .pointer (some ⟨X, 0, none⟩) := KS_val (hd.val 5 51 (by decide +kernel)) rfl
                clear hd hk
                exact wp_value (.pointer (some ⟨X, 1, none⟩)) (by simp only [execOp, e51]; go_simp) (KS_mkv rfl rfl)
              · skip
                have e52 : a'.eval (.tmp 52) = .pointer (some ⟨X, 1, none⟩) := KS_val (hd.val 6 52 (by decide +kernel)) rfl
                have hc := C1.out _ hg
                clear hd hk
                exact wp_value (PT bT) (by simp only [execOp, e52]; go_simp) (KS_mkv rfl rfl)
              · skip
                have e53 : a'.eval (.tmp 53) = PT bT := KS_val (hd.val 7 53 (by decide +kernel)) rfl
                clear hd hk
                exact wp_value (.pointer (some ⟨bT, 0, none⟩)) (by simp only [execOp, e53]; go_simp) (KS_mkv rfl rfl)
              · skip
                have e54 : a'.eval (.tmp 54) = .pointer (some ⟨bT, 0, none⟩) := KS_val (hd.val 8 54 (by decide +kernel)) rfl
                clear hd hk
                exact wp_value (.pointer (some ⟨bT, 2, none⟩)) (by simp only [execOp, e54]; go_simp) (KS_mkv rfl rfl)
              · skip
                have e55 : a'.eval (.tmp 55) = .pointer (some ⟨bT, 2, none⟩) := KS_val (hd.val 9 55 (by decide +kernel)) rfl
                have hc := C2.out _ hg
                clear hd hk
                exact wp_value (bv) (by simp only [execOp, e55]; go_simp) (KS_mkv rfl rfl)
              · skip
                have e2 : a'.eval (.tmp 2) = .string fa := hk.at 2 (by decide +kernel)
                exact wp_value _ (by simp only [execOp, e2]; rfl) (KS_mkv rfl rfl)
              · skip
                have e3 : a'.eval (.tmp 3) = .string ta := hk.at 3 (by decide +kernel)
                exact wp_value _ (by simp only [execOp, e3]; rfl) (KS_mkv rfl rfl)
              · skip
                have e11 : a'.eval (.tmp 11) = .slice la m lc := hk.at 11 (by decide +kernel)
                exact wp_value _ (by simp only [execOp, e11]; rfl) (KS_mkv rfl rfl)
              · skip
                have e57 : a'.eval (.tmp 57) = .string fa := KS_val (hd.val 11 57 (by decide +kernel)) rfl
                have e58 : a'.eval (.tmp 58) = .string ta := KS_val (hd.val 12 58 (by decide +kernel)) rfl
                have e59 : a'.eval (.tmp 59) = .slice la m lc := KS_val (hd.val 13 59 (by decide +kernel)) rfl
                clear hd hk
                exact wp_value (.agg (XC x).toArray) (by simp only [execOp, List.map_toArray, List.map_cons, List.map_nil, e57, e58, e59, show Act.eval a' (.const (.bool true)) = .bool true from rfl, build_scan, Sem.run_bind, Result.andThen_ok, HXC.out]; rfl) (KS_mkv rfl rfl)
              · skip
                have e60 : a'.eval (.tmp 60) = .agg (XC x).toArray := KS_val (hd.val 14 60 (by decide +kernel)) rfl
                exact wp_grow _ _ (by simp only [execOp, List.map_toArray, List.map_cons, List.map_nil, e60, Sem.run_bind, Sem.run_pure]; exact congrArg (fun r => Result.andThen r _) (build_read1 x _)) ((Below.refl _ _).alloc (Nat.le_refl _) _) (KS_mko rfl (rdG_one w' 58 x))
              · skip
                have e56 : a'.eval (.tmp 56) = bv := KS_val (hd.val 10 56 (by decide +kernel)) rfl
                have r61 := KS_of (hd.val 15 61 (by decide +kernel)) rfl
                refine wp_append_E (E := XE) Tryz.underlying39 infoX (by decide) (.tmp 56) (.tmp 61) rfl w0.heap.size bv b.Q e56 ((HO.out).kept hg) _ [x] rfl r61 hq9.out (Nat.le_trans hB2.out hg.size) ?_
                intro v4 w4 o4 g4 q4
                obtain ⟨p9, c9, hv9⟩ := o4.form
                have hl9 : (b.Q ++ [x] : List Rz).length = b.Q.length + 1 := by simp
                rw [hl9] at hv9
                have hgs := hg.size
                exact ⟨v4, rfl, KS_mko rfl ⟨p9, c9, hv9, o4, fun k hk => (q4 k hk).imp (fun h => h) (fun h => by omega)⟩, (Chg.of_below hg).trans (Chg.of_grown g4 (fun k e _ => e))⟩
            · intro a' w3 hsz hdf hk hall hc
              have e46 : a'.eval (.tmp 46) = PT X := KS_val (hall 0 _ 46 (by decide) rfl rfl) rfl
              have e47 : a'.eval (.tmp 47) = .pointer (some ⟨X, 0, none⟩) := KS_val (hall 1 _ 47 (by decide) rfl rfl) rfl
              have e48 : a'.eval (.tmp 48) = .pointer (some ⟨X, 1, none⟩) := KS_val (hall 2 _ 48 (by decide) rfl rfl) rfl
              have e49 : a'.eval (.tmp 49) = PT bT := KS_val (hall 3 _ 49 (by decide) rfl rfl) rfl
              obtain ⟨x50, e50⟩ : ∃ v, a'.eval (.tmp 50) = v := ⟨_, rfl⟩
              have e51 : a'.eval (.tmp 51) = .pointer (some ⟨X, 0, none⟩) := KS_val (hall 5 _ 51 (by decide) rfl rfl) rfl
              have e52 : a'.eval (.tmp 52) = .pointer (some ⟨X, 1, none⟩) := KS_val (hall 6 _ 52 (by decide) rfl rfl) rfl
              have e53 : a'.eval (.tmp 53) = PT bT := KS_val (hall 7 _ 53 (by decide) rfl rfl) rfl
              have e54 : a'.eval (.tmp 54) = .pointer (some ⟨bT, 0, none⟩) := KS_val (hall 8 _ 54 (by decide) rfl rfl) rfl
              have e55 : a'.eval (.tmp 55) = .pointer (some ⟨bT, 2, none⟩) := KS_val (hall 9 _ 55 (by decide) rfl rfl) rfl
              have e56 : a'.eval (.tmp 56) = bv := KS_val (hall 10 _ 56 (by decide) rfl rfl) rfl
              obtain ⟨x57, e57⟩ : ∃ v, a'.eval (.tmp 57) = v := ⟨_, rfl⟩
              obtain ⟨x58, e58⟩ : ∃ v, a'.eval (.tmp 58) = v := ⟨_, rfl⟩
              obtain ⟨x59, e59⟩ : ∃ v, a'.eval (.tmp 59) = v := ⟨_, rfl⟩
              have e60 : a'.eval (.tmp 60) = .agg (XC x).toArray := KS_val (hall 14 _ 60 (by decide) rfl rfl) rfl
              obtain ⟨x61, e61⟩ : ∃ v, a'.eval (.tmp 61) = v := ⟨_, rfl⟩
              obtain ⟨p9, c9, e62, O3, Q3⟩ := KS_of (hall 16 _ 62 (by decide) rfl rfl) rfl
              rw [e62] at O3 Q3
              obtain ⟨x63, e63⟩ : ∃ v, a'.eval (.tmp 63) = v := ⟨_, rfl⟩
              obtain ⟨x64, e64⟩ : ∃ v, a'.eval (.tmp 64) = v := ⟨_, rfl⟩
              have ha := act_puts 76 rfl hsz hdf hk [46, 47, 48, 49, 50, 51, 52, 53, 54, 55, 56, 57, 58, 59, 60, 61, 62, 63, 64] (by decide +kernel)
              simp only [puts, List.foldl_cons, List.foldl_nil, e46, e47, e48, e49, e50, e51, e52, e53, e54, e55, e56, e57, e58, e59, e60, e61, e62, e63, e64] at ha
              simp only [Act.put, List.setIfInBounds_toArray, List.set_cons_succ, List.set_cons_zero] at ha
              clear hall hk hsz hdf e46 e47 e48 e49 e50 e51 e52 e53 e54 e55 e56 e57 e58 e59 e60 e61 e62 e63 e64
              subst ha
              have C3 := hide hc
              have O3 := hide O3
              have Q3 := hide Q3
              clear hc
              have T3 : Hid (Blk w3 bT 89 (TC b t.more)) := (show Blk _ _ _ _ by
                rw [← HbT.out]
                refine T2.out.d.chg C3.out (fun e => ?_)
                rw [← HBV.out] at e
                exact (T2.out.apart.v _ e).1 rfl)
              refine wpSeq_val rfl (.pointer (some ⟨bT, 0, none⟩)) (by simp only [execOp]; go_simp) ?_
              refine wpSeq_val rfl (.pointer (some ⟨bT, 2, none⟩)) (by simp only [execOp]; go_simp) ?_
              refine wpSeq_store_sl rfl 39 szr _ _ rfl bT 2 89 (TC b t.more) _ _ _ rfl rfl T3.out (by simp [TC]) ?_
              intro w4 hb4 hu4
              have hv : ∀ j, (Value.slice p9 (b.Q.length + 1) c9).ownBlock = some j → b.v.ownBlock = some j ∨ w2.heap.size ≤ j := fun j hj => by rw [HBV.out]; exact Q3.out j hj
              have C34 : Chg (fun k => b.v.ownBlock = some k) w2 w3 := by rw [HBV.out]; exact C3.out
              have C4 : Chg (fun j => j = bT) w3 w4 := Chg.of_but hu4 rfl
              rw [← HbT.out] at C4 hb4
              have hln : t.more.R.length < t.more.ops := by
                show t.R.length < t.ops + 1
                have := (H.out.ss.tx b t rfl).len
                omega
              have S2 : SetS w2 b.S (t.more.R ++ [plR x]) := by rw [HXP.out]; exact T2.out.set.scan fa ta g1
              have R4 := T2.out.addR S2 (Chg.refl _ _) (Below.refl _ _) O3.out C34 hv hb4 C4 HXO.out hln
              rw [HXP.out] at R4
              have C24 : Chg b.G w2 w4 := (C34.mono (fun j _ e => .inr (.inr (.inr e)))).trans (C4.mono (fun j _ e => .inl e))
              obtain ⟨b4, Hb4⟩ : ∃ z : Tb, Hid (({ b with a := p9, c := c9, Q := b.Q ++ [x] } : Tb) = z) := ⟨_, rfl⟩
              have hG4 : ∀ j, b4.G j → b.G j ∨ w2.heap.size ≤ j := by
                rw [← Hb4.out]
                rintro j (hj | hj | hj | hj)
                · exact .inl (.inl hj)
                · exact .inl (.inr (.inl hj))
                · exact .inl (.inr (.inr (.inl hj)))
                · have hj' : (Value.slice p9 (b.Q ++ [x]).length c9).ownBlock = some j := hj
                  rw [List.length_append, List.length_singleton] at hj'
                  exact (hv j hj').imp (fun h => .inr (.inr (.inr h))) (fun h => h)
              have hT4 : b4.T = b.T := by rw [← Hb4.out]
              rw [Hb4.out] at R4
              have D4 := hide (D2.out.tx R4 C24 hT4 hG4)
              have T4 := hide R4
              have K4 : Hid (Chg (SG X (some (b, t))) w w4) := (show Chg _ _ _ from K2.out.trans (C24.mono (fun j _ hj => .inr hj)))
              have HG4 : Hid (∀ k, SG X (some (b4, t')) k → SG X (some (b, t)) k ∨ w.heap.size ≤ k) := (show _ from fun k hk => by
                rcases hk with hk | hk
                · exact .inl (.inl hk)
                · refine (hG4 k hk).imp (fun h => .inr h) (fun h => ?_)
                  have := K2.out.size
                  omega)
              have HT4 := hide hT4
              have P4 : Hid (RdG PE w4 (.slice la m lc) g1) := (show RdG _ _ _ _ from (O2.out.chg C24 (fun k hk hg => by
                obtain ⟨_, _, cur, hcc⟩ := O2.out.block hk
                have hk2 : k < w2.heap.size := (O2.out.block hk).2.1
                rcases hg with hg | hg | hg | hg
                · rw [hg] at hcc; exact cells_ne hcc T2.out.d (by decide) rfl
                · rw [hg] at hcc; exact cells_map hcc T2.out.set.block rfl
                · rw [hg] at hcc; exact cells_map hcc T2.out.buf.mp.block rfl
                · obtain ⟨_, _, cur', hc'⟩ := T2.out.row.block hg
                  exact cells_ne hcc hc' (by decide) rfl)).rd)
              have c41 := D4.out.ss.x.cell (j := 1) rfl
              have d44 := T4.out.d.cell (j := 4) rfl
              simp only [SPt] at c41
              rw [HT4.out, HbT.out] at c41 d44
              obtain ⟨bD, HbD⟩ : ∃ z, Hid (b4.D = z) := ⟨_, rfl⟩
              rw [HbD.out] at d44
              have CO := hide (over_any T4.out.buf.ov P4.out fa ta 200 (by have h1 := T4.out.buf.len; have h2 := HMm.out; have h3 : t.more.W.length ≤ 64 := h1; show g1.length + t.more.W.length ≤ 1000000; omega))
              rw [HbD.out, show overB g1 t.more.W fa ta 200 = r1 from HRV.out] at CO
              have hr4 : Hid (w.heap.size ≤ w4.heap.size) := (show _ from K4.out.size)
              clear C34 C4 hb4 hu4 hv hln S2 R4 C24 hG4 hT4 T3 C3 O3 Q3
              simp only [wpSeq]
              go_wp2_with fail
              refine CO.out.mono ?_
              rintro e w5 ⟨v5, rfl, ho5, hb5⟩
              have O5 : Hid (OwnG PE w5 w.heap.size 51 v5 r1) := (show OwnG _ _ _ _ _ _ from ho5.mono hr4.out)
              have D5 := hide (D4.out.kept hb5)
              have K5 : Hid (Chg (SG X (some (b, t))) w w5) := (show Chg _ _ _ from K4.out.trans (Chg.of_below hb5))
              clear ho5 hb5
              go_wp2_with fail
              go_ret2
              rw [← HRT.out]
              exact ⟨v5, ⟨rfl, b4, D5.out, K5.out, HT4.out, by rw [HRT.out]; exact HG4.out⟩, O5.out⟩
        · have q3 : (g2 != 0) = true := by simp [h3]
          have hg := HG2.out
          rw [if_pos (by simpa using h3)] at hg
          cases hg
          go_wp2_with fail
          go_ret2
          exact ⟨_, ⟨rfl, b, D2.out, K2.out, rfl, fun k hk => .inl hk⟩, ownG_nil _ _ _⟩
end Go.Proofs.YtcicekggeampcaaGreat

/-
  package session: slices.Clone over reads, copied: what the calls do.
-/
namespace Go.Proofs.YtcicekggeampcaaGreat
open Go.RowKit
theorem cs_set1 {α : Type} {E : Enc α} {R : List α} {i j : Nat} (h : i < R.length) (hj : j < E.n) {u : Value} {y : α} (hy : (E.c R[i]).set j u = E.c y) : (E.cs R).set (i * E.n + j) u = E.cs (R.set i y) := by
  have e : E.cs R = E.cs (R.take i) ++ (E.c R[i] ++ E.cs (R.drop (i + 1))) := by rw [← Enc.cs_cons, ← Enc.cs_append, ← List.drop_eq_getElem_cons h, List.take_append_drop]
  have hl : (E.cs (R.take i)).length = i * E.n := by rw [Enc.cs_length, List.length_take, Nat.min_eq_left (by omega)]
  rw [e, List.set_append_right _ _ (by rw [hl]; omega), hl, Nat.add_sub_cancel_left, List.set_append_left _ _ (by rw [E.len]; exact hj), hy, List.set_eq_take_append_cons_drop, if_pos h, Enc.cs_append, Enc.cs_cons]
set_option maxHeartbeats 1000000 in
set_option maxRecDepth 100000 in
theorem cloneR_any {w : World} {v : Value} {l : List Rz} (h : RdG XE w v l) (hl : l.length ≤ 1000000) :
    Calls Tryz.prog 67 #[v] w fun e w' => ∃ v', e = .returned v' ∧ OwnG XE w' w.heap.size 58 v' l ∧ Below w.heap.size w w' := by
  have HR := hide h
  obtain ⟨a, cap, rfl, h1, h2, h3, h4⟩ := h
  clear h4
  have hq := fun W => Lib.run_eql_slice_nil (P := Tryz.prog) W 39 58 a l.length cap 0 0 Tryz.underlying39
  obtain ⟨n, HN⟩ : ∃ n, Hid (l.length = n) := ⟨_, rfl⟩
  rw [HN.out] at HR h1 hl hq ⊢
  go_enter Tryz.func67, Tryz.ntmps67
  cases a with
  | none =>
    have hc0 := h3 rfl
    have hl0 : l = [] := List.eq_nil_of_length_eq_zero (by rw [HN.out]; omega)
    obtain rfl : n = 0 := by omega
    subst hl0 hc0
    simp only [Option.isNone_none] at hq ⊢
    go_wp2
    go_ret
    exact ⟨_, rfl, ownG_nil _ _ _, Below.refl _ _⟩
  | some x =>
    simp only [Option.isNone_some] at hq
    have A1 : Hid (Below w.heap.size w (w.alloc (.cells #[] 58 (0, 0)))) := (Below.refl _ _).alloc (Nat.le_refl _) _
    have O1 : Hid (OwnG XE (w.alloc (.cells #[] 58 (0, 0))) w.heap.size 58 (.slice (some ⟨w.heap.size, 0, none⟩) 0 0) []) := own_empty w w.heap.size 58 (Nat.le_refl _)
    have R1 := hide (HR.out.kept A1.out)
    have hb1 : Hid (([] : List Rz).length + l.length ≤ 10000000) := (show 0 + l.length ≤ 10000000 by rw [HN.out]; omega)
    go_wp2_with (first
      | (refine wpList_append_E (E := XE) Tryz.underlying39 infoX (by decide) rfl (.tmp 5) (.tmp 6) rfl w.heap.size (.slice (some ⟨w.heap.size, 0, none⟩) 0 0) [] rfl O1.out _ l rfl R1.out hb1.out A1.out.size ?_; intro v9 w9 o9 g9 q9; have O9 := hide o9; have G9 := hide g9; clear o9 g9 q9; obtain ⟨p9, c9, hv9⟩ := O9.out.form; obtain ⟨n2, hn2⟩ : ∃ k, ([] ++ l : List Rz).length = k := ⟨_, rfl⟩; rw [hn2] at hv9; subst hv9)
      | fail)
    go_ret
    refine ⟨_, rfl, O9.out, A1.out.trans ((Chg.of_grown (F := fun k => k = w.heap.size) G9.out (fun k e _ => by simpa [Value.ownBlock] using e.symm)).below A1.out.size (fun k hk e => by omega))⟩
/-- A read with its pairs elsewhere. -/
def Rz.at (x : Rz) (a : Option Addr) (c : Nat) : Rz := ⟨x.sc, x.k, x.t, x.ps, a, c⟩
theorem szs : ∀ W : World, (sizeOf 35).run Tryz.prog W = .ok 1 W := fun W => by kernel_rfl
/-- What copied has made so far: its own row, in which the first reads have pairs of their own. -/
structure CopX (w : World) (B : Nat) (v : Value) (Q L : List Rz) (i : Nat) : Prop where
  row : OwnG XE w B 58 v L
  pl : L.map plR = Q.map plR
  rest : L.drop i = Q.drop i
  own : ∀ y ∈ L.take i, OwnG PE w B 51 (xv y) y.ps
theorem CopX.step {w w1 w2 : World} {B g n cap i : Nat} {Q L : List Rz} {x : Rz} {p : Option Addr} {c : Nat} (h : CopX w B (.slice (some ⟨g, 0, none⟩) n cap) Q L i) (hi : i < L.length) (hx : L[i] = x) (hb : Below w.heap.size w w1) (ho : OwnG PE w1 w.heap.size 51 (.slice p x.ps.length c) x.ps) (hB : B ≤ w.heap.size)
    {cur : List Value} (hcur : Blk w1 g 58 cur) (htk : cur.take (L.length * 4) = XE.cs L) (hcl : cur.length = cap * 4) (hg : B ≤ g ∧ n ≤ cap ∧ cap ≤ maxLen) (h2 : Blk w2 g 58 (cur.set (i * 4 + 3) (.slice p x.ps.length c))) (hu : But g w1 w2) :
    CopX w2 B (.slice (some ⟨g, 0, none⟩) n cap) Q (L.set i (x.at p c)) (i + 1) := by
  have hln : L.length = n := h.row.rd.len
  have hC : Chg (fun k => k = g) w1 w2 := Chg.of_but hu rfl
  have hne : ∀ {w' : World} {B' : Nat} {v : Value} {l : List Pr}, OwnG PE w' B' 51 v l → Blk w' g 58 cur → ∀ k, v.ownBlock = some k → ¬ k = g := fun h hc k hk e => by
    obtain ⟨_, _, cu, h5⟩ := h.block hk
    exact cells_ne h5 hc (by decide) e
  have hpl : plR (x.at p c) = plR x := rfl
  refine ⟨?_, ?_, ?_, fun y hy => ?_⟩
  · have hs : (XE.c L[i]).set 3 (.slice p x.ps.length c) = XE.c (x.at p c) := by rw [hx]; rfl
    have e := cs_set1 (E := XE) hi (by decide : 3 < XE.n) hs
    have hfin := OwnG.of_blk (E := XE) (B := B) (cap := cap) (L := L.set i (x.at p c)) h2 hg.1 (by
      rw [List.length_set, show XE.n = 4 from rfl, List.take_set, htk]
      exact e) (by rw [List.length_set]; exact hcl) (by rw [List.length_set, hln]; exact hg.2.1) hg.2.2
    rw [List.length_set, hln] at hfin
    exact hfin
  · rw [← h.pl, List.map_set, hpl, ← hx]
    exact List.ext_getElem (by simp) (fun j h1 h3 => by
      rw [List.getElem_set]
      split
      · rename_i e
        subst e
        simp
      · rfl)
  · rw [List.drop_set_of_lt (by omega)]
    have h1 := congrArg (List.drop 1) h.rest
    rw [List.drop_drop, List.drop_drop] at h1
    exact h1
  · have hlt : i < (L.set i (x.at p c)).length := by rw [List.length_set]; exact hi
    rw [List.take_succ_eq_append_getElem hlt, List.getElem_set_self, List.take_set_of_le (Nat.le_refl i)] at hy
    rcases List.mem_append.1 hy with hy | hy
    · have h1 := (h.own y hy).kept hb
      exact h1.chg hC (hne h1 hcur)
    · rw [List.mem_singleton] at hy
      subst hy
      exact (ho.chg hC (hne ho hcur)).mono hB
set_option maxHeartbeats 4000000 in
set_option maxRecDepth 100000 in
theorem zCopied_any {w : World} {v : Value} {Q : List Rz} (h : RdX w v Q) (hl : Q.length ≤ 1000000) (hp : ∀ x ∈ Q, x.ps.length ≤ 1000000) :
    Calls Tryz.prog 34 #[v] w fun e w' => ∃ v' L, e = .returned v' ∧ OwnR9 w' w.heap.size v' L ∧ L.map plR = Q.map plR ∧ Below w.heap.size w w' := by
  have HR := hide h
  have HPL := hide hp
  have CC := hide (cloneR_any h.rd hl)
  obtain ⟨n, HN⟩ : ∃ n, Hid (Q.length = n) := ⟨_, rfl⟩
  obtain ⟨N, HNw⟩ : ∃ N, Hid (w.heap.size = N) := ⟨_, rfl⟩
  rw [HNw.out] at CC ⊢
  clear h hp hl
  go_enter Tryz.func34, Tryz.ntmps34
  go_wp2_with fail
  refine CC.out.mono ?_
  rintro e w1 ⟨v1, rfl, ho, hb⟩
  have O1 := hide ho
  have L1 : Hid (Below N w w1) := hb
  obtain ⟨pa, cap, rfl⟩ := ho.form
  rw [HN.out] at O1 ⊢
  have hnm := Nat.le_trans O1.out.rd.cap O1.out.rd.max
  have X1 : Hid (CopX w1 N (.slice pa n cap) Q Q 0) := (show CopX _ _ _ _ _ _ from ⟨O1.out, rfl, rfl, fun y hy => by simp at hy⟩)
  clear ho hb CC
  go_wp2_with fail
  go_loopg [9] (n + 1) (fun g z wr => ∃ (i : Nat) (L : List Rz), i ≤ n ∧ g + i = n + 1 ∧ z = .int .i64 (i : Int) ∧ Hid (CopX wr N (.slice pa n cap) Q L i) ∧ Hid (Below N w wr))
  case atStart => exact ⟨0, Q, Nat.zero_le _, by omega, rfl, X1, L1⟩
  case round =>
    clear X1 L1 O1
    obtain ⟨i, L, hi, hg, rfl, XR, LR⟩ := hrel
    by_cases hlt : i < n
    · have hlt' : (i : Int) < (n : Int) := by omega
      have hLl : L.length = n := XR.out.row.rd.len
      have hiL : i < L.length := by omega
      have hiQ : i < Q.length := by rw [HN.out]; exact hlt
      have HLQ : Hid (L[i] = Q[i]) := (show L[i] = Q[i] by
        have h1 := XR.out.rest
        rw [List.drop_eq_getElem_cons hiL, List.drop_eq_getElem_cons hiQ] at h1
        exact (List.cons.inj h1).1)
      obtain ⟨g', cap', cur, hv, hBg, hB, htk, hcl, hlc, hcm⟩ := XR.out.row.blk (by omega)
      simp only [Value.slice.injEq] at hv
      obtain ⟨rfl, -, rfl⟩ := hv
      obtain ⟨x, HX⟩ : ∃ x, Hid (Q[i] = x) := ⟨Q[i], (show Q[i] = Q[i] from rfl)⟩
      have hXO := HR.out.ps _ (List.getElem_mem hiQ)
      have hXP := HPL.out _ (List.getElem_mem hiQ)
      rw [HX.out] at hXO hXP HLQ
      have bw : Below w.heap.size w wr := by rw [HNw.out]; exact LR.out
      have CP := hide (cloneP_any (RdG.kept hXO bw) hXP)
      have cc : wr.cell? ⟨g', i * 4 + 3, none⟩ = some (xv x) := by
        refine hB.cell ?_
        have h1 : (XE.cs L)[i * 4 + 3]? = some (xv x) := Enc.cs_get (E := XE) hiL (by rw [HLQ.out]; rfl)
        rw [← htk] at h1
        rw [List.getElem?_take] at h1
        split at h1
        · exact h1
        · cases h1
      have HB := hide hB
      have HTK := hide htk
      have HCL := hide hcl
      have HF : Hid (N ≤ g' ∧ n ≤ cap ∧ cap ≤ maxLen) := (show _ ∧ _ ∧ _ from ⟨hBg, by omega, hcm⟩)
      have HLL := hide hLl
      obtain ⟨M, HM⟩ : ∃ M, Hid (wr.heap.size = M) := ⟨_, rfl⟩
      rw [HM.out] at CP
      clear hXO hXP bw hB htk hcl hBg hlc hcm hLl
      go_wp2_with fail
      refine CP.out.mono ?_
      rintro e w2 ⟨v2, rfl, ho, hb⟩
      obtain ⟨p2, c2, rfl⟩ := ho.form
      have O2 := hide ho
      have L2 : Hid (Below M wr w2) := (show Below _ _ _ from hb)
      obtain ⟨m, HMm⟩ : ∃ m, Hid (x.ps.length = m) := ⟨_, rfl⟩
      rw [HMm.out] at O2 ⊢
      have B2 : Hid (Blk w2 g' 58 cur) := (show Blk _ _ _ _ from HB.out.kept (hb.mono (Nat.le_of_eq HM.out)))
      have hcl2 : i * 4 + 3 < cur.length := by have h1 := HCL.out; have h2 := HF.out; simp only [show XE.n = 4 from rfl] at h1; omega
      clear ho hb cc CP
      go_wp2_with (first
        | (refine wpList_store_sl rfl 35 szs _ _ rfl g' (i * 4 + 3) 58 cur _ _ _ rfl rfl B2.out hcl2 ?_; intro w3 hb3 hu3)
        | fail)
      have HML : M ≤ wr.heap.size := Nat.le_of_eq HM.out.symm
      have hNM : N ≤ wr.heap.size := by have := LR.out.size; have := HNw.out; omega
      have X3 : Hid (CopX w3 N (.slice (some ⟨g', 0, none⟩) n cap) Q (L.set i (x.at p2 c2)) (i + 1)) := (show CopX _ _ _ _ _ _ from
        XR.out.step hiL HLQ.out (by rw [HM.out]; exact L2.out) (by rw [HM.out, HMm.out]; exact O2.out) hNM B2.out (by have := HTK.out; exact this) HCL.out HF.out (by rw [HMm.out]; exact hb3) hu3)
      have L3 : Hid (Below N w w3) := (show Below _ _ _ from (LR.out.trans (L2.out.mono (by rw [← HM.out]; exact hNM))).trans (hu3.below HF.out.1 (by have := L2.out.size; omega)))
      clear hb3 hu3 hcl2
      go_roundg (n - i)
      case measure => omega
      case rel => exact ⟨i + 1, L.set i (x.at p2 c2), by omega, by omega, by go_num, X3, L3⟩
    · obtain rfl : i = n := by omega
      have hlt' : ¬ (i : Int) < i := by omega
      go_wp2_with fail
      go_ret
      refine ⟨_, rfl, L, ⟨XR.out.row, fun y hy => ?_⟩, XR.out.pl, LR.out⟩
      have hLl : L.length = i := XR.out.row.rd.len
      exact XR.out.own y (by rw [List.take_of_length_le (by omega)]; exact hy)
end Go.Proofs.YtcicekggeampcaaGreat
