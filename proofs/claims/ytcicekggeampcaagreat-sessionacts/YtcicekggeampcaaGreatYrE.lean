/-
  The document's session: Scan: what the call does.
-/
import Derived.Test.YtcicekggeampcaaGreatYrD
namespace Go.Proofs.YtcicekggeampcaaGreat
open Go.RowKit
theorem yScan_no {w : World} {B Y : Nat} {id : Int} (h : YAt w B Y id none) (v : Value) (fa ta : ByteArray) : Calls Tryz.prog 25 #[PT Y, v, .string fa, .string ta] w fun e w' => e = .returned (.tuple #[.slice none 0 0, .int .i64 9]) ∧ w' = w := by
  have CM := hide (yMay_no h)
  clear h
  go_enter Tryz.func25, Tryz.ntmps25
  go_wp2_with fail
  refine CM.out.mono ?_
  rintro e w_ ⟨rfl, hw⟩
  subst w_
  go_wp2_with fail
  go_ret2
  exact ⟨rfl, rfl⟩
set_option maxHeartbeats 4000000 in
set_option maxRecDepth 100000 in
theorem yScan_any {w : World} {B Y R : Nat} {id : Int} {b : Yb} {t : Tx} {vr : Value} {rs : List RK} {s : SP} (h : YAt w B Y id (some (b, t))) (hs : RS w R vr rs s) (hY : ¬ SRB R vr rs Y) (hB : B ≤ w.heap.size) (hl : t.W.length ≤ 64) (hN : rs.length ≤ 1000000) (fa ta : ByteArray) :
    Calls Tryz.prog 25 #[PT Y, PT R, .string fa, .string ta] w fun e w' => ∃ v, RefPost w B Y id b t (scanT s (rs.map (·.1)) t fa ta).2 (.tuple #[v, .int .i64 (scanT s (rs.map (·.1)) t fa ta).1.2]) e w' ∧ RdG PE w' v (scanT s (rs.map (·.1)) t fa ta).1.1 := by
  have H := hide h
  have HSR := hide hs
  have HY := hide hY
  have HB := hide hB
  have HL := hide hl
  have HN := hide hN
  have CA := hide (yMay_any h)
  obtain ⟨ks, HKS⟩ : ∃ ks, Hid (rs.map (·.1) = ks) := ⟨_, rfl⟩
  rw [HKS.out]
  obtain ⟨⟨⟨r1, r2⟩, t'⟩, HR⟩ : ∃ r, Hid (scanT s ks t fa ta = r) := ⟨_, rfl⟩
  rw [HR.out]
  simp only
  have hlf : ∀ W, (Builtin.len_ #[9] 3 #[.string fa]).run Tryz.prog W = .ok (.int .i64 (fa.size : Int)) W := fun W => by simp [Builtin.len_, go_sem]
  have hlt : ∀ W, (Builtin.len_ #[9] 3 #[.string ta]).run Tryz.prog W = .ok (.int .i64 (ta.size : Int)) W := fun W => by simp [Builtin.len_, go_sem]
  obtain ⟨fn, HFN⟩ : ∃ n, Hid (fa.size = n) := ⟨_, rfl⟩
  obtain ⟨tn, HTN⟩ : ∃ n, Hid (ta.size = n) := ⟨_, rfl⟩
  rw [HFN.out] at hlf
  rw [HTN.out] at hlt
  clear h hs hY hB hl hN
  go_enter Tryz.func25, Tryz.ntmps25
  go_wp2_with fail
  refine CA.out.mono ?_
  rintro e w1 (⟨hm, rfl, hw⟩ | ⟨hm, rfl, S1, C1⟩)
  · subst w1
    have hg := HR.out
    unfold scanT at hg
    rw [if_pos hm] at hg
    cases hg
    go_wp2_with fail
    go_ret2
    exact ⟨_, ⟨rfl, b, H.out, Chg.refl _ _, fun k hk => .inl hk⟩, RdG_nil _⟩
  · have HM : Hid (t.ops < 64) := hm
    have Y1 := hide S1
    have K1 : Hid (Chg (YG Y (some (b, t))) w w1) := (show Chg _ _ _ from C1.mono (fun k _ hk => .inl hk))
    have R1 := hide (HSR.out.may C1 HY.out)
    have HG : Hid ((if 64 < fa.size ∨ 64 < ta.size then (([], 2), t.more) else if (scanS s ks fa ta t.snap 201).2 ≠ 0 then (([], (scanS s ks fa ta t.snap 201).2), t.more) else if 200 < (scanS s ks fa ta t.snap 201).1.length then (([], 13), t.more) else ((overB (scanS s ks fa ta t.snap 201).1 t.W fa ta 200, 0), { t.more with R := t.R ++ [(true, fa, ta, (scanS s ks fa ta t.snap 201).1)] })) = ((r1, r2), t')) := (show _ = _ by
      have hg := HR.out
      unfold scanT at hg
      rwa [if_neg (by omega)] at hg)
    clear S1 C1 hm CA
    by_cases h1 : 64 < fn
    · have q1 : decide (64 < (fn : Int)) = true := by simp; omega
      have hg := HG.out
      rw [if_pos (.inl (by rw [HFN.out]; exact h1))] at hg
      cases hg
      go_wp2_with fail
      go_ret2
      exact ⟨_, ⟨rfl, b, Y1.out, K1.out, fun k hk => .inl hk⟩, RdG_nil _⟩
    · have q1 : decide (64 < (fn : Int)) = false := by simp; omega
      by_cases h2 : 64 < tn
      · have q2 : decide (64 < (tn : Int)) = true := by simp; omega
        have hg := HG.out
        rw [if_pos (.inr (by rw [HTN.out]; exact h2))] at hg
        cases hg
        go_wp2_with fail
        go_ret2
        exact ⟨_, ⟨rfl, b, Y1.out, K1.out, fun k hk => .inl hk⟩, RdG_nil _⟩
      · have q2 : decide (64 < (tn : Int)) = false := by simp; omega
        obtain ⟨sn, HSN⟩ : ∃ z, Hid (t.snap = z) := ⟨_, rfl⟩
        have CS := hide (vScan_any R1.out HN.out fa ta sn 201)
        have HSL := hide (scanS_len s ks fa ta t.snap)
        obtain ⟨⟨g1, g2⟩, HGS⟩ : ∃ g, Hid (scanS s ks fa ta t.snap 201 = g) := ⟨_, rfl⟩
        have hg := HG.out
        rw [if_neg (by rw [HFN.out, HTN.out]; omega)] at hg
        rw [HKS.out, ← HSN.out] at CS
        rw [HGS.out] at CS hg HSL
        simp only at CS hg HSL
        have HG2 := hide hg
        rw [HSN.out] at CS
        have c2 := Y1.out.x.cell (j := 2) rfl
        rw [show t.more.snap = t.snap from rfl, HSN.out] at c2
        clear hg
        go_wp2_with fail
        refine CS.out.mono ?_
        rintro e w2 ⟨v2, rfl, ho, hb2⟩
        have O2 := hide ho
        obtain ⟨la, lc, rfl⟩ := ho.form
        have Y2 := hide (Y1.out.kept hb2)
        have K2 : Hid (Chg (YG Y (some (b, t))) w w2) := (show Chg _ _ _ from K1.out.trans (Chg.of_below hb2))
        have T2 := hide (Y2.out.tx b t.more rfl)
        have hww1 : Hid (B ≤ w1.heap.size) := (show B ≤ _ from Nat.le_trans HB.out K1.out.size)
        have hww2 : Hid (B ≤ w2.heap.size) := (show B ≤ _ from Nat.le_trans HB.out K2.out.size)
        clear ho hb2 c2 CS
        obtain ⟨m, HMm⟩ : ∃ m, Hid (g1.length = m) := ⟨_, rfl⟩
        rw [HMm.out] at O2 HSL HG2 ⊢
        by_cases h3 : g2 = 0
        · have q3 : (g2 != 0) = false := by simp [h3]
          by_cases h4 : 200 < m
          · have q4 : decide (200 < (m : Int)) = true := by simp; omega
            have hg := HG2.out
            rw [if_neg (by simpa using h3), if_pos h4] at hg
            cases hg
            go_wp2_with fail
            go_ret2
            exact ⟨_, ⟨rfl, b, Y2.out, K2.out, fun k hk => .inl hk⟩, RdG_nil _⟩
          · have q4 : decide (200 < (m : Int)) = false := by simp; omega
            have hg := HG2.out
            rw [if_neg (by simpa using h3), if_neg h4] at hg
            obtain ⟨hg1, hg2⟩ := Prod.mk.inj hg
            obtain ⟨hg3, hg4⟩ := Prod.mk.inj hg1
            have HRV : Hid (overB g1 t.W fa ta 200 = r1) := hg3
            have HRT : Hid ({ t.more with R := t.R ++ [(true, fa, ta, g1)] } = t') := hg2
            subst hg4
            clear hg hg1 hg2 hg3 h3
            obtain ⟨x, hx⟩ : ∃ x : Rz, x = ⟨true, fa, ta, g1, la, lc⟩ := ⟨_, rfl⟩
            have HXC : Hid (XC x = [.bool true, .string fa, .string ta, .slice la m lc]) := (show _ = _ by rw [hx, ← HMm.out]; rfl)
            have HXO2 : Hid (OwnG PE w2 B 51 (xv x) x.ps) := (show OwnG _ _ _ _ _ _ by
              rw [hx]
              show OwnG PE w2 B 51 (.slice la g1.length lc) g1
              rw [HMm.out]
              exact O2.out.mono hww1.out)
            have HXR : Hid ((ownP (b.Q ++ [x])).map plR = t.R ++ [(true, fa, ta, g1)]) := (show _ = _ by
              have hpl : (ownP b.Q).map plR = t.R := T2.out.pl
              rw [own_read hpl x, hx]
              rfl)
            have hlen : Hid (b.Q.length < t.more.ops) := (show b.Q.length < t.ops + 1 by
              have := (H.out.tx b t rfl).len
              omega)
            have hq9 : Hid (b.Q.length + [x].length ≤ 10000000) := (show b.Q.length + 1 ≤ 10000000 by
              have h1 := (H.out.tx b t rfl).len
              have h2 := (H.out.tx b t rfl).ops
              omega)
            have c5 := Y2.out.x.cell (j := 5) rfl
            obtain ⟨bB, HbB⟩ : ∃ z, Hid (b.B = z) := ⟨_, rfl⟩
            obtain ⟨E5, HE5⟩ : ∃ E, Hid (w2.heap.size = E) := ⟨_, rfl⟩
            obtain ⟨w6, hw6⟩ : ∃ y, y = w2.alloc (.cells (XC x).toArray 58 (0, 0)) := ⟨_, rfl⟩
            obtain ⟨b6, l6⟩ := newB HE5 hw6
            have HW6 := hide hw6
            have R6 : Hid (RdG XE w6 (.slice (some ⟨E5, 0, none⟩) 1 1) [x]) := (show RdG _ _ _ _ by rw [hw6, ← HE5.out]; exact rdG_one w2 58 x)
            have Y6 := hide (Y2.out.kept l6.out)
            have O6 : Hid (OwnG XE w6 B 58 b.v b.Q) := (show OwnG _ _ _ _ _ _ from (Y6.out.tx b t.more rfl).row)
            have HXO := hide (HXO2.out.kept l6.out)
            have hB6 : Hid (B ≤ w6.heap.size) := (show B ≤ _ by have := hww2.out; have := l6.out.size; omega)
            have K6 : Hid (Chg (YG Y (some (b, t))) w w6) := (show Chg _ _ _ from K2.out.trans (Chg.of_below l6.out))
            have hvY : Hid (∀ w7 : World, Chg (fun j => b.v.ownBlock = some j) w6 w7 → Blk w7 Y 47 (YC id (some (b, t.more)))) := (show _ from fun w7 c => Y6.out.x.chg c (fun e => by
              obtain ⟨_, _, cur, hc⟩ := O6.out.block e
              exact cells_ne hc Y6.out.x (by decide) rfl))
            have P2 : Hid (RdG PE w2 (.slice la m lc) g1) := (show RdG _ _ _ _ from O2.out.rd)
            have Y8 : Hid (∀ w7 w8 : World, ∀ p9 : Option Addr, ∀ n9 c9 : Nat, (b.Q ++ [x]).length = n9 → OwnG XE w7 B 58 (.slice p9 n9 c9) (b.Q ++ [x]) → Chg (fun j => b.v.ownBlock = some j) w6 w7 → (∀ k, (Value.slice p9 n9 c9).ownBlock = some k → b.v.ownBlock = some k ∨ w6.heap.size ≤ k) →
                Blk w8 Y 47 ((YC id (some (b, t.more))).set 5 (.slice p9 n9 c9)) → Chg (fun k => k = Y) w7 w8 → ∃ b', YAt w8 B Y id (some (b', t')) ∧ Chg (YG Y (some (b, t))) w w8 ∧ (∀ k, YG Y (some (b', t')) k → YG Y (some (b, t)) k ∨ w.heap.size ≤ k) ∧ b'.B = bB ∧ RdG PE w8 (.slice la m lc) g1) := (show _ from fun w7 w8 p9 n9 c9 hn o7 c7 hv hb8 c8 => by
              obtain ⟨b', hy, hc, hG⟩ := Y6.out.read hn HXO.out hlen.out o7 c7 hv hb8 c8 HXR.out
              have e6 : b'.B = bB := by
                have h1 := hy.x.cell (j := 6) rfl
                have h2 := hb8.cell (j := 6) rfl
                rw [h1] at h2
                have h3 := congrArg (fun v => match v with | some (Value.pointer (some a)) => a.block | _ => 0) h2
                exact h3.trans HbB.out
              rw [HRT.out] at hy hG
              refine ⟨b', hy, K6.out.trans hc, fun j hj => (hG j hj).imp (fun e => e) (fun h => Nat.le_trans K6.out.size h), e6, ?_⟩
              have o6 : OwnG PE w6 w1.heap.size 51 (.slice la m lc) g1 := O2.out.kept l6.out
              refine (o6.chg hc (fun k hk hf => ?_)).rd
              obtain ⟨_, _, cur, hcc⟩ := o6.block hk
              exact Y6.out.noT (by decide) (by decide) (by decide) k cur hcc hf)
            have hbr := build_scan fa ta la m lc
            clear hw6 hx
            have CO : Hid (∀ w8 : World, ∀ b' : Yb, YAt w8 B Y id (some (b', t')) → b'.B = bB → RdG PE w8 (.slice la m lc) g1 → Calls Tryz.prog 58 #[PT bB, .slice la m lc, .string fa, .string ta, .int .i64 200] w8 fun e w' => ∃ v, e = .returned v ∧ RdG PE w' v r1 ∧ Below w8.heap.size w8 w') := (show _ from fun w8 b' hy he hr => by
              have ht := hy.tx b' t' rfl
              have hW : t'.W = t.W := by rw [← HRT.out]; rfl
              have hbf : RBf w8 bB b'.vb t'.W := by rw [← he]; exact ht.buf
              rw [hW] at hbf
              have hr' : RdG PE w8 (.slice la m lc) g1 := hr
              have := rOver_any hbf HL.out hr' fa ta 200 (by rw [HMm.out]; omega)
              rw [HRV.out] at this
              exact this)
            go_upto_region 11 with fail
            go_wp2_with (first
              | (refine wpList_build1E (E := XE) (fun x W => build_read1 x W) rfl _ rfl x (by show _ = Value.agg (XC x).toArray; rw [HXC.out]; rfl) ?_; change wpList _ _ _ _ _ (w2.alloc (.cells (XC x).toArray 58 (0, 0))); rw [← HW6.out, HE5.out])
              | (refine wpList_append_E (E := XE) Tryz.underlying39 infoX (by decide) rfl (.tmp 47) (.tmp 52) rfl B b.v b.Q rfl O6.out _ [x] rfl R6.out hq9.out hB6.out ?_; intro v7 w7 o7 g7 q7; have O7 := hide o7; have G7 := hide g7; have Q7 := hide q7; clear o7 g7 q7; obtain ⟨p9, c9, hv9⟩ := O7.out.form; obtain ⟨n2, hn2⟩ : ∃ k, (b.Q ++ [x] : List Rz).length = k := ⟨_, rfl⟩; rw [hn2] at hv9; subst hv9; have C7 : Hid (Chg (fun j => b.v.ownBlock = some j) w6 w7) := (show Chg _ _ _ from Chg.of_grown G7.out (fun j e _ => e)); have T7 := hide (hvY.out w7 C7.out))
              | (refine wpList_store_sl rfl 39 szr _ _ rfl Y 5 47 (YC id (some (b, t.more))) _ _ _ rfl rfl T7.out (by simp [YC]) ?_; intro w8 hb8 hu8; obtain ⟨b', hy, hc, hG, he, hr8⟩ := Y8.out w7 w8 p9 n2 c9 hn2 O7.out C7.out (fun j hj => (Q7.out j hj).imp (fun e => e) (fun h => Nat.le_of_eq h.symm)) hb8 (Chg.of_but hu8 rfl); have c86 := hy.x.cell (j := 6) rfl; rw [he] at c86; have CO8 := hide (CO.out w8 b' hy he hr8); have Y9 := hide hy; have K9 := hide hc; have G9 : Hid (∀ k, YG Y (some (b', t')) k → YG Y (some (b, t)) k ∨ w.heap.size ≤ k) := hG; clear hy hc hG he hr8 hb8 hu8 hvY Y8 CO)
              | fail)
            refine CO8.out.mono ?_
            rintro e w9 ⟨v9, rfl, hr9, hb9⟩
            have R9 := hide hr9
            have Y10 := hide (Y9.out.kept hb9)
            have K10 : Hid (Chg (YG Y (some (b, t))) w w9) := (show Chg _ _ _ from K9.out.trans (Chg.of_below hb9))
            clear hr9 hb9
            go_wp2_with fail
            go_ret2
            exact ⟨v9, ⟨rfl, b', Y10.out, K10.out, G9.out⟩, R9.out⟩
        · have q3 : (g2 != 0) = true := by simp [h3]
          have hg := HG2.out
          rw [if_pos (by simpa using h3)] at hg
          cases hg
          go_wp2_with fail
          go_ret2
          exact ⟨_, ⟨rfl, b, Y2.out, K2.out, fun k hk => .inl hk⟩, RdG_nil _⟩
end Go.Proofs.YtcicekggeampcaaGreat
