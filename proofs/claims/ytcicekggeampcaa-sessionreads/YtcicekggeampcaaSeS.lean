/-
  package session: Scan: what the call does.
-/
import Derived.Test.YtcicekggeampcaaSeP
import Derived.Test.YtcicekggeampcaaRegion16
namespace Go.Proofs.Ytcicekggeampcaa
open Go.RowKit
theorem wpSeq_val {P : Program} {o : Oper} {rest : List Oper} {a : Act} {w : World} {Q : Exit → Act → World → Prop} (hg : o.guard = none) (v : Value) (hrun : (execOp a.eval o).run P w = .ok (.value v) w) (h : wpSeq P Q rest (a.put o.dst v) w) : wpSeq P Q (o :: rest) a w := by
  refine ⟨hg, ?_⟩
  unfold Oper.wp
  rw [hrun]
  exact ⟨v, rfl, h⟩
theorem wpSeq_store_sl {P : Program} {o : Oper} {rest : List Oper} {a : Act} {w : World} {Q : Exit → Act → World → Prop} (hgd : o.guard = none) (ty : TypeId) (hso : ∀ W, (sizeOf ty).run P W = .ok 1 W) (x y : Operand) (ho : o.op = .store ty x y) (b j : Nat) (T : TypeId) (cs : List Value) (p : Option Addr) (n c : Nat)
    (hx : a.eval x = .pointer (some ⟨b, j, none⟩)) (hy : a.eval y = .slice p n c) (hB : Blk w b T cs) (hj : j < cs.length) (h : ∀ w', Blk w' b T (cs.set j (.slice p n c)) → But b w w' → wpSeq P Q rest (a.put o.dst undef) w') : wpSeq P Q (o :: rest) a w := by
  have hc := hB.cell (j := j) (v := cs[j]) (List.getElem?_eq_getElem hj)
  have hf := hB.frozen j
  have hrun : (execOp a.eval o).run P w = .ok .skip (w.setCell ⟨b, j, none⟩ (.slice p n c)) := by
    simp only [execOp, ho, hx, hy]
    go_simp
  refine ⟨hgd, ?_⟩
  unfold Oper.wp
  rw [hrun]
  exact ⟨undef, rfl, h _ (hB.set j (.slice p n c)) (But.setCell b w j _)⟩
theorem build_scan (k t : ByteArray) (a : Option Addr) (n c : Nat) : ∀ W : World, (Instr.build 64 #[(0, .bool true), (1, .string k), (2, .string t), (3, .slice a n c)]).run Try.prog W = .ok (.agg #[.bool true, .string k, .string t, .slice a n c]) W := fun W => by kernel_rfl
/-- What Scan tells, and the transaction behind it. -/
def scanT (s : SP) (ks : List ByteArray) (t : Tx) (a b : ByteArray) : (List Pr × Int) × Tx :=
  if 64 ≤ t.ops then (([], 13), t)
  else if 64 < a.size ∨ 64 < b.size then (([], 2), t.more)
  else if (scanS s ks a b t.snap 201).2 ≠ 0 then (([], (scanS s ks a b t.snap 201).2), t.more)
  else if 200 < (scanS s ks a b t.snap 201).1.length then (([], 13), t.more)
  else ((overB (scanS s ks a b t.snap 201).1 t.W a b 200, 0), { t.more with R := t.R ++ [(true, a, b, (scanS s ks a b t.snap 201).1)] })
theorem scanS_len (s : SP) (ks : List ByteArray) (a b : ByteArray) (n : Int) : (scanS s ks a b n 201).1.length ≤ 201 := by
  unfold scanS
  split
  · show (List.take _ _).length ≤ 201
    rw [List.length_take]
    have : (201 : Int).toNat = 201 := rfl
    omega
  · simp
set_option maxHeartbeats 4000000 in
set_option maxRecDepth 100000 in
theorem zScan_any {w0 w : World} {D i : Nat} {s : SP} {X : Nat} {id : Int} {b : Tb} {t : Tx} (h : Duo w0 w D i s X id (some (b, t))) (hi : i ≤ 1000) {ks : List ByteArray} (hks : Inv s ks) (fa ta : ByteArray) :
    Calls Try.prog 27 #[PT X, PT D, .string fa, .string ta] w fun e w' => ∃ v, ActPost w0 w D i s X id b t (scanT s ks t fa ta).2 (.tuple #[v, .int .i64 (scanT s ks t fa ta).1.2]) e w' ∧ OwnG PE w' w.heap.size 48 v (scanT s ks t fa ta).1.1 := by
  have H := hide h
  have HKS := hide hks
  have CA := hide (zAct_any h.ss)
  obtain ⟨⟨⟨r1, r2⟩, t'⟩, HR⟩ : ∃ r, Hid (scanT s ks t fa ta = r) := ⟨_, rfl⟩
  rw [HR.out]
  simp only
  have hlf : ∀ W, (Builtin.len_ #[9] 3 #[.string fa]).run Try.prog W = .ok (.int .i64 (fa.size : Int)) W := fun W => by simp [Builtin.len_, go_sem]
  have hlt : ∀ W, (Builtin.len_ #[9] 3 #[.string ta]).run Try.prog W = .ok (.int .i64 (ta.size : Int)) W := fun W => by simp [Builtin.len_, go_sem]
  obtain ⟨fn, HFN⟩ : ∃ n, Hid (fa.size = n) := ⟨_, rfl⟩
  obtain ⟨tn, HTN⟩ : ∃ n, Hid (ta.size = n) := ⟨_, rfl⟩
  rw [HFN.out] at hlf
  rw [HTN.out] at hlt
  clear h hks
  go_enter Try.func27, Try.ntmps27
  go_wp2_with fail
  refine CA.out.mono ?_
  rintro e w1 (⟨hm, rfl, hw⟩ | ⟨hm, rfl, S1, C1⟩)
  · subst w1
    have hg := HR.out
    unfold scanT at hg
    rw [if_pos hm] at hg
    cases hg
    go_wp2_with fail
    go_ret2
    exact ⟨_, ⟨rfl, b, H.out, Chg.refl _ _, rfl, fun k hk => .inl hk⟩, ownG_nil _ _ _⟩
  · have HM : Hid (t.ops < 64) := hm
    have D1 : Hid (Duo w0 w1 D i s X id (some (b, t.more))) := (show Duo _ _ _ _ _ _ _ _ from H.out.step S1 C1 (fun k hk => .inr (.inl hk)) (fun k hk => .inl hk))
    have K1 : Hid (Chg (SG X (some (b, t))) w w1) := (show Chg _ _ _ from C1.mono (fun k _ hk => .inr (.inl hk)))
    have HG : Hid ((if 64 < fa.size ∨ 64 < ta.size then (([], 2), t.more) else if (scanS s ks fa ta t.snap 201).2 ≠ 0 then (([], (scanS s ks fa ta t.snap 201).2), t.more) else if 200 < (scanS s ks fa ta t.snap 201).1.length then (([], 13), t.more) else ((overB (scanS s ks fa ta t.snap 201).1 t.W fa ta 200, 0), { t.more with R := t.R ++ [(true, fa, ta, (scanS s ks fa ta t.snap 201).1)] })) = ((r1, r2), t')) := (show _ = _ by
      have hg := HR.out
      unfold scanT at hg
      rwa [if_neg (by omega)] at hg)
    clear S1 C1 hm CA
    by_cases h1 : 64 < fn
    · have q1 : decide (64 < (fn : Int)) = true := by simp; omega
      have hg := HG.out
      rw [if_pos (.inl (by rw [HFN.out]; exact h1))] at hg
      cases hg
      go_wp2_with fail
      go_ret2
      exact ⟨_, ⟨rfl, b, D1.out, K1.out, rfl, fun k hk => .inl hk⟩, ownG_nil _ _ _⟩
    · have q1 : decide (64 < (fn : Int)) = false := by simp; omega
      by_cases h2 : 64 < tn
      · have q2 : decide (64 < (tn : Int)) = true := by simp; omega
        have hg := HG.out
        rw [if_pos (.inr (by rw [HTN.out]; exact h2))] at hg
        cases hg
        go_wp2_with fail
        go_ret2
        exact ⟨_, ⟨rfl, b, D1.out, K1.out, rfl, fun k hk => .inl hk⟩, ownG_nil _ _ _⟩
      · have q2 : decide (64 < (tn : Int)) = false := by simp; omega
        obtain ⟨sn, HSN⟩ : ∃ z, Hid (t.snap = z) := ⟨_, rfl⟩
        have CS := hide (D1.out.ls.scan hi HKS.out fa ta t.snap 201)
        have HSL := hide (scanS_len s ks fa ta t.snap)
        obtain ⟨⟨g1, g2⟩, HGS⟩ : ∃ g, Hid (scanS s ks fa ta t.snap 201 = g) := ⟨_, rfl⟩
        have hg := HG.out
        rw [if_neg (by rw [HFN.out, HTN.out]; omega)] at hg
        rw [HGS.out] at CS hg HSL
        simp only at CS hg HSL
        have HG2 := hide hg
        rw [HSN.out] at CS
        have T1 := hide (D1.out.ss.tx b t.more rfl)
        have c1 := D1.out.ss.x.cell (j := 1) rfl
        have d0 := T1.out.d.cell (j := 0) rfl
        simp only [SPt] at c1
        rw [show t.more.snap = t.snap from rfl, HSN.out] at d0
        obtain ⟨bT, HbT⟩ : ∃ z, Hid (b.T = z) := ⟨_, rfl⟩
        rw [HbT.out] at c1 d0
        clear hg
        go_wp2_with fail
        refine CS.out.mono ?_
        rintro e w2 ⟨v2, rfl, ho, hb2⟩
        have O2 := hide ho
        obtain ⟨la, lc, rfl⟩ := ho.form
        have D2 := hide (D1.out.kept hb2)
        have K2 : Hid (Chg (SG X (some (b, t))) w w2) := (show Chg _ _ _ from K1.out.trans (Chg.of_below hb2))
        have T2 := hide (D2.out.ss.tx b t.more rfl)
        have hww1 : Hid (w.heap.size ≤ w1.heap.size) := (show _ from K1.out.size)
        clear ho hb2 c1 d0 CS
        obtain ⟨m, HMm⟩ : ∃ m, Hid (g1.length = m) := ⟨_, rfl⟩
        rw [HMm.out] at O2 HSL HG2 ⊢
        by_cases h3 : g2 = 0
        · have q3 : (g2 != 0) = false := by simp [h3]
          by_cases h4 : 200 < m
          · have q4 : decide (200 < (m : Int)) = true := by simp; omega
            have hg := HG2.out
            rw [if_neg (by simpa using h3), if_pos h4] at hg
            cases hg
            go_wp2_with fail
            go_ret2
            exact ⟨_, ⟨rfl, b, D2.out, K2.out, rfl, fun k hk => .inl hk⟩, ownG_nil _ _ _⟩
          · have q4 : decide (200 < (m : Int)) = false := by simp; omega
            have hg := HG2.out
            rw [if_neg (by simpa using h3), if_neg h4] at hg
            obtain ⟨hg1, hg2⟩ := Prod.mk.inj hg
            obtain ⟨hg3, hg4⟩ := Prod.mk.inj hg1
            have HRV : Hid (overB g1 t.W fa ta 200 = r1) := hg3
            have HRT : Hid ({ t.more with R := t.R ++ [(true, fa, ta, g1)] } = t') := hg2
            subst hg4
            clear hg hg1 hg2 hg3 h3
            obtain ⟨x, hx⟩ : ∃ x : Rz, x = ⟨true, fa, ta, g1, la, lc⟩ := ⟨_, rfl⟩
            have HXC : Hid (XC x = [.bool true, .string fa, .string ta, .slice la m lc]) := (show _ = _ by rw [hx, ← HMm.out]; rfl)
            have HXP : Hid (plR x = (true, fa, ta, g1)) := (show _ = _ by rw [hx]; rfl)
            have HXO : Hid (OwnG PE w2 w0.heap.size 48 (xv x) x.ps) := (show OwnG _ _ _ _ _ _ by
              rw [hx]
              show OwnG PE w2 w0.heap.size 48 (.slice la g1.length lc) g1
              rw [HMm.out]
              exact O2.out.mono D1.out.ls.lo.size)
            have C1 : Hid (∀ W : World, Below w2.heap.size w2 W → W.cell? ⟨X, 1, none⟩ = some (PT bT)) := (show _ from fun W hW => by rw [← HbT.out]; exact (D2.out.kept hW).ss.x.cell (j := 1) rfl)
            have C2 : Hid (∀ W : World, Below w2.heap.size w2 W → W.cell? ⟨bT, 2, none⟩ = some b.v) := (show _ from fun W hW => by rw [← HbT.out]; exact (T2.out.kept hW).d.cell (j := 2) rfl)
            obtain ⟨bv, HBV⟩ : ∃ z, Hid (b.v = z) := ⟨_, rfl⟩
            rw [HBV.out] at C2
            clear hx
            go_upto_region 11 with fail
            have HO : Hid (OwnG XE w2 w0.heap.size 64 bv b.Q) := (show OwnG _ _ _ _ _ _ by rw [← HBV.out]; exact T2.out.row)
            have hq9 : Hid (b.Q.length + [x].length ≤ 10000000) := (show b.Q.length + 1 ≤ 10000000 by
              have h1 := congrArg List.length T2.out.pl
              rw [List.length_map] at h1
              have := T2.out.len
              have := T2.out.ops
              omega)
            have hB2 : Hid (w0.heap.size ≤ w2.heap.size) := (show _ from D2.out.ls.lo.size)
            have C1c : Hid (∀ W : World, Chg (fun k => bv.ownBlock = some k) w2 W → W.cell? ⟨X, 1, none⟩ = some (PT bT)) := (show _ from fun W hW => by
              rw [← HbT.out]
              refine (D2.out.ss.x.chg hW (fun e => ?_)).cell (j := 1) rfl
              rw [← HBV.out] at e
              obtain ⟨_, _, cur, hc⟩ := T2.out.row.block e
              exact cells_ne D2.out.ss.x hc (by decide) rfl)
            refine wp_region_tailsZ Try.mixed (KS (fun i_ => match i_ with | 0 | 4 => .val (PT X) | 1 | 5 => .val (.pointer (some ⟨X, 0, none⟩)) | 2 | 6 => .val (.pointer (some ⟨X, 1, none⟩)) | 3 | 7 => .val (PT bT) | 8 => .val (.pointer (some ⟨bT, 0, none⟩)) | 9 => .val (.pointer (some ⟨bT, 2, none⟩)) | 10 => .val (bv) | 11 => .val (.string fa) | 12 => .val (.string ta) | 13 => .val (.slice la m lc) | 14 => .val (.agg (XC x).toArray) | 15 => .of (fun w v_ => RdG XE w v_ [x]) (fun _ _ _ hg h => h.kept hg) | _ => .free)) (KS (fun i_ => match i_ with | 0 => .val (PT X) | 1 | 5 => .val (.pointer (some ⟨X, 0, none⟩)) | 2 | 6 => .val (.pointer (some ⟨X, 1, none⟩)) | 3 | 7 => .val (PT bT) | 8 => .val (.pointer (some ⟨bT, 0, none⟩)) | 9 => .val (.pointer (some ⟨bT, 2, none⟩)) | 10 => .val (bv) | 14 => .val (.agg (XC x).toArray) | 16 => .of (fun w v_ => ∃ p c, v_ = .slice p (b.Q.length + 1) c ∧ OwnG XE w w0.heap.size 64 v_ (b.Q ++ [x]) ∧ ∀ k, v_.ownBlock = some k → bv.ownBlock = some k ∨ w2.heap.size ≤ k) (fun _ _ _ hg ⟨p, c, h1, h2, h3⟩ => ⟨p, c, h1, h2.kept hg, h3⟩) | _ => .free)) (fun W => Chg (fun k => bv.ownBlock = some k) w2 W) 16 76 rfl (by decide +kernel) 17 (by decide) (by decide) (by decide +kernel) (KS_mono _) (KS_mono _) (fun _ _ hg hc => hc.trans (Chg.of_below hg)) (fun j hj w_ w_2 x_ h_ => ?_) ?_ ?_
            · exact (match j, hj, h_ with | 0, _, h => h | 1, _, h => h | 2, _, h => h | 3, _, h => h | 4, _, _ => trivial | 5, _, h => h | 6, _, h => h | 7, _, h => h | 8, _, h => h | 9, _, h => h | 10, _, h => h | 11, _, _ => trivial | 12, _, _ => trivial | 13, _, _ => trivial | 14, _, h => h | 15, _, _ => trivial | 16, h, _ => absurd rfl h | _ + 17, _, _ => trivial)
            · refine AllFrom.cons ⟨rfl, fun _ a' w' hg hk hd Q => ?_, fun _ _ a' w' hc hk hd Q => ?_, fun h => absurd h (by decide)⟩ (AllFrom.cons ⟨rfl, fun _ a' w' hg hk hd Q => ?_, fun _ _ a' w' hc hk hd Q => ?_, fun h => absurd h (by decide)⟩ (AllFrom.cons ⟨rfl, fun _ a' w' hg hk hd Q => ?_, fun _ _ a' w' hc hk hd Q => ?_, fun h => absurd h (by decide)⟩ (AllFrom.cons ⟨rfl, fun _ a' w' hg hk hd Q => ?_, fun _ _ a' w' hc hk hd Q => ?_, fun h => absurd h (by decide)⟩ (AllFrom.cons ⟨rfl, fun _ a' w' hg hk hd Q => ?_, fun _ h => absurd h (by decide +kernel), fun h => absurd h (by decide)⟩ (AllFrom.cons ⟨rfl, fun _ a' w' hg hk hd Q => ?_, fun _ h => absurd h (by decide +kernel), fun h => absurd h (by decide)⟩ (AllFrom.cons ⟨rfl, fun _ a' w' hg hk hd Q => ?_, fun _ h => absurd h (by decide +kernel), fun h => absurd h (by decide)⟩ (AllFrom.cons ⟨rfl, fun _ a' w' hg hk hd Q => ?_, fun _ h => absurd h (by decide +kernel), fun h => absurd h (by decide)⟩ (AllFrom.cons ⟨rfl, fun _ a' w' hg hk hd Q => ?_, fun _ h => absurd h (by decide +kernel), fun h => absurd h (by decide)⟩ (AllFrom.cons ⟨rfl, fun _ a' w' hg hk hd Q => ?_, fun _ h => absurd h (by decide +kernel), fun h => absurd h (by decide)⟩ (AllFrom.cons ⟨rfl, fun _ a' w' hg hk hd Q => ?_, fun _ h => absurd h (by decide +kernel), fun h => absurd h (by decide)⟩ (AllFrom.cons ⟨rfl, fun _ a' w' hg hk hd Q => ?_, fun _ h => absurd h (by decide +kernel), fun h => absurd h (by decide)⟩ (AllFrom.cons ⟨rfl, fun _ a' w' hg hk hd Q => ?_, fun _ h => absurd h (by decide +kernel), fun h => absurd h (by decide)⟩ (AllFrom.cons ⟨rfl, fun _ a' w' hg hk hd Q => ?_, fun _ h => absurd h (by decide +kernel), fun h => absurd h (by decide)⟩ (AllFrom.cons ⟨rfl, fun _ a' w' hg hk hd Q => ?_, fun _ h => absurd h (by decide +kernel), fun h => absurd h (by decide)⟩ (AllFrom.cons ⟨rfl, fun _ a' w' hg hk hd Q => ?_, fun _ h => absurd h (by decide +kernel), fun h => absurd h (by decide)⟩ (AllFrom.cons ⟨rfl, fun h => absurd rfl h, fun h => absurd rfl h, fun _ a' w' hg hk hd Q => ?_⟩ AllFrom.nil))))))))))))))))
              · skip
                have e0 : a'.eval (.tmp 0) = PT X := hk.at 0 (by decide +kernel)
                exact wp_value _ (by simp only [execOp, e0]; rfl) (KS_mkv rfl rfl)
              · skip
                have e0 : a'.eval (.tmp 0) = PT X := hk.at 0 (by decide +kernel)
                exact wp_value _ (by simp only [execOp, e0]; rfl) (KS_mkv rfl rfl)
              · skip
                have e46 : a'.eval (.tmp 46) = PT X := KS_val (hd.val 0 46 (by decide +kernel)) rfl
                clear hd hk
                exact wp_value (.pointer (some ⟨X, 0, none⟩)) (by simp only [execOp, e46]; go_simp) (KS_mkv rfl rfl)
              · skip
                have e46 : a'.eval (.tmp 46) = PT X := KS_val (hd.val 0 46 (by decide +kernel)) rfl
                clear hd hk
                exact wp_value (.pointer (some ⟨X, 0, none⟩)) (by simp only [execOp, e46]; go_simp) (KS_mkv rfl rfl)
              · skip
                have e47 : a'.eval (.tmp 47) = .pointer (some ⟨X, 0, none⟩) := KS_val (hd.val 1 47 (by decide +kernel)) rfl
                clear hd hk
                exact wp_value (.pointer (some ⟨X, 1, none⟩)) (by simp only [execOp, e47]; go_simp) (KS_mkv rfl rfl)
              · skip
                have e47 : a'.eval (.tmp 47) = .pointer (some ⟨X, 0, none⟩) := KS_val (hd.val 1 47 (by decide +kernel)) rfl
                clear hd hk
                exact wp_value (.pointer (some ⟨X, 1, none⟩)) (by simp only [execOp, e47]; go_simp) (KS_mkv rfl rfl)
              · skip
                have e48 : a'.eval (.tmp 48) = .pointer (some ⟨X, 1, none⟩) := KS_val (hd.val 2 48 (by decide +kernel)) rfl
                have hc := C1.out _ hg
                clear hd hk
                exact wp_value (PT bT) (by simp only [execOp, e48]; go_simp) (KS_mkv rfl rfl)
              · skip
                have e48 : a'.eval (.tmp 48) = .pointer (some ⟨X, 1, none⟩) := KS_val (hd.val 2 48 (by decide +kernel)) rfl
                have hc := C1c.out _ hc
                clear hd hk
                exact wp_value (PT bT) (by simp only [execOp, e48]; go_simp) (KS_mkv rfl rfl)
              · skip
                have e0 : a'.eval (.tmp 0) = PT X := hk.at 0 (by decide +kernel)
                exact wp_value _ (by simp only [execOp, e0]; rfl) (KS_mkv rfl rfl)
              · skip
                have e50 : a'.eval (.tmp 50) = PT X := KS_val (hd.val 4 50 (by decide +kernel)) rfl
                clear hd hk
                exact wp_value (.pointer (some ⟨X, 0, none⟩)) (by simp only [execOp, e50]; go_simp) (KS_mkv rfl rfl)
              · skip
                have e51 : a'.eval (.tmp 51) = .pointer (some ⟨X, 0, none⟩) := KS_val (hd.val 5 51 (by decide +kernel)) rfl
                clear hd hk
                exact wp_value (.pointer (some ⟨X, 1, none⟩)) (by simp only [execOp, e51]; go_simp) (KS_mkv rfl rfl)
              · skip
                have e52 : a'.eval (.tmp 52) = .pointer (some ⟨X, 1, none⟩) := KS_val (hd.val 6 52 (by decide +kernel)) rfl
                have hc := C1.out _ hg
                clear hd hk
                exact wp_value (PT bT) (by simp only [execOp, e52]; go_simp) (KS_mkv rfl rfl)
              · skip
                have e53 : a'.eval (.tmp 53) = PT bT := KS_val (hd.val 7 53 (by decide +kernel)) rfl
                clear hd hk
                exact wp_value (.pointer (some ⟨bT, 0, none⟩)) (by simp only [execOp, e53]; go_simp) (KS_mkv rfl rfl)
              · skip
                have e54 : a'.eval (.tmp 54) = .pointer (some ⟨bT, 0, none⟩) := KS_val (hd.val 8 54 (by decide +kernel)) rfl
                clear hd hk
                exact wp_value (.pointer (some ⟨bT, 2, none⟩)) (by simp only [execOp, e54]; go_simp) (KS_mkv rfl rfl)
              · skip
                have e55 : a'.eval (.tmp 55) = .pointer (some ⟨bT, 2, none⟩) := KS_val (hd.val 9 55 (by decide +kernel)) rfl
                have hc := C2.out _ hg
                clear hd hk
                exact wp_value (bv) (by simp only [execOp, e55]; go_simp) (KS_mkv rfl rfl)
              · skip
                have e2 : a'.eval (.tmp 2) = .string fa := hk.at 2 (by decide +kernel)
                exact wp_value _ (by simp only [execOp, e2]; rfl) (KS_mkv rfl rfl)
              · skip
                have e3 : a'.eval (.tmp 3) = .string ta := hk.at 3 (by decide +kernel)
                exact wp_value _ (by simp only [execOp, e3]; rfl) (KS_mkv rfl rfl)
              · skip
                have e11 : a'.eval (.tmp 11) = .slice la m lc := hk.at 11 (by decide +kernel)
                exact wp_value _ (by simp only [execOp, e11]; rfl) (KS_mkv rfl rfl)
              · skip
                have e57 : a'.eval (.tmp 57) = .string fa := KS_val (hd.val 11 57 (by decide +kernel)) rfl
                have e58 : a'.eval (.tmp 58) = .string ta := KS_val (hd.val 12 58 (by decide +kernel)) rfl
                have e59 : a'.eval (.tmp 59) = .slice la m lc := KS_val (hd.val 13 59 (by decide +kernel)) rfl
                clear hd hk
                exact wp_value (.agg (XC x).toArray) (by simp only [execOp, List.map_toArray, List.map_cons, List.map_nil, e57, e58, e59, show Act.eval a' (.const (.bool true)) = .bool true from rfl, build_scan, Sem.run_bind, Result.andThen_ok, HXC.out]; rfl) (KS_mkv rfl rfl)
              · skip
                have e60 : a'.eval (.tmp 60) = .agg (XC x).toArray := KS_val (hd.val 14 60 (by decide +kernel)) rfl
                exact wp_grow _ _ (by simp only [execOp, List.map_toArray, List.map_cons, List.map_nil, e60, Sem.run_bind, Sem.run_pure]; exact congrArg (fun r => Result.andThen r _) (build_read1 x _)) ((Below.refl _ _).alloc (Nat.le_refl _) _) (KS_mko rfl (rdG_one w' 64 x))
              · skip
                have e56 : a'.eval (.tmp 56) = bv := KS_val (hd.val 10 56 (by decide +kernel)) rfl
                have r61 := KS_of (hd.val 15 61 (by decide +kernel)) rfl
                refine wp_append_E (E := XE) Try.underlying51 infoX (by decide) (.tmp 56) (.tmp 61) rfl w0.heap.size bv b.Q e56 ((HO.out).kept hg) _ [x] rfl r61 hq9.out (Nat.le_trans hB2.out hg.size) ?_
                intro v4 w4 o4 g4 q4
                obtain ⟨p9, c9, hv9⟩ := o4.form
                have hl9 : (b.Q ++ [x] : List Rz).length = b.Q.length + 1 := by simp
                rw [hl9] at hv9
                have hgs := hg.size
                exact ⟨v4, rfl, KS_mko rfl ⟨p9, c9, hv9, o4, fun k hk => (q4 k hk).imp (fun h => h) (fun h => by omega)⟩, (Chg.of_below hg).trans (Chg.of_grown g4 (fun k e _ => e))⟩
            · intro a' w3 hsz hdf hk hall hc
              have e46 : a'.eval (.tmp 46) = PT X := KS_val (hall 0 _ 46 (by decide) rfl rfl) rfl
              have e47 : a'.eval (.tmp 47) = .pointer (some ⟨X, 0, none⟩) := KS_val (hall 1 _ 47 (by decide) rfl rfl) rfl
              have e48 : a'.eval (.tmp 48) = .pointer (some ⟨X, 1, none⟩) := KS_val (hall 2 _ 48 (by decide) rfl rfl) rfl
              have e49 : a'.eval (.tmp 49) = PT bT := KS_val (hall 3 _ 49 (by decide) rfl rfl) rfl
              obtain ⟨x50, e50⟩ : ∃ v, a'.eval (.tmp 50) = v := ⟨_, rfl⟩
              have e51 : a'.eval (.tmp 51) = .pointer (some ⟨X, 0, none⟩) := KS_val (hall 5 _ 51 (by decide) rfl rfl) rfl
              have e52 : a'.eval (.tmp 52) = .pointer (some ⟨X, 1, none⟩) := KS_val (hall 6 _ 52 (by decide) rfl rfl) rfl
              have e53 : a'.eval (.tmp 53) = PT bT := KS_val (hall 7 _ 53 (by decide) rfl rfl) rfl
              have e54 : a'.eval (.tmp 54) = .pointer (some ⟨bT, 0, none⟩) := KS_val (hall 8 _ 54 (by decide) rfl rfl) rfl
              have e55 : a'.eval (.tmp 55) = .pointer (some ⟨bT, 2, none⟩) := KS_val (hall 9 _ 55 (by decide) rfl rfl) rfl
              have e56 : a'.eval (.tmp 56) = bv := KS_val (hall 10 _ 56 (by decide) rfl rfl) rfl
              obtain ⟨x57, e57⟩ : ∃ v, a'.eval (.tmp 57) = v := ⟨_, rfl⟩
              obtain ⟨x58, e58⟩ : ∃ v, a'.eval (.tmp 58) = v := ⟨_, rfl⟩
              obtain ⟨x59, e59⟩ : ∃ v, a'.eval (.tmp 59) = v := ⟨_, rfl⟩
              have e60 : a'.eval (.tmp 60) = .agg (XC x).toArray := KS_val (hall 14 _ 60 (by decide) rfl rfl) rfl
              obtain ⟨x61, e61⟩ : ∃ v, a'.eval (.tmp 61) = v := ⟨_, rfl⟩
              obtain ⟨p9, c9, e62, O3, Q3⟩ := KS_of (hall 16 _ 62 (by decide) rfl rfl) rfl
              rw [e62] at O3 Q3
              obtain ⟨x63, e63⟩ : ∃ v, a'.eval (.tmp 63) = v := ⟨_, rfl⟩
              obtain ⟨x64, e64⟩ : ∃ v, a'.eval (.tmp 64) = v := ⟨_, rfl⟩
              have ha := act_puts 76 rfl hsz hdf hk [46, 47, 48, 49, 50, 51, 52, 53, 54, 55, 56, 57, 58, 59, 60, 61, 62, 63, 64] (by decide +kernel)
              simp only [puts, List.foldl_cons, List.foldl_nil, e46, e47, e48, e49, e50, e51, e52, e53, e54, e55, e56, e57, e58, e59, e60, e61, e62, e63, e64] at ha
              simp only [Act.put, List.setIfInBounds_toArray, List.set_cons_succ, List.set_cons_zero] at ha
              clear hall hk hsz hdf e46 e47 e48 e49 e50 e51 e52 e53 e54 e55 e56 e57 e58 e59 e60 e61 e62 e63 e64
              subst ha
              have C3 := hide hc
              have O3 := hide O3
              have Q3 := hide Q3
              clear hc
              have T3 : Hid (Blk w3 bT 91 (TC b t.more)) := (show Blk _ _ _ _ by
                rw [← HbT.out]
                refine T2.out.d.chg C3.out (fun e => ?_)
                rw [← HBV.out] at e
                exact (T2.out.apart.v _ e).1 rfl)
              refine wpSeq_val rfl (.pointer (some ⟨bT, 0, none⟩)) (by simp only [execOp]; go_simp) ?_
              refine wpSeq_val rfl (.pointer (some ⟨bT, 2, none⟩)) (by simp only [execOp]; go_simp) ?_
              refine wpSeq_store_sl rfl 51 szr _ _ rfl bT 2 91 (TC b t.more) _ _ _ rfl rfl T3.out (by simp [TC]) ?_
              intro w4 hb4 hu4
              have hv : ∀ j, (Value.slice p9 (b.Q.length + 1) c9).ownBlock = some j → b.v.ownBlock = some j ∨ w2.heap.size ≤ j := fun j hj => by rw [HBV.out]; exact Q3.out j hj
              have C34 : Chg (fun k => b.v.ownBlock = some k) w2 w3 := by rw [HBV.out]; exact C3.out
              have C4 : Chg (fun j => j = bT) w3 w4 := Chg.of_but hu4 rfl
              rw [← HbT.out] at C4 hb4
              have hln : t.more.R.length < t.more.ops := by
                show t.R.length < t.ops + 1
                have := (H.out.ss.tx b t rfl).len
                omega
              have S2 : SetS w2 b.S (t.more.R ++ [plR x]) := by rw [HXP.out]; exact T2.out.set.scan fa ta g1
              have R4 := T2.out.addR S2 (Chg.refl _ _) (Below.refl _ _) O3.out C34 hv hb4 C4 HXO.out hln
              rw [HXP.out] at R4
              have C24 : Chg b.G w2 w4 := (C34.mono (fun j _ e => .inr (.inr (.inr e)))).trans (C4.mono (fun j _ e => .inl e))
              obtain ⟨b4, Hb4⟩ : ∃ z : Tb, Hid (({ b with a := p9, c := c9, Q := b.Q ++ [x] } : Tb) = z) := ⟨_, rfl⟩
              have hG4 : ∀ j, b4.G j → b.G j ∨ w2.heap.size ≤ j := by
                rw [← Hb4.out]
                rintro j (hj | hj | hj | hj)
                · exact .inl (.inl hj)
                · exact .inl (.inr (.inl hj))
                · exact .inl (.inr (.inr (.inl hj)))
                · have hj' : (Value.slice p9 (b.Q ++ [x]).length c9).ownBlock = some j := hj
                  rw [List.length_append, List.length_singleton] at hj'
                  exact (hv j hj').imp (fun h => .inr (.inr (.inr h))) (fun h => h)
              have hT4 : b4.T = b.T := by rw [← Hb4.out]
              rw [Hb4.out] at R4
              have D4 := hide (D2.out.tx R4 C24 hT4 hG4)
              have T4 := hide R4
              have K4 : Hid (Chg (SG X (some (b, t))) w w4) := (show Chg _ _ _ from K2.out.trans (C24.mono (fun j _ hj => .inr hj)))
              have HG4 : Hid (∀ k, SG X (some (b4, t')) k → SG X (some (b, t)) k ∨ w.heap.size ≤ k) := (show _ from fun k hk => by
                rcases hk with hk | hk
                · exact .inl (.inl hk)
                · refine (hG4 k hk).imp (fun h => .inr h) (fun h => ?_)
                  have := K2.out.size
                  omega)
              have HT4 := hide hT4
              have P4 : Hid (RdG PE w4 (.slice la m lc) g1) := (show RdG _ _ _ _ from (O2.out.chg C24 (fun k hk hg => by
                obtain ⟨_, _, cur, hcc⟩ := O2.out.block hk
                have hk2 : k < w2.heap.size := (O2.out.block hk).2.1
                rcases hg with hg | hg | hg | hg
                · rw [hg] at hcc; exact cells_ne hcc T2.out.d (by decide) rfl
                · rw [hg] at hcc; exact cells_map hcc T2.out.set.block rfl
                · rw [hg] at hcc; exact cells_map hcc T2.out.buf.mp.block rfl
                · obtain ⟨_, _, cur', hc'⟩ := T2.out.row.block hg
                  exact cells_ne hcc hc' (by decide) rfl)).rd)
              have c41 := D4.out.ss.x.cell (j := 1) rfl
              have d44 := T4.out.d.cell (j := 4) rfl
              simp only [SPt] at c41
              rw [HT4.out, HbT.out] at c41 d44
              obtain ⟨bD, HbD⟩ : ∃ z, Hid (b4.D = z) := ⟨_, rfl⟩
              rw [HbD.out] at d44
              have CO := hide (over_any T4.out.buf.ov P4.out fa ta 200 (by have h1 := T4.out.buf.len; have h2 := HMm.out; have h3 : t.more.W.length ≤ 64 := h1; show g1.length + t.more.W.length ≤ 1000000; omega))
              rw [HbD.out, show overB g1 t.more.W fa ta 200 = r1 from HRV.out] at CO
              have hr4 : Hid (w.heap.size ≤ w4.heap.size) := (show _ from K4.out.size)
              clear C34 C4 hb4 hu4 hv hln S2 R4 C24 hG4 hT4 T3 C3 O3 Q3
              simp only [wpSeq]
              go_wp2_with fail
              refine CO.out.mono ?_
              rintro e w5 ⟨v5, rfl, ho5, hb5⟩
              have O5 : Hid (OwnG PE w5 w.heap.size 48 v5 r1) := (show OwnG _ _ _ _ _ _ from ho5.mono hr4.out)
              have D5 := hide (D4.out.kept hb5)
              have K5 : Hid (Chg (SG X (some (b, t))) w w5) := (show Chg _ _ _ from K4.out.trans (Chg.of_below hb5))
              clear ho5 hb5
              go_wp2_with fail
              go_ret2
              rw [← HRT.out]
              exact ⟨v5, ⟨rfl, b4, D5.out, K5.out, HT4.out, by rw [HRT.out]; exact HG4.out⟩, O5.out⟩
        · have q3 : (g2 != 0) = true := by simp [h3]
          have hg := HG2.out
          rw [if_pos (by simpa using h3)] at hg
          cases hg
          go_wp2_with fail
          go_ret2
          exact ⟨_, ⟨rfl, b, D2.out, K2.out, rfl, fun k hk => .inl hk⟩, ownG_nil _ _ _⟩
#print axioms zScan_any
end Go.Proofs.Ytcicekggeampcaa
