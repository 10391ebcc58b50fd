/-
  indenturelaw15.SessionLimits: what the call does.
-/
import Derived.Test.YtcicekggeampcaaSeX
namespace Go.Proofs.Ytcicekggeampcaa
open Go.RowKit
theorem cat_run (a b : ByteArray) (h : a.size + b.size < 9223372036854775807) : ∀ W, (binOp .add 9 (.string a) (.string b)).run Try.prog W = .ok (.string (a ++ b)) W := fun W => by
  simp [binOp, go_sem]
  omega
theorem wpList_cat {ops : Array Oper} {rest : List Oper} {o : Oper} {a : Act} {w : World} {Q : Exit → Act → World → Prop} (hgd : o.guard = none) (x y : Operand) (ho : o.op = .binOp .add 9 x y 9) (s u : ByteArray) (hx : a.eval x = .string s) (hy : a.eval y = .string u) (hsz : s.size + u.size < 9223372036854775807)
    (h : wpList Try.prog ops Q rest (a.put o.dst (.string (s ++ u))) w) : wpList Try.prog ops Q (o :: rest) a w := by
  refine wpList_run hgd _ ?_ h
  have h9 := cat_run s u hsz w
  simp only [execOp, ho, hx, hy]
  simp [eqGuard, h9]
def cV : ByteArray := ⟨#[118]⟩
/-- The transaction behind so many acts. -/
def limT (p : Pr) (j : Nat) : Tx := ⟨0, false, [], if j = 0 then [] else [p], if j ≤ 64 then j else 64⟩
theorem lim_put {p : Pr} (h1 : 1 ≤ p.1.size) (h2 : p.1.size ≤ 64) (hv : p.2.1.size ≤ 256) (j : Nat) : putT (limT p j) p = (if j < 64 then 0 else 13, limT p (j + 1)) := by
  unfold putT limT
  by_cases hj : j < 64
  · have e1 : (if j ≤ 64 then j else 64) = j := if_pos (by omega)
    have e2 : (if j + 1 ≤ 64 then j + 1 else 64) = j + 1 := if_pos (by omega)
    simp only [e1, e2]
    rw [if_neg (by omega), if_pos hj, if_neg (by omega : ¬ j + 1 = 0)]
    have hw : wrE (if j = 0 then [] else [p]) p = 0 := by
      unfold wrE
      rw [if_neg (by omega), if_neg (by omega), if_neg]
      split <;> simp
    have hb : wrB (if j = 0 then [] else [p]) p = [p] := by
      unfold wrB
      rw [if_pos hw]
      split
      · rfl
      · simp [insB, lt_irrefl]
    rw [hw]
    unfold Tx.more
    simp only
    rw [hb]
  · have e2 : (if j + 1 ≤ 64 then j + 1 else 64) = 64 := by split <;> omega
    have e1 : (if j ≤ 64 then j else 64) = 64 := by split <;> omega
    simp only [e1, e2]
    rw [if_pos (Nat.le_refl _), if_neg hj, if_neg (by omega : ¬ j = 0), if_neg (by omega : ¬ j + 1 = 0)]
theorem lim_ab : putT (⟨sp0.last, false, [], [], 0⟩ : Tx) (cA, cB, false) = (0, ⟨0, false, [], [(cA, cB, false)], 1⟩) := by
  have h : wrE [] (cA, cB, false) = 0 ∧ wrB [] (cA, cB, false) = [(cA, cB, false)] := by decide
  unfold putT
  rw [if_neg (by decide)]
  show (wrE [] (cA, cB, false), ({ snap := 0, st := false, R := [], W := wrB [] (cA, cB, false), ops := 0 + 1 } : Tx)) = _
  rw [h.1, h.2]
set_option maxHeartbeats 4000000 in
set_option maxRecDepth 100000 in
theorem limits_any {w : World} (n : Nat) (key : ByteArray) (hk : key.size ≤ 140737488351232) : Calls Try.prog 4 #[.int .u64 (n : Int), .string key] w fun e w' => e = .returned (.bool true) ∧ Below w.heap.size w w' := by
  have CN := hide (ls_new (w := w))
  obtain ⟨k, HK⟩ : ∃ k, Hid (n % 80 = k) := ⟨_, rfl⟩
  have hk80 : k < 80 := by have := HK.out; omega
  obtain ⟨z, HZ⟩ : ∃ z : Int, Hid ((n : Int) = z) := ⟨_, rfl⟩
  obtain ⟨ks, HKS⟩ : ∃ x, Hid (key.size = x) := ⟨_, rfl⟩
  have rk : ∀ W, (Builtin.len_ #[9] 3 #[.string key]).run Try.prog W = .ok (.int .i64 (ks : Int)) W := len_run key ks HKS.out
  rw [HKS.out] at hk
  have hzk : z.tmod 80 = (k : Int) := by
    rw [← HZ.out, ← HK.out]
    exact Int.ofNat_tmod n 80
  have hwk : wrap64 (k : Int) = (k : Int) := by unfold wrap64; omega
  rw [HZ.out]
  go_enter Try.func4, Try.ntmps4
  go_wp2_with fail
  refine CN.out.mono ?_
  rintro e w1 ⟨D, rfl, hl⟩
  have HL := hide hl
  have CX := hide (zNew_any w1 1 (by decide) (by decide))
  clear CN hl
  go_wp2_with fail
  refine CX.out.mono ?_
  rintro e w2 ⟨X, rfl, -, hs, hb⟩
  have D2 := hide (Duo.new HL.out hs hb)
  clear CX HL hs hb
  by_cases hk60 : 60 < ks
  · have q1 : decide ((60 : Int) < (ks : Int)) = true := by simp; omega
    have CV := hide (lives_any w2)
    go_wp2_with fail
    refine CV.out.mono ?_
    rintro e w3 ⟨rfl, hb3⟩
    have L3 : Hid (Below w.heap.size w w3) := (show Below _ _ _ from D2.out.ls.lo.trans (hb3.mono D2.out.ls.lo.size))
    clear hb3
    go_wp2_with fail
    go_ret
    exact ⟨rfl, L3.out⟩
  · have q1 : decide ((60 : Int) < (ks : Int)) = false := by simp; omega
    have CP := hide (zPut_no D2.out.ss key cV)
    have CB := hide (D2.out.begin (by decide) false)
    go_wp2_with fail
    refine CP.out.mono ?_
    rintro e w_ ⟨rfl, hw⟩
    subst w_
    go_wp2_with fail
    refine CB.out.mono ?_
    rintro e w3 ⟨rfl, b, hd, -, -⟩
    have D3 := hide hd
    have C2 := hide (zBegin_some D3.out.ss (PT D) true)
    clear CP CB hd D2
    go_wp2_with fail
    refine C2.out.mono ?_
    rintro e w_ ⟨rfl, hw⟩
    subst w_
    go_wp2_with fail
    obtain ⟨kk, HKK⟩ : ∃ x : ByteArray, Hid ((⟨#[107]⟩ : ByteArray) ++ key = x) := ⟨_, rfl⟩
    have hks : kk.size = 1 + ks := by
      have h1 := HKS.out
      rw [← HKK.out, ByteArray.size_append, h1]
      rfl
    have HCS : Hid ((⟨#[107]⟩ : ByteArray).size + key.size < 9223372036854775807) := (show _ by rw [HKS.out]; show 1 + ks < _; omega)
    have HLP : Hid (∀ j, putT (limT (kk, cV, false) j) (kk, cV, false) = (if j < 64 then 0 else 13, limT (kk, cV, false) (j + 1))) := (show _ from fun j => lim_put (by show 1 ≤ kk.size; omega) (by show kk.size ≤ 64; omega) (by show cV.size ≤ 256; decide) j)
    have HKM : Hid (kk.size ≤ maxLen) := (show kk.size ≤ maxLen by unfold maxLen; omega)
    clear C2 hks rk
    go_loopg [8] (k + 1) (fun g x wr => ∃ (j : Nat) (b : Tb), j ≤ k ∧ g + j = k + 1 ∧ x = .int .i64 ((j : Int) + 1) ∧ Hid (Duo w wr D 0 sp0 X 1 (some (b, limT (kk, cV, false) j))))
    case atStart => exact ⟨0, b, Nat.zero_le _, rfl, rfl, D3⟩
    case round =>
      clear D3
      obtain ⟨j, b, hj, hg, rfl, DR⟩ := hrel
      by_cases hjk : j < k
      · have q2 : (j : Int) + 1 ≤ (k : Int) := by omega
        have CP := zPut_any DR.out kk cV HKM.out
        rw [HLP.out j] at CP
        have CP := hide CP
        by_cases h64 : j < 64
        · have q3 : (j : Int) + 1 ≤ 64 := by omega
          rw [if_pos h64] at CP
          go_wp2_with (first
            | (refine wpList_cat rfl _ _ rfl ⟨#[107]⟩ key rfl rfl HCS.out ?_; rw [HKK.out])
            | fail)
          refine CP.out.mono ?_
          rintro e w4 ⟨rfl, b4, hd, -, -, -⟩
          have D4 := hide hd
          clear CP hd DR
          go_wp2_with fail
          go_roundg (k - j)
          case measure => omega
          case rel => exact ⟨j + 1, b4, by omega, by omega, by push_cast; rfl, D4⟩
        · have q3 : ¬ (j : Int) + 1 ≤ 64 := by omega
          have q4 : (64 : Int) < (j : Int) + 1 := by omega
          rw [if_neg h64] at CP
          go_wp2_with (first
            | (refine wpList_cat rfl _ _ rfl ⟨#[107]⟩ key rfl rfl HCS.out ?_; rw [HKK.out])
            | fail)
          refine CP.out.mono ?_
          rintro e w4 ⟨rfl, b4, hd, -, -, -⟩
          have D4 := hide hd
          clear CP hd DR
          go_wp2_with fail
          go_roundg (k - j)
          case measure => omega
          case rel => exact ⟨j + 1, b4, by omega, by omega, by push_cast; rfl, D4⟩
      · obtain rfl : j = k := by omega
        have q2 : ¬ (j : Int) + 1 ≤ (j : Int) := by omega
        obtain ⟨dn, HDN⟩ : ∃ d : Nat, Hid ((if j ≤ 64 then j else 64) = d) := ⟨_, rfl⟩
        obtain ⟨W, HW⟩ : ∃ W : List Pr, Hid ((if j = 0 then [] else [(kk, cV, false)]) = W) := ⟨_, rfl⟩
        have DR2 : Hid (Duo w wr D 0 sp0 X 1 (some (b, ⟨0, false, [], W, dn⟩))) := (show Duo _ _ _ _ _ _ _ _ by
          have := DR.out
          unfold limT at this
          rw [HDN.out, HW.out] at this
          exact this)
        have CR := hide (zRec_any DR2.out.ss (by intro x hx; cases hx))
        obtain ⟨wl, HWL⟩ : ∃ d : Nat, Hid (W.length = d) := ⟨_, rfl⟩
        have hcase : (¬ 64 < j ∧ dn = j) ∨ (64 < j ∧ dn = 64) := by
          have := HDN.out
          by_cases h : 64 < j
          · rw [if_neg (by omega)] at this
            exact .inr ⟨h, this.symm⟩
          · rw [if_pos (by omega)] at this
            exact .inl ⟨h, this.symm⟩
        have hwl : (j = 0 ∧ wl = 0) ∨ (0 < j ∧ wl = 1) := by
          have h1 := HW.out
          have h2 := HWL.out
          by_cases h : j = 0
          · rw [if_pos h] at h1
            rw [← h1] at h2
            exact .inl ⟨h, h2.symm⟩
          · rw [if_neg h] at h1
            rw [← h1] at h2
            exact .inr ⟨by omega, h2.symm⟩
        clear HDN HLP DR
        rcases hcase with ⟨h64, rfl⟩ | ⟨h64, rfl⟩ <;> rcases hwl with ⟨hj0, rfl⟩ | ⟨hj0, rfl⟩
        · subst hj0
          have q5 : decide ((64 : Int) < ((0 : Nat) : Int)) = false := by simp
          have q6 : decide ((0 : Int) < ((0 : Nat) : Int)) = false := by simp
          go_wp2_with fail
          refine CR.out.mono ?_
          rintro e w4 ⟨⟨r, rfl, -, -, -, h4, h5, h6, h7⟩, hb4⟩
          have hwv : wv r = .slice r.wa 0 r.wc := by show Value.slice r.wa r.ws.length r.wc = _; rw [h7]; exact congrArg (fun n => Value.slice r.wa n r.wc) HWL.out
          obtain ⟨E, HE⟩ : ∃ E, Hid (w4.heap.size = E) := ⟨_, rfl⟩
          obtain ⟨w5, hw5⟩ : ∃ y, y = w4.alloc (.cells (RC r).toArray 53 (0, 0)) := ⟨_, rfl⟩
          obtain ⟨b5, l5⟩ := newB HE hw5
          have HW5 := hide hw5
          have D5 := hide (DR2.out.kept (hb4.trans (l5.out.mono hb4.size)))
          have d4 := b5.out.rws
          rw [hwv] at d4
          have CP := hide (zOps_any D5.out.ss)
          simp only [opsP] at CP
          have CC := hide D5.out.close
          clear hw5 hb4 h4 h5 h6 h7 hwv CR DR2
          go_upto_region 17 with (first
            | (refine wpList_store_new rfl 53 _ _ rfl w4 _ (RC r).toArray _ rfl rfl rfl Try.size53 rfl (all_one (RC_one r)) ?_; rw [← HW5.out, HE.out])
            | fail)
          go_wp2_with fail
          refine CP.out.mono ?_
          rintro e w_ ⟨rfl, hw⟩
          subst w_
          go_wp2_with fail
          refine CC.out.mono ?_
          rintro e w6 ⟨rfl, hd, -⟩
          have D6 := hide hd
          have C6 := hide D6.out.close
          clear hd CP CC D5
          go_wp2_with fail
          refine C6.out.mono ?_
          rintro e w7 ⟨rfl, hd, -⟩
          have D7 := hide hd
          have CO := hide (zOpen_any D7.out.ss)
          have CB := hide (D7.out.begin (by decide) false)
          clear hd C6 D6
          go_wp2_with fail
          refine CO.out.mono ?_
          rintro e w_ ⟨rfl, hw⟩
          subst w_
          go_wp2_with fail
          refine CB.out.mono ?_
          rintro e w8 ⟨rfl, b8, hd, -, -⟩
          have D8 := hide hd
          have CP := hide (zOps_any D8.out.ss)
          simp only [opsP] at CP
          have CQ := zPut_any D8.out cA cB (by decide)
          rw [lim_ab] at CQ
          have CQ := hide CQ
          clear hd CB CO D7
          go_wp2_with fail
          refine CP.out.mono ?_
          rintro e w_ ⟨rfl, hw⟩
          subst w_
          go_wp2_with fail
          refine CQ.out.mono ?_
          rintro e w9 ⟨rfl, b9, hd, -, -, -⟩
          have D9 := hide hd
          have CV := hide (lives_any w9)
          clear hd CQ CP D8
          go_wp2_with fail
          refine CV.out.mono ?_
          rintro e wa ⟨rfl, hba⟩
          have LA : Hid (Below w.heap.size w wa) := (show Below _ _ _ from D9.out.ls.lo.trans (hba.mono D9.out.ls.lo.size))
          clear hba
          go_wp2_with fail
          go_ret
          exact ⟨rfl, LA.out⟩
        ·
          have q5 : decide ((64 : Int) < (dn : Int)) = false := by simp; omega
          have q6 : decide ((0 : Int) < (dn : Int)) = true := by simp; omega
          go_wp2_with fail
          refine CR.out.mono ?_
          rintro e w4 ⟨⟨r, rfl, -, -, -, h4, h5, h6, h7⟩, hb4⟩
          have hwv : wv r = .slice r.wa 1 r.wc := by show Value.slice r.wa r.ws.length r.wc = _; rw [h7]; exact congrArg (fun n => Value.slice r.wa n r.wc) HWL.out
          obtain ⟨E, HE⟩ : ∃ E, Hid (w4.heap.size = E) := ⟨_, rfl⟩
          obtain ⟨w5, hw5⟩ : ∃ y, y = w4.alloc (.cells (RC r).toArray 53 (0, 0)) := ⟨_, rfl⟩
          obtain ⟨b5, l5⟩ := newB HE hw5
          have HW5 := hide hw5
          have D5 := hide (DR2.out.kept (hb4.trans (l5.out.mono hb4.size)))
          have d4 := b5.out.rws
          rw [hwv] at d4
          have CP := hide (zOps_any D5.out.ss)
          simp only [opsP] at CP
          have CC := hide D5.out.close
          clear hw5 hb4 h4 h5 h6 h7 hwv CR DR2
          go_upto_region 17 with (first
            | (refine wpList_store_new rfl 53 _ _ rfl w4 _ (RC r).toArray _ rfl rfl rfl Try.size53 rfl (all_one (RC_one r)) ?_; rw [← HW5.out, HE.out])
            | fail)
          go_wp2_with fail
          refine CP.out.mono ?_
          rintro e w_ ⟨rfl, hw⟩
          subst w_
          go_wp2_with fail
          refine CC.out.mono ?_
          rintro e w6 ⟨rfl, hd, -⟩
          have D6 := hide hd
          have C6 := hide D6.out.close
          clear hd CP CC D5
          go_wp2_with fail
          refine C6.out.mono ?_
          rintro e w7 ⟨rfl, hd, -⟩
          have D7 := hide hd
          have CO := hide (zOpen_any D7.out.ss)
          have CB := hide (D7.out.begin (by decide) false)
          clear hd C6 D6
          go_wp2_with fail
          refine CO.out.mono ?_
          rintro e w_ ⟨rfl, hw⟩
          subst w_
          go_wp2_with fail
          refine CB.out.mono ?_
          rintro e w8 ⟨rfl, b8, hd, -, -⟩
          have D8 := hide hd
          have CP := hide (zOps_any D8.out.ss)
          simp only [opsP] at CP
          have CQ := zPut_any D8.out cA cB (by decide)
          rw [lim_ab] at CQ
          have CQ := hide CQ
          clear hd CB CO D7
          go_wp2_with fail
          refine CP.out.mono ?_
          rintro e w_ ⟨rfl, hw⟩
          subst w_
          go_wp2_with fail
          refine CQ.out.mono ?_
          rintro e w9 ⟨rfl, b9, hd, -, -, -⟩
          have D9 := hide hd
          have CV := hide (lives_any w9)
          clear hd CQ CP D8
          go_wp2_with fail
          refine CV.out.mono ?_
          rintro e wa ⟨rfl, hba⟩
          have LA : Hid (Below w.heap.size w wa) := (show Below _ _ _ from D9.out.ls.lo.trans (hba.mono D9.out.ls.lo.size))
          clear hba
          go_wp2_with fail
          go_ret
          exact ⟨rfl, LA.out⟩
        · omega
        ·
          have q5 : decide ((64 : Int) < (j : Int)) = true := by simp; omega
          have q6 : decide ((0 : Int) < (j : Int)) = true := by simp; omega
          go_wp2_with fail
          refine CR.out.mono ?_
          rintro e w4 ⟨⟨r, rfl, -, -, -, h4, h5, h6, h7⟩, hb4⟩
          have hwv : wv r = .slice r.wa 1 r.wc := by show Value.slice r.wa r.ws.length r.wc = _; rw [h7]; exact congrArg (fun n => Value.slice r.wa n r.wc) HWL.out
          obtain ⟨E, HE⟩ : ∃ E, Hid (w4.heap.size = E) := ⟨_, rfl⟩
          obtain ⟨w5, hw5⟩ : ∃ y, y = w4.alloc (.cells (RC r).toArray 53 (0, 0)) := ⟨_, rfl⟩
          obtain ⟨b5, l5⟩ := newB HE hw5
          have HW5 := hide hw5
          have D5 := hide (DR2.out.kept (hb4.trans (l5.out.mono hb4.size)))
          have d4 := b5.out.rws
          rw [hwv] at d4
          have CP := hide (zOps_any D5.out.ss)
          simp only [opsP] at CP
          have CC := hide D5.out.close
          clear hw5 hb4 h4 h5 h6 h7 hwv CR DR2
          go_upto_region 17 with (first
            | (refine wpList_store_new rfl 53 _ _ rfl w4 _ (RC r).toArray _ rfl rfl rfl Try.size53 rfl (all_one (RC_one r)) ?_; rw [← HW5.out, HE.out])
            | fail)
          go_wp2_with fail
          refine CP.out.mono ?_
          rintro e w_ ⟨rfl, hw⟩
          subst w_
          go_wp2_with fail
          refine CC.out.mono ?_
          rintro e w6 ⟨rfl, hd, -⟩
          have D6 := hide hd
          have C6 := hide D6.out.close
          clear hd CP CC D5
          go_wp2_with fail
          refine C6.out.mono ?_
          rintro e w7 ⟨rfl, hd, -⟩
          have D7 := hide hd
          have CO := hide (zOpen_any D7.out.ss)
          have CB := hide (D7.out.begin (by decide) false)
          clear hd C6 D6
          go_wp2_with fail
          refine CO.out.mono ?_
          rintro e w_ ⟨rfl, hw⟩
          subst w_
          go_wp2_with fail
          refine CB.out.mono ?_
          rintro e w8 ⟨rfl, b8, hd, -, -⟩
          have D8 := hide hd
          have CP := hide (zOps_any D8.out.ss)
          simp only [opsP] at CP
          have CQ := zPut_any D8.out cA cB (by decide)
          rw [lim_ab] at CQ
          have CQ := hide CQ
          clear hd CB CO D7
          go_wp2_with fail
          refine CP.out.mono ?_
          rintro e w_ ⟨rfl, hw⟩
          subst w_
          go_wp2_with fail
          refine CQ.out.mono ?_
          rintro e w9 ⟨rfl, b9, hd, -, -, -⟩
          have D9 := hide hd
          have CV := hide (lives_any w9)
          clear hd CQ CP D8
          go_wp2_with fail
          refine CV.out.mono ?_
          rintro e wa ⟨rfl, hba⟩
          have LA : Hid (Below w.heap.size w wa) := (show Below _ _ _ from D9.out.ls.lo.trans (hba.mono D9.out.ls.lo.size))
          clear hba
          go_wp2_with fail
          go_ret
          exact ⟨rfl, LA.out⟩
#print axioms limits_any
end Go.Proofs.Ytcicekggeampcaa
