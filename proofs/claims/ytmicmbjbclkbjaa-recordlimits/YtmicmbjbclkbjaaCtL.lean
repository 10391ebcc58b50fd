/-
  The reference's Light: what the call does.
-/
import Derived.Test.YtmicmbjbclkbjaaCtX
namespace Go.Proofs.Ytmicmbjbclkbjaa
open Go.RowKit
theorem len_run (s : ByteArray) (n : Nat) (h : s.size = n) : ∀ W, (Builtin.len_ #[9] 3 #[.string s]).run Try.prog W = .ok (.int .i64 (n : Int)) W := fun W => by rw [← h]; simp [Builtin.len_, go_sem]
/-- Few reads and writes, few pairs of each read. -/
structure LtR (r : Rc) : Prop where
  wl : r.ws.length ≤ 100
  rl : r.rs.length ≤ 100
  ps : ∀ x ∈ r.rs, x.ps.length ≤ 600
/-- What Light tells. -/
def LPost (r : Rc) (e : Ending) : Prop := (∃ m : Nat, e = .returned (.int .i64 (m : Int)) ∧ m ≤ 600 ∧ LtR r) ∨ ∃ z : Int, e = .returned (.int .i64 z) ∧ z < 0
set_option maxHeartbeats 8000000 in
set_option maxRecDepth 100000 in
theorem light9_any {w : World} {r : Rc} (hr : ROk w r) (hb : RB 140737488351232 r) (m : Nat) (hm : m ≤ 600) : Calls Try.prog 25 #[.agg (RC r).toArray, .int .i64 (m : Int)] w fun e w' => LPost r e ∧ Below w.heap.size w w' := by
  obtain ⟨N, HN⟩ : ∃ N, Hid (w.heap.size = N) := ⟨_, rfl⟩
  obtain ⟨w1, hw1⟩ : ∃ y, y = w.alloc (.cells (RC r).toArray 27 (0, 0)) := ⟨_, rfl⟩
  obtain ⟨b1, l1⟩ := newB HN hw1
  have HW := hide hw1
  have HR1 := hide (hr.kept l1.out)
  have hN1 : N < w1.heap.size := b1.out.lt
  have hzp := zeroP
  have hzx := zeroX
  obtain ⟨hb1, hb2, hb3, hb4⟩ := hb
  have dr := b1.out.rrs
  have dw := b1.out.rws
  have HP : Hid (∀ (e : Ending) (z : Int), e = .returned (.int .i64 z) → z < 0 → LPost r e) := (show _ from fun e z h1 h2 => .inr ⟨z, h1, h2⟩)
  have HP2 : Hid (∀ (e : Ending) (k : Nat), e = .returned (.int .i64 (k : Int)) → k ≤ 600 → LtR r → LPost r e) := (show _ from fun e k h1 h2 h3 => .inl ⟨k, h1, h2, h3⟩)
  obtain ⟨Q, HQ⟩ : ∃ Q : Ending → Prop, Hid (LPost r = Q) := ⟨_, rfl⟩
  rw [HQ.out] at HP HP2 ⊢
  obtain ⟨Ws, HWs⟩ : ∃ K, Hid (r.ws = K) := ⟨_, rfl⟩
  obtain ⟨Rs, HRs⟩ : ∃ K, Hid (r.rs = K) := ⟨_, rfl⟩
  have RW : Hid (RdG PE w1 (.slice r.wa r.ws.length r.wc) r.ws) := (show RdG _ _ _ _ from HR1.out.ws)
  have RR : Hid (RdX w1 (.slice r.ra r.rs.length r.rc) r.rs) := (show RdX _ _ _ from HR1.out.rs)
  have HLT : Hid (r.ws.length ≤ 100 → r.rs.length ≤ 100 → (∀ x ∈ r.rs, x.ps.length ≤ 600) → LtR r) := (show _ from fun a b c => ⟨a, b, c⟩)
  unfold rv at dr
  unfold wv at dw
  rw [HWs.out] at dw RW hb2 hb4 HLT
  rw [HRs.out] at dr RR hb1 hb3 HLT
  obtain ⟨wl, HWL⟩ : ∃ n, Hid (Ws.length = n) := ⟨_, rfl⟩
  obtain ⟨rl, HRL⟩ : ∃ n, Hid (Rs.length = n) := ⟨_, rfl⟩
  rw [HWL.out] at dw RW hb2 HLT
  rw [HRL.out] at dr RR hb1 HLT
  obtain ⟨wa, HWA⟩ : ∃ y, Hid (r.wa = y) := ⟨_, rfl⟩
  obtain ⟨wc, HWC⟩ : ∃ y, Hid (r.wc = y) := ⟨_, rfl⟩
  obtain ⟨ra, HRA⟩ : ∃ y, Hid (r.ra = y) := ⟨_, rfl⟩
  obtain ⟨rc, HRC⟩ : ∃ y, Hid (r.rc = y) := ⟨_, rfl⟩
  rw [HWA.out, HWC.out] at dw RW
  rw [HRA.out, HRC.out] at dr RR
  have HB3 := hide hb3
  have HB4 := hide hb4
  have DR := hide dr
  have DW := hide dw
  have hwl : wl ≤ 4398046511104 := by omega
  have hrl : rl ≤ 4398046511104 := by omega
  clear hr hw1 hb1 hb2 hb3 hb4 HR1
  go_enter Try.func25, Try.ntmps25
  go_upto_region 1 with fail
  change Code.wp _ _ _ _ (w.alloc (.cells (RC r).toArray 27 (0, 0)))
  rw [← HW.out, HN.out]
  by_cases h1 : m < 1 + rl + wl
  · have q1 : decide ((m : Int) - (1 + (rl : Int) + (wl : Int)) < 0) = true := by simp; omega
    go_wp2_with fail
    go_ret
    exact ⟨HP.out _ _ rfl (by decide), l1.out⟩
  · have q1 : decide ((m : Int) - (1 + (rl : Int) + (wl : Int)) < 0) = false := by simp; omega
    by_cases h2 : 100 < rl
    · have q2 : decide ((100 : Int) < (rl : Int)) = true := by simp; omega
      go_wp2_with fail
      go_ret
      exact ⟨HP.out _ _ rfl (by decide), l1.out⟩
    · have q2 : decide ((100 : Int) < (rl : Int)) = false := by simp; omega
      by_cases h3 : 100 < wl
      · have q3 : decide ((100 : Int) < (wl : Int)) = true := by simp; omega
        go_wp2_with fail
        go_ret
        exact ⟨HP.out _ _ rfl (by decide), l1.out⟩
      · have q3 : decide ((100 : Int) < (wl : Int)) = false := by simp; omega
        go_wp2_with fail
        have R0 : Hid (Below w1.heap.size w1 w1) := Below.refl _ _
        obtain ⟨m0, HM0⟩ : ∃ z, Hid (m - (1 + rl + wl) = z) := ⟨_, rfl⟩
        have hm0 : m0 ≤ 600 := by have := HM0.out; omega
        have em0 : (m : Int) - (1 + (rl : Int) + (wl : Int)) = (m0 : Int) := by have := HM0.out; omega
        have HX0 : Hid ((Value.int .i64 ((m : Int) - (1 + (rl : Int) + (wl : Int)))) = .int .i64 (m0 : Int)) := (show _ = _ by rw [em0])
        clear em0
        have hwl1 : wl ≤ 100 := by omega
        have hrl1 : rl ≤ 100 := by omega
        clear q1 q2 q3 h1 h2 h3 hwl hrl
        go_loopg [1, 38] (wl + 1) (fun g x z wr => ∃ (i k : Nat), i ≤ wl ∧ g + i = wl + 1 ∧ x = .int .i64 (k : Int) ∧ z = .int .i64 (i : Int) ∧ k ≤ 600 ∧ Hid (Below w1.heap.size w1 wr))
        case atStart => exact ⟨0, m0, Nat.zero_le _, by omega, HX0.out, rfl, hm0, R0⟩
        case round =>
          clear R0 HX0
          obtain ⟨i, k, hi, hg, rfl, rfl, hk, LR⟩ := hrel
          by_cases hlt : i < wl
          · have hlt2 : i < Ws.length := by rw [HWL.out]; exact hlt
            have hlt' : (i : Int) < (wl : Int) := by omega
            obtain ⟨bb, off, rfl, hb1, hx⟩ := (RW.out.kept LR.out).nth (by omega)
            have hrow : wr.rangeAt bb (off + i * 3) (PC Ws[i]) := hx i hlt2
            have hok := HB4.out Ws[i] (List.getElem_mem hlt2)
            obtain ⟨p, HPp⟩ : ∃ p, Hid (Ws[i] = p) := ⟨Ws[i], (show Ws[i] = Ws[i] from rfl)⟩
            rw [HPp.out] at hrow hok
            obtain ⟨ks, HKS⟩ : ∃ k, Hid (p.1.size = k) := ⟨_, rfl⟩
            obtain ⟨vs, HVS⟩ : ∃ k, Hid (p.2.1.size = k) := ⟨_, rfl⟩
            obtain ⟨hk1, hk2⟩ := hok
            rw [HKS.out] at hk1
            rw [HVS.out] at hk2
            have r1 := len_run p.1 ks HKS.out
            have r2 := len_run p.2.1 vs HVS.out
            obtain ⟨E, HE⟩ : ∃ E, Hid (wr.heap.size = E) := ⟨_, rfl⟩
            obtain ⟨w2, hw2⟩ : ∃ y, y = wr.alloc (.cells (PC p).toArray 41 (0, 0)) := ⟨_, rfl⟩
            obtain ⟨b9, l2⟩ := newB HE hw2
            have c0 := b9.out.key
            have c1 := b9.out.val
            have LR2 : Hid (Below w1.heap.size w1 w2) := (show Below _ _ _ from LR.out.trans (l2.out.mono LR.out.size))
            have HW2 := hide hw2
            clear hx hw2
            by_cases h5 : k < (ks + vs) / 16
            · have q5 : decide ((k : Int) - ((ks : Int) + (vs : Int)) / 16 < 0) = true := by simp; omega
              go_upto_region 7 with (first
                | (refine wpList_load_mid rfl 41 _ rfl bb (off + i * 3) rfl (PC p) _ hrow Try.underlying41 rfl Try.size41 ?_)
                | (refine wpList_store_new rfl 41 _ _ rfl wr _ (PC p).toArray _ rfl rfl rfl Try.size41 rfl (all_one (PC_one p)) ?_; rw [← HW2.out, HE.out])
                | fail)
              go_wp2_with fail
              go_ret
              exact ⟨HP.out _ _ rfl (by decide), l1.out.trans (LR2.out.mono l1.out.size)⟩
            · have q5 : decide ((k : Int) - ((ks : Int) + (vs : Int)) / 16 < 0) = false := by simp; omega
              obtain ⟨k', HK'⟩ : ∃ z, Hid (k - (ks + vs) / 16 = z) := ⟨_, rfl⟩
              have hk' : k' ≤ 600 := by have := HK'.out; omega
              go_upto_region 7 with (first
                | (refine wpList_load_mid rfl 41 _ rfl bb (off + i * 3) rfl (PC p) _ hrow Try.underlying41 rfl Try.size41 ?_)
                | (refine wpList_store_new rfl 41 _ _ rfl wr _ (PC p).toArray _ rfl rfl rfl Try.size41 rfl (all_one (PC_one p)) ?_; rw [← HW2.out, HE.out])
                | fail)
              go_wp2_with fail
              go_roundg (wl - i)
              case measure => omega
              case rel => exact ⟨i + 1, k', by omega, by omega, by rw [← HK'.out]; congr 1; omega, by go_num, hk', LR2⟩
          · obtain rfl : i = wl := by omega
            have hlt' : ¬ (i : Int) < i := by omega
            clear hlt hlt' hi hg
            have c3 := (LR.out.cell (p := ⟨N, 3, none⟩) hN1).trans DR.out
            have LR0 := LR
            have HT0 : Hid (∀ j (hj : j < Rs.length), j < 0 → Rs[j].ps.length ≤ 600) := (show ∀ j (hj : j < Rs.length), _ from fun j hj h => by omega)
            go_wp2_with fail
            clear LR c3
            go_loopg [1, 58] (rl + 1) (fun g x z wr => ∃ (j : Nat) (k : Int), j ≤ rl ∧ g + j = rl + 1 ∧ x = .int .i64 k ∧ z = .int .i64 (j : Int) ∧ k ≤ 600 ∧ -17592186044416 ≤ k ∧ Hid (∀ t (ht : t < Rs.length), t < j → Rs[t].ps.length ≤ 600) ∧ Hid (Below w1.heap.size w1 wr))
            case atStart => exact ⟨0, (k : Int), Nat.zero_le _, by omega, rfl, rfl, by omega, by omega, HT0, LR0⟩
            case round =>
              clear LR0 HT0
              obtain ⟨j, k, hj, hg, rfl, rfl, hk, hk9, HT, LR⟩ := hrel
              by_cases hlt : j < rl
              · have hlt2 : j < Rs.length := by rw [HRL.out]; exact hlt
                have hlt' : (j : Int) < (rl : Int) := by omega
                have RB := RR.out.kept LR.out
                obtain ⟨bb, off, rfl, hb1, hx⟩ := RB.rd.nth (by omega)
                have hrow : wr.rangeAt bb (off + j * 4) (XC Rs[j]) := hx j hlt2
                have hok := HB3.out Rs[j] (List.getElem_mem hlt2)
                have hpk := RB.ps _ (List.getElem_mem hlt2)
                obtain ⟨y, HY⟩ : ∃ p, Hid (Rs[j] = p) := ⟨Rs[j], (show Rs[j] = Rs[j] from rfl)⟩
                rw [HY.out] at hrow hok hpk
                obtain ⟨ks, HKS⟩ : ∃ k, Hid (y.k.size = k) := ⟨_, rfl⟩
                obtain ⟨vs, HVS⟩ : ∃ k, Hid (y.t.size = k) := ⟨_, rfl⟩
                obtain ⟨hk1, hk2, hk3, hk4⟩ := hok
                rw [HKS.out] at hk1
                rw [HVS.out] at hk2
                have HK4 := hide hk4
                have r1 := len_run y.k ks HKS.out
                have r2 := len_run y.t vs HVS.out
                obtain ⟨E, HE⟩ : ∃ E, Hid (wr.heap.size = E) := ⟨_, rfl⟩
                obtain ⟨w2, hw2⟩ : ∃ y', y' = wr.alloc (.cells (XC y).toArray 39 (0, 0)) := ⟨_, rfl⟩
                obtain ⟨b9, l2⟩ := newB HE hw2
                have c1 := b9.out.xk
                have c2 := b9.out.xt
                have c3 := b9.out.xp
                have RP : Hid (RdG PE w2 (xv y) y.ps) := (show RdG _ _ _ _ from RdG.kept hpk l2.out)
                obtain ⟨Ps, HPs⟩ : ∃ z, Hid (y.ps = z) := ⟨_, rfl⟩
                unfold xv at c3 RP
                rw [HPs.out] at c3 RP hk3 HK4
                obtain ⟨pl, HPL⟩ : ∃ z, Hid (Ps.length = z) := ⟨_, rfl⟩
                rw [HPL.out] at c3 RP hk3
                obtain ⟨pa, HPA⟩ : ∃ z, Hid (y.ha = z) := ⟨_, rfl⟩
                obtain ⟨pc, HPC⟩ : ∃ z, Hid (y.hc = z) := ⟨_, rfl⟩
                rw [HPA.out, HPC.out] at c3 RP
                have LR2 : Hid (Below w1.heap.size w1 w2) := (show Below _ _ _ from LR.out.trans (l2.out.mono LR.out.size))
                have HW2 := hide hw2
                clear hx hw2 RB hpk hk4
                by_cases h5 : k < (pl : Int)
                · have q5 : decide (k < (pl : Int)) = true := by simp; omega
                  go_upto_region 14 with (first
                    | (refine wpList_load_mid rfl 39 _ rfl bb (off + j * 4) rfl (XC y) _ hrow Try.underlying39 rfl Try.size39 ?_)
                    | (refine wpList_store_new rfl 39 _ _ rfl wr _ (XC y).toArray _ rfl rfl rfl Try.size39 rfl (all_one (XC_one y)) ?_; rw [← HW2.out, HE.out])
                    | fail)
                  go_wp2_with fail
                  go_ret
                  exact ⟨HP.out _ _ rfl (by decide), l1.out.trans (LR2.out.mono l1.out.size)⟩
                · have q5 : decide (k < (pl : Int)) = false := by simp; omega
                  have HT1 : Hid (∀ t (ht : t < Rs.length), t < j + 1 → Rs[t].ps.length ≤ 600) := (show ∀ t (ht : t < Rs.length), _ from fun t ht htj => by
                    by_cases e : t = j
                    · subst e
                      rw [HY.out, HPs.out, HPL.out]
                      omega
                    · exact HT.out t ht (by omega))
                  obtain ⟨k1, HK1⟩ : ∃ z : Int, Hid (k - ((pl : Int) + ((ks : Int) + (vs : Int)) / 16) = z) := ⟨_, rfl⟩
                  have hk1a : k1 ≤ 600 := by have := HK1.out; omega
                  have hk1b : -17592186044416 ≤ k1 := by have := HK1.out; omega
                  have hpl : pl ≤ 600 := by omega
                  have R2 : Hid (Below w2.heap.size w2 w2) := Below.refl _ _
                  go_upto_region 14 with (first
                    | (refine wpList_load_mid rfl 39 _ rfl bb (off + j * 4) rfl (XC y) _ hrow Try.underlying39 rfl Try.size39 ?_)
                    | (refine wpList_store_new rfl 39 _ _ rfl wr _ (XC y).toArray _ rfl rfl rfl Try.size39 rfl (all_one (XC_one y)) ?_; rw [← HW2.out, HE.out])
                    | fail)
                  go_upto_region 18 with fail
                  clear hrow r1 r2 c1 c2 c3 q5
                  go_loopg [1, 84] (pl + 1) (fun g x z wr => ∃ (t : Nat) (k : Int), t ≤ pl ∧ g + t = pl + 1 ∧ x = .int .i64 k ∧ z = .int .i64 (t : Int) ∧ k ≤ 600 ∧ -17592186044416 ≤ k ∧ Hid (Below w2.heap.size w2 wr))
                  case atStart => exact ⟨0, k1, Nat.zero_le _, by omega, by rw [HK1.out], rfl, hk1a, hk1b, R2⟩
                  case round =>
                    clear R2 HK1 hk1a hk1b h5
                    obtain ⟨t, k, ht, hgt, rfl, rfl, hk, hk9, LR3⟩ := hrel
                    by_cases hltt : t < pl
                    · have hlt2t : t < Ps.length := by rw [HPL.out]; exact hltt
                      have hltt' : (t : Int) < (pl : Int) := by omega
                      obtain ⟨bb, off, rfl, hb1, hx⟩ := (RP.out.kept LR3.out).nth (by omega)
                      have hrow : wr.rangeAt bb (off + t * 3) (PC Ps[t]) := hx t hlt2t
                      have hok := HK4.out Ps[t] (List.getElem_mem hlt2t)
                      obtain ⟨p, HPp⟩ : ∃ p, Hid (Ps[t] = p) := ⟨Ps[t], (show Ps[t] = Ps[t] from rfl)⟩
                      rw [HPp.out] at hrow hok
                      obtain ⟨ks, HKS⟩ : ∃ k, Hid (p.1.size = k) := ⟨_, rfl⟩
                      obtain ⟨vs, HVS⟩ : ∃ k, Hid (p.2.1.size = k) := ⟨_, rfl⟩
                      obtain ⟨hk1, hk2⟩ := hok
                      rw [HKS.out] at hk1
                      rw [HVS.out] at hk2
                      have r1 := len_run p.1 ks HKS.out
                      have r2 := len_run p.2.1 vs HVS.out
                      obtain ⟨E3, HE3⟩ : ∃ E, Hid (wr.heap.size = E) := ⟨_, rfl⟩
                      obtain ⟨w3, hw3⟩ : ∃ y, y = wr.alloc (.cells (PC p).toArray 41 (0, 0)) := ⟨_, rfl⟩
                      obtain ⟨b8, l3⟩ := newB HE3 hw3
                      have c0 := b8.out.key
                      have c1 := b8.out.val
                      have LR4 : Hid (Below w2.heap.size w2 w3) := (show Below _ _ _ from LR3.out.trans (l3.out.mono LR3.out.size))
                      have HW3 := hide hw3
                      clear hx hw3
                      obtain ⟨k2, HK2⟩ : ∃ z : Int, Hid (k - ((ks : Int) + (vs : Int)) / 16 = z) := ⟨_, rfl⟩
                      by_cases h6 : k2 < 0
                      · have q6 : decide (k - ((ks : Int) + (vs : Int)) / 16 < 0) = true := by rw [HK2.out]; simp; omega
                        go_upto_region 20 with (first
                          | (refine wpList_load_mid rfl 41 _ rfl bb (off + t * 3) rfl (PC p) _ hrow Try.underlying41 rfl Try.size41 ?_)
                          | (refine wpList_store_new rfl 41 _ _ rfl wr _ (PC p).toArray _ rfl rfl rfl Try.size41 rfl (all_one (PC_one p)) ?_; rw [← HW3.out, HE3.out])
                          | fail)
                        go_wp2_with fail
                        go_ret
                        exact ⟨HP.out _ _ rfl (by decide), l1.out.trans ((LR2.out.trans (LR4.out.mono LR2.out.size)).mono l1.out.size)⟩
                      · have q6 : decide (k - ((ks : Int) + (vs : Int)) / 16 < 0) = false := by rw [HK2.out]; simp; omega
                        have hk2a : k2 ≤ 600 := by have := HK2.out; omega
                        go_upto_region 20 with (first
                          | (refine wpList_load_mid rfl 41 _ rfl bb (off + t * 3) rfl (PC p) _ hrow Try.underlying41 rfl Try.size41 ?_)
                          | (refine wpList_store_new rfl 41 _ _ rfl wr _ (PC p).toArray _ rfl rfl rfl Try.size41 rfl (all_one (PC_one p)) ?_; rw [← HW3.out, HE3.out])
                          | fail)
                        go_wp2_with fail
                        go_roundg (pl - t)
                        case measure => omega
                        case rel => exact ⟨t + 1, k2, by omega, by omega, by rw [HK2.out], by go_num, hk2a, by omega, LR4⟩
                    · obtain rfl : t = pl := by omega
                      have hltt' : ¬ (t : Int) < t := by omega
                      have L5 : Hid (Below w1.heap.size w1 wr) := (show Below _ _ _ from LR2.out.trans (LR3.out.mono LR2.out.size))
                      go_wp2_with fail
                      go_roundg (rl - j)
                      case measure => omega
                      case rel => exact ⟨j + 1, k, by omega, by omega, rfl, by go_num, hk, hk9, HT1, L5⟩
              · obtain rfl : j = rl := by omega
                have hlt' : ¬ (j : Int) < j := by omega
                have HTA : Hid (∀ x ∈ Rs, x.ps.length ≤ 600) := (show _ from fun x hx => by
                  obtain ⟨t, ht, e⟩ := List.getElem_of_mem hx
                  rw [← e]
                  exact HT.out t ht (by rw [← HRL.out]; exact ht))
                by_cases h9 : k < 0
                · go_wp2_with fail
                  go_ret
                  exact ⟨HP.out _ _ rfl h9, l1.out.trans (LR.out.mono l1.out.size)⟩
                · obtain ⟨kn, rfl⟩ : ∃ kn : Nat, k = (kn : Int) := ⟨k.toNat, by rw [Int.toNat_of_nonneg (by omega)]⟩
                  go_wp2_with fail
                  go_ret
                  exact ⟨HP2.out _ kn rfl (by omega) (HLT.out hwl1 hrl1 HTA.out), l1.out.trans (LR.out.mono l1.out.size)⟩
#print axioms light9_any
end Go.Proofs.Ytmicmbjbclkbjaa
