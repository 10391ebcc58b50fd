/-
  (*disk.Disk).Write: what the call does.
-/
import Derived.Test.YtnkcjhfdmnpckaaDiskN
namespace Go.Proofs.Ytnkcjhfdmnpckaa
open Go.RowKit
open Pd (spl spl_length spl_get clip clip_le DM)
section
variable {w : World} {c : Nat → Nat} {i D n : Nat} {m : DM}
set_option maxHeartbeats 1000000 in
set_option maxRecDepth 100000 in
theorem write_off {S M cap : Nat} {vo vk : Value} {ops torn : Int} (hB : Blk w D 56 (DB false S n cap M vo ops vk torn)) (hn : 0 < n) (p : Int) (v : Value) : Calls Try.prog 15 #[.pointer (some ⟨D, 0, none⟩), .int .i64 p, v] w fun e w' => e = .returned (.int .i64 7) ∧ w' = w := by
  have HB : Hid (Blk w D 56 (DB false S n cap M vo ops vk torn)) := hB
  clear hB
  go_enter Try.func15, Try.ntmps15
  go_wp2_with fail
  refine (ready_any HB.out hn).mono ?_
  rintro e w1 ⟨rfl, hw⟩; subst hw
  simp only [Bool.false_eq_true, if_false]
  go_wp2
  go_ret
  exact ⟨rfl, rfl⟩
set_option maxHeartbeats 1000000 in
set_option maxRecDepth 100000 in
theorem write_neg {S M cap : Nat} {vo vk : Value} {ops torn : Int} (hB : Blk w D 56 (DB true S n cap M vo ops vk torn)) (hn : 0 < n) (p : Int) (hp : p < 0) (v : Value) : Calls Try.prog 15 #[.pointer (some ⟨D, 0, none⟩), .int .i64 p, v] w fun e w' => e = .returned (.int .i64 2) ∧ w' = w := by
  have HB : Hid (Blk w D 56 (DB true S n cap M vo ops vk torn)) := hB
  clear hB
  go_enter Try.func15, Try.ntmps15
  go_wp2_with fail
  refine (ready_any HB.out hn).mono ?_
  rintro e w1 ⟨rfl, hw⟩; subst hw
  simp only [if_true]
  go_wp2
  go_ret
  exact ⟨rfl, rfl⟩
set_option maxHeartbeats 1000000 in
set_option maxRecDepth 100000 in
theorem write_full {S M cap : Nat} {vo vk : Value} {ops torn : Int} (hB : Blk w D 56 (DB true S n cap M vo ops vk torn)) (hn : 0 < n) (hm : n ≤ 4096) (p : Int) (hp : 0 ≤ p) (hp2 : p < 9223372036854775808) (a : Option Addr) (k cp : Nat) (hk : ((32 * n : Nat) : Int) - p < (k : Int)) :
    Calls Try.prog 15 #[.pointer (some ⟨D, 0, none⟩), .int .i64 p, .slice a k cp] w fun e w' => e = .returned (.int .i64 6) ∧ w' = w := by
  have HB : Hid (Blk w D 56 (DB true S n cap M vo ops vk torn)) := hB
  have HE : Hid (decide ((k : Int) ≤ ((32 * n : Nat) : Int) - p) = false) := (show _ = _ by simp; omega)
  clear hB hk
  go_enter Try.func15, Try.ntmps15
  go_wp2_with fail
  refine (ready_any HB.out hn).mono ?_
  rintro e w1 ⟨rfl, hw⟩; subst hw
  simp only [if_true]
  go_wp2_with fail
  refine (ends_any HB.out hn hm p k hp hp2).mono ?_
  rintro e w2 ⟨rfl, hw⟩; subst hw
  rw [HE.out]
  go_wp2
  go_ret
  exact ⟨rfl, rfl⟩
set_option maxHeartbeats 1000000 in
set_option maxRecDepth 100000 in
theorem write_none {S M cap : Nat} {vo vk : Value} {ops torn : Int} (hB : Blk w D 56 (DB true S n cap M vo ops vk torn)) (hn : 0 < n) (hm : n ≤ 4096) (p : Int) (hp : 0 ≤ p) (hp2 : p ≤ ((32 * n : Nat) : Int)) (a : Option Addr) (cp : Nat) :
    Calls Try.prog 15 #[.pointer (some ⟨D, 0, none⟩), .int .i64 p, .slice a 0 cp] w fun e w' => e = .returned (.int .i64 0) ∧ w' = w := by
  have HB : Hid (Blk w D 56 (DB true S n cap M vo ops vk torn)) := hB
  have HE : Hid (decide ((0 : Int) ≤ ((32 * n : Nat) : Int) - p) = true) := (show _ = _ by simp; omega)
  have hp3 : Hid (p < 9223372036854775808) := (show p < 9223372036854775808 by omega)
  clear hB hp2
  go_enter Try.func15, Try.ntmps15
  go_wp2_with fail
  refine (ready_any HB.out hn).mono ?_
  rintro e w1 ⟨rfl, hw⟩; subst hw
  simp only [if_true]
  go_wp2_with fail
  refine (ends_any HB.out hn hm p 0 hp hp3.out).mono ?_
  rintro e w2 ⟨rfl, hw⟩; subst hw
  rw [HE.out]
  go_wp2
  go_ret
  exact ⟨rfl, rfl⟩
theorem inB_off {v : Value} {b : Nat} : Off b v ↔ ¬ InB v b := by
  constructor
  · rintro h ⟨off, k, cp, e, hk⟩
    exact h b off k cp e hk rfl
  · intro h b' off k cp e hk e'
    subst e'
    exact h ⟨off, k, cp, e, hk⟩
theorem Wf.small {N : Nat} {s : St} (h : Wf n N s) (hn : n ≤ 4096) : N ≤ 4096 ∧ s.order.length ≤ 4096 := by
  have h1 : s.order.length ≤ n := by
    have := List.Nodup.length_le_of_subset h.nodup (l₂ := List.range n) (fun k hk => by simpa using h.low k hk)
    simpa using this
  have h2 := List.length_filter_le (fun j : Nat => (s.f j).isSome) s.order
  rw [h.cnt]
  omega
theorem chunk {e : DM} {p d q k o l L : Nat} {b : List UInt8} (he : e.now.length = 32 * n) (hd : d < b.length) (hq : p + d = q) (hpl : p + b.length ≤ 32 * n) (hk : k = q / 32) (ho : o = q % 32) (hl : ((b.drop d).take (32 - o)).length = l) (hL : b.length = L) :
    laid e p (b.take (d + l)) = { laid e p (b.take d) with now := spl (laid e p (b.take d)).now (32 * k + o) ((b.drop d).take (32 - o)), dirty := Pd.adds (laid e p (b.take d)).dirty k } ∧ o + l ≤ 32 ∧ 0 < l ∧ d + l ≤ L ∧ k < n := by
  have hlt : (b.take d).length = d := by rw [List.length_take]; omega
  rw [List.length_take, List.length_drop] at hl
  have e1 : b.take (d + l) = b.take d ++ (b.drop d).take (32 - o) := by
    rw [List.take_add]
    congr 1
    by_cases h : 32 - o ≤ b.length - d
    · rw [show l = 32 - o by omega]
    · rw [List.take_of_length_le (l := b.drop d) (by rw [List.length_drop]; omega), List.take_of_length_le (l := b.drop d) (by rw [List.length_drop]; omega)]
  have hx : ((b.drop d).take (32 - o)).length = l := by rw [List.length_take, List.length_drop]; exact hl
  refine ⟨?_, by omega, by omega, by omega, by omega⟩
  rw [e1, laid_more he (by rw [hlt, hx]; omega) (by rw [hx]; omega) (by rw [hlt, hx, hq]; omega), hlt, hq, hk, ho, Nat.div_add_mod]
/-- What Write comes to, if something is to be written. -/
def wrote (m : DM) (p : Nat) (b : List UInt8) : Nat × DM := match Pd.strike m with
  | (true, e) => (7, e)
  | (false, e) => (0, laid e p b)
theorem strike_off {m e : DM} (h : Pd.strike m = (false, e)) : e.off = m.off := by
  unfold Pd.strike at h
  split at h
  · cases h; rfl
  · split at h
    · cases h
    · cases h; rfl
set_option maxHeartbeats 2000000 in
set_option maxRecDepth 100000 in
theorem write_go {S M cap N : Nat} {vo vk : Value} {s : St} (hA : At w D S M n cap N vo vk s) (hW : Wf n N s) (hR : Rel n s m) (hon : m.off = false) (p : Nat) (v : Value) (b : List UInt8) (hr : Rd w v b) (hb0 : 0 < b.length) (hpl : p + b.length ≤ 32 * n)
    (hvk : ∀ x, InB vk x → x ≠ D ∧ x ≠ S ∧ x ≠ M ∧ vo.ownBlock ≠ some x) (hv : ∀ x, InB v x → x ≠ D ∧ x ≠ S ∧ x ≠ M ∧ vo.ownBlock ≠ some x) :
    Calls Try.prog 15 #[.pointer (some ⟨D, 0, none⟩), .int .i64 (p : Int), v] w fun e w' => e = .returned (.int .i64 ((wrote m p b).1 : Int)) ∧ Chg (fun k => k = D ∨ k = S ∨ k = M ∨ vo.ownBlock = some k) w w' ∧ ∃ N' vo' vk' s', At w' D S M n cap N' vo' vk' s' ∧ Wf n N' s' ∧ Rel n s' (wrote m p b).2 ∧ (∀ x, vo'.ownBlock = some x → vo.ownBlock = some x ∨ w.heap.size ≤ x) ∧ (vk' = vk ∨ vk' = .slice none 0 0) := by
  have HA : Hid (At w D S M n cap N vo vk s) := hA
  have HW : Hid (Wf n N s) := hW
  have HR : Hid (Rel n s m) := hR
  have HRD : Hid (Rd w v b) := hr
  have HVK : Hid (∀ x, InB vk x → x ≠ D ∧ x ≠ S ∧ x ≠ M ∧ vo.ownBlock ≠ some x) := hvk
  have HV : Hid (∀ x, InB v x → x ≠ D ∧ x ≠ S ∧ x ≠ M ∧ vo.ownBlock ≠ some x) := hv
  have hso : s.on = true := by rw [hR.on, hon]; rfl
  have hdd := hA.d
  rw [hso] at hdd
  have HD : Hid (Blk w D 56 (DB true S n cap M vo s.ops vk s.torn)) := hdd
  have hp := hA.pos
  have hn := hA.max
  obtain ⟨a, cp, rfl, h1, h2, h3, h4⟩ := hr
  clear hA hW hR hvk hv hdd h3 h4
  obtain ⟨L, HL⟩ : ∃ L, Hid (b.length = L) := ⟨_, rfl⟩
  have hpl' : p + L ≤ 32 * n := by rw [← HL.out]; exact hpl
  have hL0 : 0 < L := by rw [← HL.out]; exact hb0
  rw [HL.out] at h1 HRD HV ⊢
  have HE : Hid (decide ((L : Int) ≤ ((32 * n : Nat) : Int) - (p : Int)) = true) := (show _ = _ by simp; omega)
  have q1 : ((L : Int) == 0) = false := by simp; omega
  have HFA : Hid _ := fails_any HA.out HW.out HR.out hon (fun x hx => ⟨(HVK.out x hx).1, (HVK.out x hx).2.1, (HVK.out x hx).2.2.1⟩)
  clear hpl hb0
  obtain ⟨r, HRC⟩ : ∃ r, Hid (wrote m p b = r) := ⟨_, rfl⟩
  rw [HRC.out]
  go_enter Try.func15, Try.ntmps15
  go_wp2_with fail
  refine (ready_any HD.out hp).mono ?_
  rintro e w1 ⟨rfl, hw⟩; subst hw
  simp only [if_true]
  have q0 : ¬ (p : Int) < 0 := by omega
  go_wp2_with fail
  refine (ends_any HD.out hp hn p L (by omega) (by omega)).mono ?_
  rintro e w2 ⟨rfl, hw⟩; subst hw
  rw [HE.out]
  clear HE
  go_wp2_with fail
  refine Calls.mono HFA.out ?_
  clear HFA
  rintro e w3 ⟨rfl, u3, f3, t3⟩
  have U3 : Hid (Chg (fun k => k = D ∨ k = S ∨ k = M ∨ vo.ownBlock = some k) w2 w3) := u3.mono (fun _ _ e => by rcases e with e | e | e; exact .inl e; exact .inr (.inl e); exact .inr (.inr (.inl e)))
  cases hs : Pd.strike m with
  | mk x e =>
    rw [hs] at f3 t3
    cases x with
    | true =>
      obtain ⟨s', hA', hW', hR'⟩ := t3 rfl
      have A3 : Hid _ := hA'
      have W3 : Hid _ := hW'
      have R3 : Hid _ := hR'
      have HE : Hid (r = (7, e)) := (show _ = _ by rw [← HRC.out]; unfold wrote; rw [hs])
      clear f3 t3 u3 hA' hW' hR' hs
      go_wp2
      go_ret
      rw [HE.out]
      exact ⟨rfl, U3.out, 0, .slice none 0 0, .slice none 0 0, s', A3.out, W3.out, R3.out, fun x hx => (by cases hx), .inr rfl⟩
    | false =>
      obtain ⟨s', hA', hW', hR'⟩ := f3 rfl
      have A3 : Hid (At w3 D S M n cap N vo vk s') := hA'
      have W3 : Hid (Wf n N s') := hW'
      have R3 : Hid (Rel n s' e) := hR'
      have HE : Hid (r = (0, laid e p b)) := (show _ = _ by rw [← HRC.out]; unfold wrote; rw [hs])
      have HOF : Hid (e.off = false) := (show _ = _ by rw [strike_off hs]; exact hon)
      clear f3 t3 u3 hA' hW' hR' hs
      have HRD3 : Hid (Rd w3 (.slice a L cp) b) := HRD.out.chg U3.out (fun x hx e => by
        obtain ⟨k1, k2, k3, k4⟩ := HV.out x hx
        rcases e with e | e | e | e
        · exact k1 e
        · exact k2 e
        · exact k3 e
        · exact k4 e)
      go_wp2_with fail
      go_loopg [1, 2] L (fun g x y wr => ∃ d : Nat, g + d = L ∧ x = .int .i64 ((p + d : Nat) : Int) ∧ ∃ ad cd, y = .slice ad (L - d) cd ∧ L - d ≤ cd ∧ Hid (Rd wr (.slice ad (L - d) cd) (b.drop d)) ∧ Hid (∀ x, InB (.slice ad (L - d) cd) x → InB (.slice a L cp) x) ∧
        ∃ Nr vr sr, Hid (At wr D S M n cap Nr vr vk sr) ∧ Hid (Wf n Nr sr) ∧ Hid (Rel n sr (laid e p (b.take d))) ∧ Hid (∀ x, vr.ownBlock = some x → vo.ownBlock = some x ∨ w2.heap.size ≤ x) ∧ Hid (Chg (fun k => k = D ∨ k = S ∨ k = M ∨ vo.ownBlock = some k) w2 wr))
      case atStart => exact ⟨0, by omega, rfl, a, cp, rfl, h1, HRD3, fun x hx => hx, N, vo, s', A3, W3, (show Rel _ _ _ by rw [List.take_zero, laid_nil]; exact R3.out), fun x hx => .inl hx, U3⟩
      case round =>
        obtain ⟨d, hgd, rfl, ad, cd, rfl, hcd, RR, IB, Nr, vr, sr, AR, WR, RLR, VR, UR⟩ := hrel
        by_cases hlt : d < L
        · have q2 : (0 : Int) < ((L - d : Nat) : Int) := by omega
          have HLAY : Hid _ := lay_any AR.out (WR.out.small hn).1 (WR.out.small hn).2 (p + d) (by omega) (.slice ad (L - d) cd) (b.drop d) RR.out (fun x hx => ⟨(HVK.out x hx).1, fun e => by
            rcases VR.out x e with e | e
            · exact (HVK.out x hx).2.2.2 e
            · have := HA.out.kp.inB_lt hx; omega⟩)
          go_wp2_with fail
          refine Calls.mono HLAY.out ?_
          rintro e4 w4 ⟨rfl, vr', N', a4, rfl, u4, v4⟩
          obtain ⟨q, HQ⟩ : ∃ q, Hid (p + d = q) := ⟨_, rfl⟩
          obtain ⟨k, HK⟩ : ∃ k, Hid (k = q / 32) := ⟨_, rfl⟩
          obtain ⟨o, HO⟩ : ∃ o, Hid (o = q % 32) := ⟨_, rfl⟩
          rw [HQ.out, ← HK.out, ← HO.out] at a4
          rw [HQ.out, ← HO.out]
          obtain ⟨l, HLL⟩ : ∃ l, Hid (((b.drop d).take (32 - o)).length = l) := ⟨_, rfl⟩
          rw [HLL.out]
          obtain ⟨e5, k1, k2, k3, k4⟩ := chunk (e := e) R3.out.ok.now (by rw [HL.out]; exact hlt) HQ.out (by rw [HL.out]; exact hpl') HK.out HO.out HLL.out HL.out
          have A4 : Hid (At w4 D S M n cap (cntS sr.f k Nr) vr' vk (layS sr k o ((b.drop d).take (32 - o)))) := a4
          have hRW := RLR.out.lay WR.out HOF.out k o ((b.drop d).take (32 - o)) k4 (by rw [HLL.out]; exact k1)
          rw [← e5] at hRW
          have R4 : Hid (Rel n (layS sr k o ((b.drop d).take (32 - o))) (laid e p (b.take (d + l)))) := hRW.1
          have W4 : Hid (Wf n (cntS sr.f k Nr) (layS sr k o ((b.drop d).take (32 - o)))) := hRW.2
          have U4 : Hid (Chg (fun k => k = D ∨ k = S ∨ k = M ∨ vo.ownBlock = some k) w2 w4) := UR.out.then u4 (fun x hx e => by
            rcases e with e | e | e
            · exact .inl e
            · exact .inr (.inr (.inl e))
            · rcases VR.out x e with e | e
              · exact .inr (.inr (.inr e))
              · omega)
          have V4 : Hid (∀ x, vr'.ownBlock = some x → vo.ownBlock = some x ∨ w2.heap.size ≤ x) := fun x hx => by
            rcases v4 x hx with e | e
            · exact VR.out x e
            · exact .inr (Nat.le_trans UR.out.size e)
          have RD4 : Hid (Rd w4 (.slice ad (L - d) cd) (b.drop d)) := RR.out.chg u4 (fun x hx e => by
            obtain ⟨j1, j2, j3, j4⟩ := HV.out x (IB.out x hx)
            rcases e with e | e | e
            · exact j1 e
            · exact j3 e
            · rcases VR.out x e with e | e
              · exact j4 e
              · have := HRD.out.inB_lt (IB.out x hx)
                omega)
          obtain ⟨ad', hs2, H2, H3⟩ := slice_from Try.underlying29 Try.size5 ad (L - d) cd l (by omega) hcd
          have H2 : Hid _ := H2
          have H3 : Hid _ := H3
          clear a4 u4 v4 hRW e5 RR AR WR RLR VR UR HLAY
          go_upto_region 14 with fail
          have q3 : (l : Int) ≤ ((L - d : Nat) : Int) := by omega
          go_region
          go_wp2_with fail
          go_roundg (gk - l)
          case measure => omega
          case rel =>
            refine ⟨d + l, by omega, by rw [show ((p + (d + l) : Nat) : Int) = (p : Int) + (d : Int) + (l : Int) by omega], ad', cd - l, by rw [show L - (d + l) = L - d - l by omega], by omega, ?_, ?_, cntS sr.f k Nr, vr', _, A4.out.drew, W4, R4, V4, U4.out.trans (Chg.drew _ _)⟩
            · show Rd _ _ _
              have h := H2.out w4.drew (b.drop d) (RD4.out.chg (F := fun _ => False) (Chg.drew _ _) (fun _ _ => id))
              rw [List.drop_drop] at h
              rw [show L - (d + l) = L - d - l by omega]
              exact h
            · show ∀ x, _
              intro x hx
              rw [show L - (d + l) = L - d - l by omega] at hx
              refine IB.out x ?_
              by_cases hh : InB (.slice ad (L - d) cd) x
              · exact hh
              · exact absurd hx (inB_off.1 (H3.out w4 (b.drop d) x RD4.out (inB_off.2 hh)))
        · obtain rfl : d = L := by omega
          have RF : Hid (Rel n sr (laid e p b)) := (show Rel _ _ _ by
            have := RLR.out
            rwa [← HL.out, List.take_length] at this)
          go_wp2_with fail
          go_ret
          rw [HE.out]
          exact ⟨rfl, UR.out, Nr, vr, vk, sr, AR.out, WR.out, RF.out, VR.out, .inl rfl⟩
theorem dWrite_any (h : IsD w c i D n m) (hc : ∀ k, w.heap.size ≤ k → c k = 0) (p : Int) (hpw : (Lit.int .i64 p).wf = true) (v : Value) (b : List UInt8) (hr : Rd w v b) (hv : Cool c v) :
    Calls Try.prog 15 #[.pointer (some ⟨D, 0, none⟩), .int .i64 p, v] w fun e w' => e = .returned (.int .i64 ((Pd.write m p b).1 : Int)) ∧ ∃ c', IsD w' c' i D n (Pd.write m p b).2 ∧ Step c i w c' w' := by
  obtain ⟨S, M, cap, N, vo, vk, s, hA, hW, hR, h1, h2, h3, h4, h5, h6⟩ := h
  have hsame : ∀ w', w' = w → ∃ c', IsD w' c' i D n m ∧ Step c i w c' w' := fun w' e => ⟨c, ⟨S, M, cap, N, vo, vk, s, by rw [e]; exact hA, hW, hR, h1, h2, h3, h4, h5, h6⟩, by rw [e]; exact ⟨Chg.refl _ _, fun _ _ => rfl, hc⟩⟩
  have bd := bounds_i64 hpw
  have hon := hR.on
  have hnow := hR.ok.now
  have hpos := hA.pos
  have hmax := hA.max
  cases ho : m.off with
  | true =>
    rw [ho] at hon
    have e1 : Pd.write m p b = (7, m) := by unfold Pd.write; rw [ho]; rfl
    rw [e1]
    have hd := hA.d
    rw [hon] at hd
    refine (write_off hd hA.pos p v).mono ?_
    rintro e w' ⟨rfl, hw⟩
    exact ⟨rfl, hsame w' hw⟩
  | false =>
    rw [ho] at hon
    have hd := hA.d
    rw [hon] at hd
    by_cases hp : p < 0
    · have e1 : Pd.write m p b = (2, m) := by unfold Pd.write; rw [ho, if_neg (by simp), if_pos hp]
      rw [e1]
      refine (write_neg hd hA.pos p hp v).mono ?_
      rintro e w' ⟨rfl, hw⟩
      exact ⟨rfl, hsame w' hw⟩
    · obtain ⟨a, cp, rfl⟩ := hr.slice
      by_cases hf : (m.now.length : Int) < p ∨ (m.now.length : Int) - p < b.length
      · have e1 : Pd.write m p b = (6, m) := by unfold Pd.write; rw [ho, if_neg (by simp), if_neg hp, if_pos hf]
        rw [e1]
        refine (write_full hd hpos hmax p (by omega) (by omega) a b.length cp (by omega)).mono ?_
        rintro e w' ⟨rfl, hw⟩
        exact ⟨rfl, hsame w' hw⟩
      · by_cases hb : b = []
        · have e1 : Pd.write m p b = (0, m) := by unfold Pd.write; rw [ho, if_neg (by simp), if_neg hp, if_neg hf, if_pos hb]
          rw [e1]
          subst hb
          refine (write_none hd hpos hmax p (by omega) (by omega) a cp).mono ?_
          rintro e w' ⟨rfl, hw⟩
          exact ⟨rfl, hsame w' hw⟩
        · have e1 : Pd.write m p b = wrote m p.toNat b := by unfold Pd.write wrote; rw [ho, if_neg (by simp), if_neg hp, if_neg hf, if_neg hb]; rfl
          rw [e1]
          have hpp : p = ((p.toNat : Nat) : Int) := by omega
          have hb0 : 0 < b.length := List.length_pos_iff.2 hb
          have apart : ∀ x, c x = 0 → x ≠ D ∧ x ≠ S ∧ x ≠ M ∧ vo.ownBlock ≠ some x := fun x hx => ⟨fun e => h6 (by rw [← h1, ← e]; exact hx), fun e => h6 (by rw [← h2, ← e]; exact hx), fun e => h6 (by rw [← h3, ← e]; exact hx), fun e => h6 ((h4 x e).symm.trans hx)⟩
          have := write_go hA hW hR ho p.toNat _ b hr hb0 (by omega) (fun x hx => apart x (h5 x hx)) (fun x hx => apart x (hv x hx))
          rw [← hpp] at this
          refine this.mono ?_
          rintro e w' ⟨rfl, hU, N', vo', vk', s', hA', hW', hR', hvo, hvk⟩
          have hU' : Chg (fun k => c k = i) w w' := hU.mono (fun k _ e => by
            rcases e with e | e | e | e
            · rw [e]; exact h1
            · rw [e]; exact h2
            · rw [e]; exact h3
            · exact h4 k e)
          refine ⟨rfl, paint c w w' i, ⟨S, M, cap, N', vo', vk', s', hA', hW', hR', (paint_old hA.d.lt).trans h1, (paint_old hA.sf.lt).trans h2, (paint_old hA.mp.lt).trans h3, fun x hx => ?_, fun x hx => ?_, h6⟩, Step.of_paint hU'⟩
          · rcases hvo x hx with e | e
            · exact (paint_old (own_lt hA.od e)).trans (h4 x e)
            · exact paint_new e (own_lt hA'.od hx)
          · rcases hvk with rfl | rfl
            · exact (paint_old (hA.kp.inB_lt hx)).trans (h5 x hx)
            · exact absurd hx (InB_nil x)
end
end Go.Proofs.Ytnkcjhfdmnpckaa
