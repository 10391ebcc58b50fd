/-
  The reference's disk: Sync.
-/
import Derived.Test.YtnkcjhfdmnpckaaRefK
namespace Go.Proofs.Ytnkcjhfdmnpckaa
open Go.RowKit
open Pd (DM spl)
theorem strike_on {m : DM} {e : DM} (h : Pd.strike m = (false, e)) : e.off = m.off ∧ e.now = m.now ∧ e.dirty = m.dirty := by
  unfold Pd.strike at h
  split at h
  · cases h; exact ⟨rfl, rfl, rfl⟩
  · split at h
    · cases h
    · cases h; exact ⟨rfl, rfl, rfl⟩
set_option maxHeartbeats 2000000 in
set_option maxRecDepth 100000 in
theorem rSync_any {w : World} {c : Nat → Nat} {i R n : Nat} {m : DM} (h : IsR w c i R n m) (hN : Norm c w) :
    Calls Try.prog 28 #[.pointer (some ⟨R, 0, none⟩)] w fun e w' => e = .returned (.int .i64 ((Pd.sync m).1 : Int)) ∧ ∃ c', IsR w' c' i R n (Pd.sync m).2 ∧ Step c i w c' w' := by
  have H : Hid (IsR w c i R n m) := h
  have HN : Hid (Norm c w) := hN
  obtain ⟨vn, vs, vd, vk, hA, hO, hn, h1, h2, h3, h4, h5, h6⟩ := h
  have HA : Hid (RAt w R vn vs vd vk m) := hA
  have c2 := hA.blk.cell (j := 2) rfl
  have c3 := hA.blk.cell (j := 3) rfl
  obtain ⟨ad, cd, hvd, -⟩ := hA.dirty.rd
  subst hvd
  clear hA hO hN
  obtain ⟨k, HK⟩ : ∃ k, Hid ((Nats m.dirty).length = k) := ⟨_, rfl⟩
  rw [HK.out] at c2 HA h4
  go_enter Try.func28, Try.ntmps28
  cases ho : m.off with
  | true =>
    rw [ho] at c3
    have HE : Hid (Pd.sync m = (7, m)) := (show _ = _ by unfold Pd.sync; rw [if_pos ho])
    go_wp2
    go_ret
    rw [HE.out]
    exact ⟨rfl, c, H.out, Chg.refl _ _, fun _ _ => rfl, HN.out⟩
  | false =>
    rw [ho] at c3
    by_cases hk : k = 0
    · subst hk
      have hd : m.dirty = [] := by have := HK.out; rw [Nats_length] at this; exact List.eq_nil_of_length_eq_zero this
      have HE : Hid (Pd.sync m = (0, m)) := (show _ = _ by unfold Pd.sync; rw [if_neg (by rw [ho]; simp), if_pos hd])
      clear hd
      go_wp2
      go_ret
      rw [HE.out]
      exact ⟨rfl, c, H.out, Chg.refl _ _, fun _ _ => rfl, HN.out⟩
    · have HD : Hid (m.dirty ≠ []) := (show _ ≠ _ from fun e => hk (by have := HK.out; rw [e] at this; exact this.symm))
      cases hst : Pd.strike m with
      | mk b e =>
        have HST : Hid (Pd.strike m = (b, e)) := hst
        have HC : Hid _ := rstrikes_any H.out HN.out ho
        rw [hst] at HC
        clear hst
        cases b with
        | true =>
          have HE : Hid (Pd.sync m = (7, e)) := (show _ = _ by unfold Pd.sync; rw [if_neg (by rw [ho]; simp), if_neg HD.out, HST.out])
          go_wp2_with (first
            | (go_at_call 43; refine Calls.mono HC.out ?_; rintro e w2 ⟨rfl, hw2⟩; have HW2 : Hid _ := hw2; clear hw2)
            | fail)
          go_ret
          rw [HE.out]
          exact ⟨rfl, HW2.out⟩
        | false =>
          have HE : Hid (Pd.sync m = (0, { e with safe := e.now, dirty := [] })) := (show _ = _ by unfold Pd.sync; rw [if_neg (by rw [ho]; simp), if_neg HD.out, HST.out])
          go_upto_region 7 with (first
            | (go_at_call 43; refine Calls.mono HC.out ?_; rintro e' w2 ⟨rfl, c2', hI2, hs2⟩; have HI2 : Hid (IsR w2 c2' i R n e) := hI2; have HS2 : Hid (Step c i w c2' w2) := hs2; clear hI2 hs2)
            | fail)
          obtain ⟨xn, xs, xd, xk, hA, hO, hn', g1, g2, g3, g4, g5, -⟩ := HI2.out
          have A1 : Hid (RAt w2 R xn xs xd xk e) := hA
          have HO2 : Hid (Pd.Ok n e) := hO
          obtain ⟨L, HL⟩ : ∃ L, Hid (32 * n = L) := ⟨_, rfl⟩
          have hLl : L ≤ 131072 := by have := HL.out; have := hn'.2.2; omega
          have hsl : e.now.length = L := hO.now.trans HL.out
          obtain ⟨gn, cpn, hxn, hcn⟩ := Own.some hA.now (by have := HL.out; have := hn'.2.1; omega)
          rw [hsl] at hxn hcn
          have c0 := (hA.blk.alloc (.cells #[] 5 (0, 0))).cell (j := 0) rfl
          rw [hxn] at c0
          have HRS : Hid (Rd (w2.alloc (.cells #[] 5 (0, 0))) (.slice (some ⟨gn, 0, none⟩) L cpn) e.now) := (show Rd _ _ _ by
            have r0 : Rd w2 xn e.now := hA.now.rd
            rw [hxn] at r0
            exact r0.kept ((Below.refl _ _).alloc (Nat.le_refl _) _))
          obtain ⟨i0, hi0, hz0, hz1, hz2⟩ := info_parts Try.info5
          clear hxn hA hO c2 c3
          obtain ⟨S, HSe⟩ : ∃ S, Hid (e.now = S) := ⟨_, rfl⟩
          rw [HSe.out] at hsl HRS
          go_upto_region 8 with (first
            | (at_builtin; refine wpList_append_bytes _ rfl _ _ 29 29 rfl w2.heap.size i0 Try.underlying29 hi0 hz0 hz1 hz2 _ [] rfl (own_none w2 _ (Nat.le_refl _)) _ S rfl (HRS.out.src 29 Try.underlying29) (by simp; omega) (by simp) ?_; intro v1 w3 ho1 hb1; have HO1 : Hid (Own w3 w2.heap.size v1 ([] ++ S)) := ho1; have HB3 : Hid (Below w2.heap.size w2 w3) := (show Below _ _ _ from ((Below.refl _ _).alloc (Nat.le_refl _) _).trans hb1); have hB3 := A1.out.blk.kept HB3.out; have d1 := hB3.cell (j := 1) rfl; have z1 := hB3.frozen 1; clear ho1 hb1 hB3; obtain ⟨a1, cp1, hv1⟩ := form_len HO1.out hsl; subst hv1)
            | fail)
          obtain ⟨w4, hw4⟩ : ∃ x, x = w3.setCell ⟨R, 1, none⟩ (.slice a1 L cp1) := ⟨_, rfl⟩
          rw [← hw4]
          have HB4 : Hid (Blk w4 R 60 (RC xn (.slice a1 L cp1) xd e.off (e.armed : Int) xk e.torn)) := (show Blk _ _ _ _ by
            have := (A1.out.blk.kept HB3.out).set 1 (.slice a1 L cp1)
            rw [hw4]
            exact this)
          have C4 : Hid (Chg (fun b => b = R) w2 w4) := (show Chg _ _ _ by rw [hw4]; exact (Chg.of_below HB3.out).trans (Chg.setCell (F := fun b => b = R) _ rfl 1 _))
          have O4 : Hid (Own w4 0 (.slice a1 L cp1) S) := (show Own _ _ _ _ by
            have h1 : Own w3 0 (.slice a1 L cp1) S := Own.mono HO1.out (Nat.zero_le _)
            rw [hw4]
            exact ownB_chg h1 (Chg.setCell (F := fun b => b = R) _ rfl 1 _) (fun b hb e => by
              have h2 := (World.ownsRow.lt HO1.out b hb).1
              have h3 := A1.out.blk.lt
              omega))
          have HNB : Hid (∀ b, (Value.slice a1 L cp1).ownBlock = some b → w2.heap.size ≤ b) := fun b hb => (World.ownsRow.lt HO1.out b hb).1
          have e2 := HB4.out.cell (j := 2) rfl
          have y2 := HB4.out.frozen 2
          clear hw4 d1 z1 c0 HO1
          go_wp2
          go_ret
          obtain ⟨w5, hw5⟩ : ∃ x, x = w4.setCell ⟨R, 2, none⟩ (.slice none 0 0) := ⟨_, rfl⟩
          rw [← hw5]
          have C5 : Chg (fun b => b = R) w4 w5 := by rw [hw5]; exact Chg.setCell (F := fun b => b = R) w4 rfl 2 _
          have B5 : Blk w5 R 60 (RC xn (.slice a1 L cp1) (.slice none 0 0) e.off (e.armed : Int) xk e.torn) := by
            have := HB4.out.set 2 (.slice none 0 0)
            rw [← hw5] at this
            exact this
          have C25 : Chg (fun b => b = R) w2 w5 := C4.out.trans C5
          obtain ⟨n1, n2, n3, n4⟩ := A1.out.nR
          have hok := H.out
          obtain ⟨_, _, _, _, _, hOm, _⟩ := hok
          have hO' : Pd.Ok n (Pd.sync m).2 := hOm.sync
          rw [HE.out] at hO' ⊢
          obtain ⟨k1, k2⟩ := IsR.of_at (c := c2') (i := i) (C25.mono (fun b _ e => by rw [e]; exact g1)) (m := { e with safe := e.now, dirty := [] })
            ⟨B5, ownB_chg A1.out.now C25 n1, by rw [HSe.out]; exact ownB_chg O4.out C5 (fun b hb e => by have h2 := HNB.out b hb; have h3 := A1.out.blk.lt; omega), OwnN_nil _, A1.out.keep.chg C25 n4, A1.out.kw, fun b hb hb' => by have h2 := HNB.out b hb'; have h3 := ownB_lt A1.out.now hb; omega, fun b hb => (by cases hb), A1.out.am⟩
            hO' ⟨fun _ => rfl, hn'.2⟩ (fun _ => g1) (fun b hb _ => g2 b hb) (fun b hb hlt => absurd (HNB.out b hb) (by omega)) (fun b hb => by cases hb) (fun b hb _ => g5 b hb) h6
          exact ⟨rfl, _, k1, HS2.out.then k2⟩
end Go.Proofs.Ytnkcjhfdmnpckaa
