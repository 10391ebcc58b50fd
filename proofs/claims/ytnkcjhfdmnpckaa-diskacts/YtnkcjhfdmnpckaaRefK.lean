/-
  The reference's disk: Crash by its colour; strikes.
-/
import Derived.Test.YtnkcjhfdmnpckaaRefC
namespace Go.Proofs.Ytnkcjhfdmnpckaa
open Go.RowKit
open Pd (DM spl)
theorem Step.then {c c1 c2 : Nat → Nat} {i : Nat} {w w1 w2 : World} (h : Step c i w c1 w1) (k : Step c1 i w1 c2 w2) : Step c i w c2 w2 :=
  ⟨h.chg.then k.chg (fun b hb e => by rw [h.ext b hb] at e; exact e), fun b hb => (k.ext b (Nat.lt_of_lt_of_le hb h.size)).trans (h.ext b hb), k.norm⟩
set_option maxHeartbeats 2000000 in
set_option maxRecDepth 100000 in
theorem rcrash_off {w : World} {R : Nat} {m : DM} {vn vs vd vk : Value} (hA : RAt w R vn vs vd vk m) (ho : m.off = true) (v : Value) (t : Int) :
    Calls Try.prog 30 #[.pointer (some ⟨R, 0, none⟩), v, .int .i64 t] w fun e w' => e = .returned (.bool false) ∧ w' = w := by
  have c3 := hA.blk.cell (j := 3) rfl
  rw [ho] at c3
  clear hA
  go_enter Try.func30, Try.ntmps30
  go_wp2
  go_ret
  exact ⟨rfl, rfl⟩
theorem Ok.armed {n : Nat} {m : DM} (h : Pd.Ok n m) (a : Nat) : Pd.Ok n { m with armed := a } := ⟨h.now, h.safe, h.nodup, h.low, h.alike⟩
/-- A disk that loses its power, by what it may write. -/
theorem rcrash_col {w w0 : World} {c : Nat → Nat} {i R n : Nat} {m : DM} {vn vs vd vk : Value} (hA : RAt w R vn vs vd vk m) (hO : Pd.Ok n m) (hn : 0 < n ∧ n ≤ 4096) (ho : m.off = false) (v : Value) (l : List Int) (t : Int) (hr : RdN w v l) (hv : ∀ b, InB v b → vs.ownBlock ≠ some b)
    (hs : Chg (fun k => c k = i) w0 w) (h1 : R < w0.heap.size → c R = i) (h3 : ∀ b, vs.ownBlock = some b → b < w0.heap.size → c b = i) (h5 : ∀ b, vk.ownBlock = some b → b < w0.heap.size → c b = i) (hi : i ≠ 0) :
    Calls Try.prog 30 #[.pointer (some ⟨R, 0, none⟩), v, .int .i64 t] w fun e w' => e = .returned (.bool true) ∧ ∃ c', IsR w' c' i R n (Pd.crash m l t) ∧ Step c i w0 c' w' := by
  refine (rcrash_at hA hO hn ho v l t hr hv).mono ?_
  rintro e w' ⟨rfl, vn', hA', hnew, hc⟩
  have hC : Chg (fun k => c k = i) w0 w' := hs.then hc (fun b hb e => by
    rcases e with e | e
    · rw [e]; rw [e] at hb; exact h1 hb
    · exact h3 b e hb)
  exact ⟨rfl, _, IsR.of_at hC hA' (hO.crash l t) ⟨fun _ => rfl, hn⟩ h1 (fun b hb hlt => absurd (Nat.lt_of_lt_of_le hlt hs.size) (by have := hnew b hb; omega)) h3 (fun b hb => by cases hb) h5 hi⟩
theorem rCrash_any {w : World} {c : Nat → Nat} {i R n : Nat} {m : DM} (h : IsR w c i R n m) (hN : Norm c w) (v : Value) (l : List Int) (t : Int) (hr : RdN w v l) (hv : Cool c v) :
    Calls Try.prog 30 #[.pointer (some ⟨R, 0, none⟩), v, .int .i64 t] w fun e w' => e = .returned (.bool (Pd.crashed m l t).1) ∧ ∃ c', IsR w' c' i R n (Pd.crashed m l t).2 ∧ Step c i w c' w' := by
  have hI := h
  obtain ⟨vn, vs, vd, vk, hA, hO, hn, h1, h2, h3, h4, h5, h6⟩ := h
  cases ho : m.off with
  | true =>
    have e1 : Pd.crashed m l t = (false, m) := by unfold Pd.crashed; rw [if_pos ho]
    rw [e1]
    refine (rcrash_off hA ho v t).mono ?_
    rintro e w' ⟨rfl, hw⟩
    subst hw
    exact ⟨rfl, c, hI, Chg.refl _ _, fun _ _ => rfl, hN⟩
  | false =>
    have e1 : Pd.crashed m l t = (true, Pd.crash m l t) := by unfold Pd.crashed; rw [if_neg (by rw [ho]; simp)]
    rw [e1]
    exact rcrash_col hA hO hn.2 ho v l t hr (fun b hb e => h6 ((h3 b e).symm.trans (hv b hb))) (Chg.refl _ _) (fun _ => h1) (fun b hb _ => h3 b hb) (fun b hb _ => h5 b hb) h6
set_option maxHeartbeats 2000000 in
set_option maxRecDepth 100000 in
theorem rstrikes_any {w : World} {c : Nat → Nat} {i R n : Nat} {m : DM} (h : IsR w c i R n m) (hN : Norm c w) (ho : m.off = false) :
    Calls Try.prog 43 #[.pointer (some ⟨R, 0, none⟩)] w fun e w' => e = .returned (.bool (Pd.strike m).1) ∧ ∃ c', IsR w' c' i R n (Pd.strike m).2 ∧ Step c i w c' w' := by
  have H : Hid (IsR w c i R n m) := h
  have HN : Hid (Norm c w) := hN
  obtain ⟨vn, vs, vd, vk, hA, hO, hn, h1, h2, h3, h4, h5, h6⟩ := h
  have HA : Hid (RAt w R vn vs vd vk m) := hA
  have HO : Hid (Pd.Ok n m) := hO
  have c4 := hA.blk.cell (j := 4) rfl
  have z4 := hA.blk.frozen 4
  have ham := hA.am
  clear hA hO
  obtain ⟨a, HAa⟩ : ∃ a, Hid (m.armed = a) := ⟨_, rfl⟩
  rw [HAa.out] at c4 ham
  go_enter Try.func43, Try.ntmps43
  by_cases h0 : a = 0
  · subst h0
    have HE : Hid (Pd.strike m = (false, m)) := (show _ = _ by unfold Pd.strike; rw [if_pos HAa.out])
    go_wp2
    go_ret
    rw [HE.out]
    exact ⟨rfl, c, H.out, Chg.refl _ _, fun _ _ => rfl, HN.out⟩
  · have q1 : decide ((a : Int) < 1) = false := by simp; omega
    obtain ⟨b, HB⟩ : ∃ b, Hid (a = b + 1) := ⟨a - 1, (show _ = _ by omega)⟩
    have w1 : IntKind.i64.wrap ((a : Int) - 1) = (b : Int) := (wr64 (by omega) (by omega)).trans (by have := HB.out; omega)
    obtain ⟨W, hW⟩ : ∃ x, x = w.setCell ⟨R, 4, none⟩ (.int .i64 (b : Int)) := ⟨_, rfl⟩
    have HU : Hid (Chg (fun k => k = R) w W) := (show Chg _ _ _ by rw [hW]; exact Chg.setCell (F := fun k => k = R) w rfl 4 _)
    have HR : Hid (RAt W R vn vs vd vk { m with armed := b }) := (show RAt _ _ _ _ _ _ _ by
      have hB : Blk W R 60 (RC vn vs vd m.off (b : Int) vk m.torn) := by
        have := HA.out.blk.set 4 (.int .i64 (b : Int))
        rw [← hW] at this
        exact this
      obtain ⟨n1, n2, n3, n4⟩ := HA.out.nR
      exact ⟨hB, ownB_chg HA.out.now HU.out n1, ownB_chg HA.out.safe HU.out n2, HA.out.dirty.chg HU.out n3, HA.out.keep.chg HU.out n4, HA.out.kw, HA.out.ns, HA.out.dk, by have := HB.out; show b ≤ _; omega⟩)
    go_upto_region 4 with fail
    rw [← hW]
    have d4 := HR.out.blk.cell (j := 4) rfl
    have d5 := HR.out.blk.cell (j := 5) rfl
    have d6 := HR.out.blk.cell (j := 6) rfl
    obtain ⟨ak, ck, hvk, -⟩ := HR.out.keep.rd
    subst hvk
    clear hW c4 z4 w1
    by_cases hb : b = 0
    · subst hb
      have HE : Hid (Pd.strike m = (true, Pd.crash m m.keep m.torn)) := (show _ = _ by
        have h8 := HAa.out
        have h9 := HB.out
        unfold Pd.strike
        rw [if_neg (by omega), if_pos (by omega)])
      have HRd : RAt W.drew R vn vs vd (.slice ak m.keep.length ck) { m with armed := 0 } := HR.out.chg (F := fun _ => False) (Chg.drew _ W) id (fun _ _ => id) (fun _ _ => id) (fun _ _ => id) (fun _ _ => id)
      have HC : Hid _ := rcrash_col (w0 := w) (c := c) (i := i) HRd (Ok.armed HO.out 0) hn.2 ho _ m.keep m.torn HRd.keep.rd (fun x hx e => ?_) ((HU.out.mono (fun k _ e => by rw [e]; exact h1)).trans (Chg.drew _ W)) (fun _ => h1) (fun x hx _ => h3 x hx) (fun x hx _ => h5 x hx) h6
      · clear HRd
        go_upto_region 6 with fail
        go_region_with (go_at_call 30; refine Calls.mono HC.out ?_; rintro e w2 ⟨rfl, hw2⟩; have HW2 : Hid (∃ c', IsR w2 c' i R n (Pd.crash m m.keep m.torn) ∧ Step c i w c' w2) := hw2; clear hw2)
        all_goals
          go_wp2
          go_ret
          rw [HE.out]
          exact ⟨rfl, HW2.out⟩
      · obtain ⟨off, k', cp', e', hk'⟩ := hx
        cases e'
        obtain ⟨cur, hh⟩ := HR.out.keep.block (b := x) rfl
        obtain ⟨_, h2'⟩ := HR.out.safe
        rcases h2' with ⟨rfl, _⟩ | ⟨g, cap, cur', rfl, hg, hh', r⟩
        · cases e
        · cases e
          rw [hh'] at hh
          simp at hh
    · have HE : Hid (Pd.strike m = (false, { m with armed := b })) := (show _ = _ by
        have h8 := HAa.out
        have h9 := HB.out
        unfold Pd.strike
        rw [if_neg (by omega), if_neg (by omega), show m.armed - 1 = b by omega])
      have q3 : decide (0 < (b : Int)) = true := by simp; omega
      go_wp2
      go_ret
      rw [HE.out]
      exact ⟨rfl, _, IsR.of_at (HU.out.mono (fun k _ e => by rw [e]; exact h1)) HR.out (Ok.armed HO.out b) hn (fun _ => h1) (fun x hx _ => h2 x hx) (fun x hx _ => h3 x hx) (fun x hx _ => h4 x hx) (fun x hx _ => h5 x hx) h6⟩
end Go.Proofs.Ytnkcjhfdmnpckaa
