/-
  The reference's disk: Start.
-/
import Derived.Test.YtnkcjhfdmnpckaaRefD
namespace Go.Proofs.Ytnkcjhfdmnpckaa
open Go.RowKit
open Pd (DM)
set_option maxHeartbeats 2000000 in
set_option maxRecDepth 100000 in
theorem rStart_any {w : World} {c : Nat → Nat} {i R n : Nat} {m : DM} (h : IsR w c i R n m) (hN : Norm c w) : Calls Try.prog 31 #[.pointer (some ⟨R, 0, none⟩)] w fun e w' => e = .returned (.bool (Pd.start m).1) ∧ IsR w' c i R n (Pd.start m).2 ∧ Step c i w c w' := by
  have H : Hid (IsR w c i R n m) := h
  obtain ⟨vn, vs, vd, vk, hA, hO, hn, h1, h2, h3, h4, h5, h6⟩ := h
  have HA : Hid (RAt w R vn vs vd vk m) := hA
  have c3 := hA.blk.cell (j := 3) rfl
  have c2 := hA.blk.cell (j := 2) rfl
  have z2 := hA.blk.frozen 2
  have z3 := hA.blk.frozen 3
  clear hA
  go_enter Try.func31, Try.ntmps31
  cases ho : m.off with
  | false =>
    rw [ho] at c3
    have HE : Hid (Pd.start m = (false, m)) := (show _ = _ by unfold Pd.start; rw [if_neg (by rw [ho]; simp)])
    go_wp2
    go_ret
    rw [HE.out]
    exact ⟨rfl, H.out, Chg.refl _ _, fun _ _ => rfl, hN⟩
  | true =>
    rw [ho] at c3
    have HE : Hid (Pd.start m = (true, { m with off := false, dirty := [] })) := (show _ = _ by unfold Pd.start; rw [if_pos ho])
    go_wp2
    go_ret
    rw [HE.out]
    obtain ⟨w1, hw1⟩ : ∃ x, x = (w.setCell ⟨R, 3, none⟩ (.bool false)).setCell ⟨R, 2, none⟩ (.slice none 0 0) := ⟨_, rfl⟩
    have hU : Chg (fun k => k = R) w w1 := by rw [hw1]; exact (Chg.setCell (F := fun k => k = R) w rfl 3 _).trans (Chg.setCell (F := fun k => k = R) _ rfl 2 _)
    have hB : Blk w1 R 60 (RC vn vs (.slice none 0 0) false (m.armed : Int) vk m.torn) := by
      have := (HA.out.blk.set 3 (.bool false)).set 2 (.slice none 0 0)
      rw [← hw1] at this
      exact this
    obtain ⟨n1, n2, n3, n4⟩ := HA.out.nR
    have hR : RAt w1 R vn vs (.slice none 0 0) vk { m with off := false, dirty := [] } := ⟨hB, ownB_chg HA.out.now hU n1, ownB_chg HA.out.safe hU n2, OwnN_nil w1, HA.out.keep.chg hU n4, HA.out.kw, HA.out.ns, fun b hb => (by cases hb), HA.out.am⟩
    have hE1 : (Pd.start m).2 = { m with off := false, dirty := [] } := by rw [HE.out]
    rw [← hw1]
    refine ⟨rfl, ⟨vn, vs, .slice none 0 0, vk, hR, ?_, ⟨?_, hn.2⟩, h1, h2, h3, fun b hb => (by cases hb), h5, h6⟩, hU.mono (fun k _ e => by rw [e]; exact h1), fun _ _ => rfl, hN.kept hU.size⟩
    · rw [← hE1]; exact hO.start hn.1
    · exact fun _ => rfl
end Go.Proofs.Ytnkcjhfdmnpckaa
