/-
  The reference's disk: Read.
-/
import Derived.Test.YtnkcjhfdmnpckaaRefS
namespace Go.Proofs.Ytnkcjhfdmnpckaa
open Go.RowKit
open Pd (DM)
theorem wr64 {x : Int} (h0 : -9223372036854775808 ≤ x) (h1 : x ≤ 9223372036854775807) : IntKind.i64.wrap x = x := by
  rw [IntKind.wrap_i64]
  omega
/-- A part of a row. -/
theorem slice_part (g n cap lo hi : Nat) (h1 : lo ≤ hi) (h2 : hi ≤ n) (hc : n ≤ cap) :
    ∃ off, (∀ W, (Instr.sliceAt 29 (.slice (some ⟨g, 0, none⟩) n cap) (some (.int .i64 (lo : Int))) (some (.int .i64 (hi : Int))) none).run Try.prog W = .ok (.slice (some ⟨g, off, none⟩) (hi - lo) (cap - lo)) W) ∧
      (∀ w l, Rd w (.slice (some ⟨g, 0, none⟩) n cap) l → Rd w (.slice (some ⟨g, off, none⟩) (hi - lo) (cap - lo)) ((l.drop lo).take (hi - lo))) := by
  refine ⟨if lo < cap then lo else 0, fun W => ?_, fun w l hr => ?_⟩
  · by_cases hlt : lo < cap
    · rw [if_pos hlt]
      exact slice_mid g n cap lo hi h1 (by omega) hlt W
    · obtain rfl : lo = hi := by omega
      obtain rfl : lo = n := by omega
      obtain rfl : lo = cap := by omega
      have hsz := Try.size5
      cases hq : Try.prog.info? 5 with
      | none => simp [hq] at hsz
      | some i =>
        have hi1 : i.size = 1 := by simpa [hq] using hsz
        simp [Instr.sliceAt, Instr.slice, run_underlying Try.underlying29, Instr.sliceBounds, run_sliceBound, sizeOf, typeInfo, hq]
  · have := rd_len hr
    have d1 := hr.drop lo (by omega) (if lo < cap then lo else 0) (by split; exact .inl (by omega); exact .inr (by omega))
    exact d1.take (hi - lo) (by omega)
set_option maxHeartbeats 2000000 in
set_option maxRecDepth 100000 in
theorem rRead_any {w : World} {c : Nat → Nat} {i R n : Nat} {m : DM} (h : IsR w c i R n m) (p k : Int) (hpw : (Lit.int .i64 p).wf = true) (hkw : (Lit.int .i64 k).wf = true) : Calls Try.prog 27 #[.pointer (some ⟨R, 0, none⟩), .int .i64 p, .int .i64 k] w fun e w' => ∃ v, e = .returned (.tuple #[v, .int .i64 ((Pd.read m p k).2 : Int)]) ∧ Rd w' v (Pd.read m p k).1 ∧ Below w.heap.size w w' := by
  obtain ⟨vn, vs, vd, vk, hA, hO, hn, -⟩ := h
  have HA : Hid (RAt w R vn vs vd vk m) := hA
  have hnow := hO.now
  obtain ⟨g, cap, hvn, hcap⟩ := Own.some hA.now (by omega)
  have c3 := hA.blk.cell (j := 3) rfl
  have c0 := hA.blk.cell (j := 0) rfl
  have bp := bounds_i64 hpw
  have bk := bounds_i64 hkw
  clear hA
  subst hvn
  obtain ⟨L, HL⟩ : ∃ L, Hid (m.now.length = L) := ⟨_, rfl⟩
  rw [HL.out] at c0 hnow hcap HA
  have HLn : Hid (L = 32 * n ∧ n ≤ 4096) := (show _ from ⟨hnow, hn.2.2⟩)
  have hL : L ≤ 131072 := by omega
  clear hn hO hnow
  go_enter Try.func27, Try.ntmps27
  cases ho : m.off with
  | true =>
    rw [ho] at c3
    have HE : Hid (Pd.read m p k = ([], 7)) := (show _ = _ by unfold Pd.read; rw [ho]; rfl)
    go_wp2
    go_ret2
    rw [HE.out]
    exact ⟨_, rfl, Rd_nil _, Below.refl _ _⟩
  | false =>
    rw [ho] at c3
    by_cases h1 : p < 0 ∨ k < 0 ∨ (L : Int) < p ∨ (L : Int) - p < k
    · have HE : Hid (Pd.read m p k = ([], 2)) := (show _ = _ by unfold Pd.read; rw [ho, if_neg (by simp), HL.out, if_pos h1])
      by_cases q1 : p < 0
      · have q1' : decide (p < 0) = true := by simpa using q1
        go_wp2
        go_ret2
        rw [HE.out]
        exact ⟨_, rfl, Rd_nil _, Below.refl _ _⟩
      have q1' : decide (p < 0) = false := by simpa using q1
      by_cases q2 : k < 0
      · have q2' : decide (k < 0) = true := by simpa using q2
        go_wp2
        go_ret2
        rw [HE.out]
        exact ⟨_, rfl, Rd_nil _, Below.refl _ _⟩
      have q2' : decide (k < 0) = false := by simpa using q2
      by_cases q3 : (L : Int) < p
      · have q3' : decide ((L : Int) < p) = true := by simpa using q3
        go_wp2
        go_ret2
        rw [HE.out]
        exact ⟨_, rfl, Rd_nil _, Below.refl _ _⟩
      have q3' : decide ((L : Int) < p) = false := by simpa using q3
      have q4 : (L : Int) - p < k := by omega
      have w4 : IntKind.i64.wrap ((L : Int) - p) = (L : Int) - p := wr64 (by omega) (by omega)
      have q4' : decide ((L : Int) - p < k) = true := by simpa using q4
      clear h1
      go_wp2
      go_ret2
      rw [HE.out]
      exact ⟨_, rfl, Rd_nil _, Below.refl _ _⟩
    · have HE : Hid (Pd.read m p k = ((m.now.drop p.toNat).take k.toNat, 0)) := (show _ = _ by unfold Pd.read; rw [ho, if_neg (by simp), HL.out, if_neg h1])
      obtain ⟨p', rfl⟩ : ∃ p' : Nat, p = (p' : Int) := ⟨p.toNat, by omega⟩
      obtain ⟨k', rfl⟩ : ∃ k' : Nat, k = (k' : Int) := ⟨k.toNat, by omega⟩
      have hpk : p' + k' ≤ L := by omega
      have q1' : decide ((p' : Int) < 0) = false := by simp
      have q2' : decide ((k' : Int) < 0) = false := by simp
      have q3' : decide ((L : Int) < (p' : Int)) = false := by simp; omega
      have w4 : IntKind.i64.wrap ((L : Int) - (p' : Int)) = (L : Int) - (p' : Int) := wr64 (by omega) (by omega)
      have q4' : decide ((L : Int) - (p' : Int) < (k' : Int)) = false := by simp; omega
      obtain ⟨e', HE'⟩ : ∃ e', Hid (p' + k' = e') := ⟨_, rfl⟩
      have w5 : IntKind.i64.wrap ((p' : Int) + (k' : Int)) = (e' : Int) := (wr64 (by omega) (by omega)).trans (by have := HE'.out; omega)
      have c0' := (HA.out.blk.alloc (.cells #[] 5 (0, 0))).cell (j := 0) rfl
      have HRn : Hid (Rd w (.slice (some ⟨g, 0, none⟩) L cap) m.now) := HA.out.now.rd
      obtain ⟨off, hsl, hpart⟩ := slice_part g L cap p' e' (by have := HE'.out; omega) (by have := HE'.out; omega) hcap
      have HR : Hid (Rd (w.alloc (.cells #[] 5 (0, 0))) (.slice (some ⟨g, off, none⟩) (e' - p') (cap - p')) ((m.now.drop p').take (e' - p'))) := (hpart w _ HRn.out).kept ((Below.refl _ _).alloc (Nat.le_refl _) _)
      have HLM : Hid (((m.now.drop p').take (e' - p')).length ≤ 131072) := (show _ ≤ _ by have := HL.out; have := HE'.out; simp; omega)
      obtain ⟨X, HX⟩ : ∃ X, Hid ((m.now.drop p').take (e' - p') = X) := ⟨_, rfl⟩
      rw [HX.out] at HR HLM
      have hX := HLM.out
      obtain ⟨i0, hi0, hz0, hz1, hz2⟩ := info_parts Try.info5
      clear h1 hpart
      go_wp2_with (first
        | (at_builtin; refine wpList_append_bytes _ rfl _ _ 29 29 rfl w.heap.size i0 Try.underlying29 hi0 hz0 hz1 hz2 _ [] rfl (own_none w _ (Nat.le_refl _)) _ X rfl (HR.out.src 29 Try.underlying29) (by simp; omega) (by simp) ?_; intro v1 w1 ho1 hb1; have HO1 : Hid (Own w1 w.heap.size v1 ([] ++ X)) := ho1; have HB1 : Hid (Below w.heap.size (w.alloc (.cells #[] 5 (0, 0))) w1) := hb1; clear ho1 hb1)
        | fail)
      go_ret2
      rw [HE.out]
      refine ⟨v1, rfl, ?_, ((Below.refl _ _).alloc (Nat.le_refl _) _).trans HB1.out⟩
      have := Own.rd HO1.out
      rw [List.nil_append, ← HX.out, ← HE'.out] at this
      simpa using this
end Go.Proofs.Ytnkcjhfdmnpckaa
