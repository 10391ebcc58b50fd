/-
  The store's Versions: what the call does.
-/
import Derived.Test.YtgaoionnfkbhaaaRfK
import Derived.Maps.RangeWalk
namespace Go.Proofs.Ytgaoionnfkbhaaa
open Go.RowKit
theorem kS_same (a b : ByteArray) : (kS a).sameKey (kS b) = decide (a = b) := by
  rw [Bool.eq_iff_iff, WideAt.sameKey_iff (kS_key b), decide_eq_true_eq]
  exact ⟨fun h => Classical.byContradiction fun hn => kS_ne hn h, fun h => by rw [h]⟩
theorem key9_inv {key : Value} {kl : Lit} (h : keyOf Try.prog 9 key = some kl) : ∃ k : ByteArray, key = .string k ∧ kl = kS k := by
  have hk := Try.underlying9
  cases key <;> simp [keyOf, hk, mapKey] at h
  obtain ⟨h1, h2⟩ := h
  exact ⟨_, rfl, h2.symm⟩
theorem chE_slice {v : Value} {y : DataW Unit × List MemPlace} (h : chE v = some y) : ∃ c : Option Addr × Nat × Nat, v = .slice c.1 c.2.1 c.2.2 := by
  obtain ⟨hr, -⟩ := chE_inv h
  rcases hr with rfl | ⟨g, n, cap, rfl⟩
  · exact ⟨(none, 0, 0), rfl⟩
  · exact ⟨(some ⟨g, 0, none⟩, n, cap), rfl⟩
/-- The versions of those keys that are still to come. -/
def leftV (s : SP) (ks : List ByteArray) (left : Lit → Bool) : Nat := versS s (ks.filter fun k => left (kS k))
theorem leftV_all {s : SP} {ks : List ByteArray} {left : Lit → Bool} (h : ∀ k ∈ ks, left (kS k) = true) : leftV s ks left = versS s ks := by
  unfold leftV
  rw [List.filter_eq_self.2 h]
theorem leftV_none {s : SP} {ks : List ByteArray} {left : Lit → Bool} (h : ∀ kl, left kl = false) : leftV s ks left = 0 := by
  unfold leftV
  rw [List.filter_eq_nil_iff.2 (fun k _ => by simp [h])]
  rfl
theorem versS_cons (s : SP) (x : ByteArray) (l : List ByteArray) : versS s (x :: l) = (s.ch x).length + versS s l := by simp [versS]
theorem sum_step {s : SP} : ∀ {ks : List ByteArray} {p : ByteArray → Bool} {k : ByteArray}, ks.Nodup → k ∈ ks → p k = true → versS s (ks.filter p) = (s.ch k).length + versS s (ks.filter fun x => p x && !decide (x = k))
  | [], _, _, _, h, _ => by cases h
  | x :: ks, p, k, hn, hm, hl => by
    obtain ⟨h1, h2⟩ := List.nodup_cons.1 hn
    by_cases hx : x = k
    · subst hx
      have e : ks.filter (fun y => p y && !decide (y = x)) = ks.filter p := by
        refine List.filter_congr fun y hy => ?_
        have : y ≠ x := fun e => h1 (by rw [← e]; exact hy)
        simp [this]
      have e1 : (x :: ks).filter p = x :: ks.filter p := List.filter_cons_of_pos hl
      have e2 : (x :: ks).filter (fun y => p y && !decide (y = x)) = ks.filter (fun y => p y && !decide (y = x)) := List.filter_cons_of_neg (by simp)
      rw [e1, e2, e, versS_cons]
    · have hk : k ∈ ks := by
        rcases List.mem_cons.1 hm with h | h
        · exact absurd h.symm hx
        · exact h
      have ih := sum_step (s := s) (p := p) h2 hk hl
      cases hq : p x with
      | true =>
        have e1 : (x :: ks).filter p = x :: ks.filter p := List.filter_cons_of_pos hq
        have e2 : (x :: ks).filter (fun y => p y && !decide (y = k)) = x :: ks.filter (fun y => p y && !decide (y = k)) := List.filter_cons_of_pos (by simp [hq, hx])
        rw [e1, e2, versS_cons, versS_cons, ih]
        omega
      | false =>
        have e1 : (x :: ks).filter p = ks.filter p := List.filter_cons_of_neg (by simp [hq])
        have e2 : (x :: ks).filter (fun y => p y && !decide (y = k)) = ks.filter (fun y => p y && !decide (y = k)) := List.filter_cons_of_neg (by simp [hq])
        rw [e1, e2]
        exact ih
theorem leftV_step {s : SP} {ks : List ByteArray} {left : Lit → Bool} {k : ByteArray} (hn : ks.Nodup) (hk : k ∈ ks) (hl : left (kS k) = true) : leftV s ks left = (s.ch k).length + leftV s ks (fun z => left z && !z.sameKey (kS k)) := by
  unfold leftV
  rw [sum_step (p := fun x => left (kS x)) hn hk hl]
  congr 3
  funext x
  show _ = (left (kS x) && !(kS x).sameKey (kS k))
  rw [kS_same]
set_option maxRecDepth 100000 in
set_option maxHeartbeats 4000000 in
theorem versions_any {w : World} {D M : Nat} {vk : Value} {ks : List ByteArray} {s : SP} (h : StAt w D M vk ks s) (hb : versS s ks ≤ 1000000000) : Calls Try.prog 15 #[.pointer (some ⟨D, 0, none⟩)] w fun e w' => e = .returned (.int .i64 (versS s ks : Int)) ∧ Below w.heap.size w w' := by
  have HS := hide h
  have CM := hide (sMade_any h.d)
  have c0 : w.cell? ⟨D, 0, none⟩ = some (.map (some M)) := h.d.cell (j := 0) rfl
  obtain ⟨f, hmf, hmv, hmn⟩ := h.mp
  obtain ⟨DD, hown, hsz, hrow, hhas, hat⟩ := hmf
  have HMV := hide hmv
  have HHAS := hide hhas
  have HAT := hide hat
  have HROW := hide hrow
  have HOWN := hide hown
  have HMN := hide hmn
  clear hmv hhas hat hrow hown hmn h
  obtain ⟨V, HV⟩ : ∃ V, Hid (versS s ks = V) := ⟨_, rfl⟩
  rw [HV.out] at hb ⊢
  go_enter Try.func15, Try.ntmps15
  go_wp2_with fail
  refine CM.out.mono ?_
  rintro e w_ ⟨rfl, hw⟩
  subst w_
  obtain ⟨r, HRr⟩ : ∃ r, Hid (w.heap.size = r) := ⟨_, rfl⟩
  go_wp2_with (first
    | (at_range; refine wpList_range_own _ rfl _ 53 rfl 9 66 keyed9 Try.underlying53 _ M _ _ rfl HOWN.out ?_; intro w0 hrg0 hg0 hs0; have RG0 := hide hrg0; have G0 : Hid (Below w.heap.size w w0) := (Below.refl _ w).grown hg0 (Nat.le_refl _) (fun k hk => by cases hk); clear hrg0 hg0 hs0)
    | fail)
  go_frame
  go_loopw [3] (fun x wr => ∃ (left : Lit → Bool) (cnt t : Nat), x = .int .i64 (t : Int) ∧ Hid (wr.ranges Try.prog 9 chE M w.heap.size ks.length DD left cnt) ∧ Hid (t + leftV s ks left = V) ∧ Hid (Below w.heap.size w wr))
    (fun _ wr => wr.rangeLeft M w.heap.size)
  case atStart => exact ⟨Maps.has DD, Maps.size DD, 0, rfl, RG0, (show _ = _ by rw [leftV_all (fun k hk => by
      rw [HHAS.out k]
      cases hf : f k with
      | none => exact absurd (HMN.out k hf) ((HS.out.inv.mem k).1 hk)
      | some v => rfl), HV.out, Nat.zero_add]), G0⟩
  case round =>
    obtain ⟨left, cnt, t, rfl, RG, HT, LR⟩ := hrel
    go_wp2_with (first
      | (at_next; refine wpList_next_ranges _ rfl _ rfl 9 keyed9 chE Value.string (fun c : Option Addr × Nat × Nat => .slice c.1 c.2.1 c.2.2) (fun key kl hk => by obtain ⟨k, h1, -⟩ := key9_inv hk; exact ⟨k, h1⟩) (fun v y hv => chE_slice hv) M w.heap.size ks.length DD left cnt rfl RG.out ?_ ?_)
      | fail)
    · intro _ hl0
      have HV0 : Hid (t = V) := (show t = V by have := HT.out; rw [leftV_none hl0] at this; omega)
      clear hl0
      go_wp2_with fail
      go_ret
      exact ⟨by rw [← HV0.out]; rfl, LR.out⟩
    · intro k c1 c2 c3 kl y1 y2 w1 cnt1 hkey hlk hv hat1 hrg1 hlt hg1 hs1 hen
      have HX : Hid (t + c2 + leftV s ks (fun z => left z && !z.sameKey kl) = V) := (show _ = _ by
        obtain ⟨k', e1, rfl⟩ := key9_inv hkey
        cases e1
        have hh := Maps.has_true_of_atKey hat1
        rw [HHAS.out k] at hh
        cases hf : f k with
        | none => rw [hf] at hh; cases hh
        | some v0 =>
          obtain ⟨hr1, hy⟩ := chE_inv hv
          have h1 := HAT.out k v0 hf
          simp only [Prod.mk.injEq] at hy
          rw [hat1 .nil, hy.1] at h1
          have e2 := encC_inj hr1 (HROW.out k v0 hf) h1
          obtain ⟨hne, ho⟩ := HMV.out k v0 hf
          rw [← e2] at ho
          have hlen := ho.rd.len
          have := leftV_step (s := s) (srt_nodup HS.out.inv.srt) ((HS.out.inv.mem k).2 hne) hlk
          have hT := HT.out
          omega)
      have RG1 := hide hrg1
      have L1 : Hid (Below w.heap.size w w1) := LR.out.grown hg1 LR.out.size (fun k hk => by cases hk; exact Nat.le_refl _)
      have hq : IntKind.i64.wrap ((t : Int) + (c2 : Int)) = ((t + c2 : Nat) : Int) := by have := HX.out; rw [wr64 (by omega) (by omega)]; omega
      clear hkey hlk hv hat1 hg1 hs1
      go_wp2_with fail
      go_roundw
      case rel => exact ⟨_, cnt1, t + c2, rfl, RG1, HX, L1⟩
      case measure => rw [RG1.out.left_eq, RG.out.left_eq]; exact hlt
#print axioms versions_any
end Go.Proofs.Ytgaoionnfkbhaaa
