/-
  Get: what the call does.
-/
import Derived.Test.YtgaoionnfkbhaaaStI
namespace Go.Proofs.Ytgaoionnfkbhaaa
open Go.RowKit
set_option maxRecDepth 100000 in
set_option maxHeartbeats 1000000 in
theorem sGet_any {w : World} {D M : Nat} {vk : Value} {ks : List ByteArray} {s : SP} (h : StAt w D M vk ks s) (hla : s.last ≤ 1000000) (k : ByteArray) (hk : k.size ≤ maxLen) (n : Int) :
    Calls Try.prog 27 #[.pointer (some ⟨D, 0, none⟩), .string k, .int .i64 n] w fun e w' => e = .returned (.tuple #[.string (getS s k n).1, .int .i64 (getS s k n).2]) ∧ Below w.heap.size w w' := by
  have HS := hide h
  obtain ⟨ch, la, fl⟩ := s
  simp only at hla
  have hz := Zver
  obtain ⟨vc, hvc, -, hlk⟩ := h.mp.look_all k hk
  have HVC := hide hvc
  have hlk' := hlk w (Below.refl _ _)
  simp only at HVC
  obtain ⟨r1, r2, HR⟩ : ∃ x y, Hid (getS ⟨ch, la, fl⟩ k n = (x, y)) := ⟨_, _, rfl⟩
  rw [HR.out]
  simp only
  obtain ⟨r, Hr⟩ : ∃ r, Hid (mayP ⟨ch, la, fl⟩ n = r) := ⟨_, rfl⟩
  have hlen : Hid ((ch k).length ≤ 4398046511104) := (show (ch k).length ≤ 4398046511104 by have h2 : ((ch k).length : Int) ≤ la := HS.out.inv.len k; omega)
  have c0 := h.d.cell (j := 0) rfl
  have L0 : Hid (Below w.heap.size w w) := Below.refl _ _
  have HG : Hid (getS ⟨ch, la, fl⟩ k n = if r = 0 then (if (getP (ch k) n).2 = true then ((getP (ch k) n).1.2.1, 0) else (em, 8)) else (em, r)) := (show _ = _ by unfold getS; rw [Hr.out])
  clear h hvc hlk
  go_enter Try.func27, Try.ntmps27
  go_wp2_with fail
  refine (sAsked_any ch HS.out.d n).mono ?_
  rintro e w1 ⟨rfl, hw⟩
  rw [Hr.out]
  subst w1
  by_cases hr : r = 0
  · subst hr
    obtain ⟨gv, gb, Hg⟩ : ∃ x y, Hid (getP (ch k) n = (x, y)) := ⟨_, _, rfl⟩
    have HC : Hid (Calls Try.prog 39 #[vc, .int .i64 n] w fun e w' => e = .returned (.tuple #[.agg (VC gv).toArray, .bool gb]) ∧ Below w.heap.size w w') := (show Calls _ _ _ _ _ by have := get_any HVC.out.rd hlen.out n; rw [Hg.out] at this; exact this)
    go_wp2_with fail
    refine (HC.out).mono ?_
    rintro e w2a ⟨rfl, hb⟩
    have Lw2a : Hid (Below w.heap.size w w2a) := L0.out.trans (hb.mono L0.out.size)
    have Dw2a : Hid (Below w.heap.size w w2a) := hb
    clear hb
    go_upto_region 5 with (first
      | (refine wpList_store_new rfl 76 _ _ rfl w2a _ (VC gv).toArray _ rfl rfl rfl Try.size76 rfl (all_one (VC_one gv)) ?_)
      | fail)
    obtain ⟨E2, HE2⟩ : ∃ E, Hid (w2a.heap.size = E) := ⟨_, rfl⟩
    rw [HE2.out]
    obtain ⟨w2, hw⟩ : ∃ y, y = w2a.alloc (.cells (VC gv).toArray 76 (0, 0)) := ⟨_, rfl⟩
    rw [← hw]
    have Dw2b : Hid (Below w2a.heap.size w2a w2) := (show Below _ _ _ by rw [hw]; exact (Below.refl _ _).alloc (Nat.le_refl _) _)
    have L2 : Hid (Below w.heap.size w w2) := Lw2a.out.trans (Dw2b.out.mono Lw2a.out.size)
    have Dw2 : Hid (Below w.heap.size w w2) := Dw2a.out.trans (Dw2b.out.mono Dw2a.out.size)
    have BE2 : Hid (Blk w2 E2 76 (VC gv)) := (show Blk _ _ _ _ by rw [hw, ← HE2.out]; exact Blk.new w2a 76 (VC gv))
    clear hw Dw2a Dw2b Lw2a
    rw [Hg.out, HR.out, if_pos trivial] at HG
    obtain ⟨gp, gs, gd'⟩ := gv
    have c1 := BE2.out.cell (j := 1) rfl
    cases gb with
    | true =>
      have h1 : r1 = gs := by have := HG.out; simp at this; exact this.1
      have h2 : r2 = 0 := by have := HG.out; simp at this; exact this.2
      subst h1 h2
      go_wp2_with fail
      go_ret2
      exact ⟨rfl, L2.out⟩
    | false =>
      have h1 : r1 = em := by have := HG.out; simp at this; exact this.1
      have h2 : r2 = 8 := by have := HG.out; simp at this; exact this.2
      subst h1 h2
      go_wp2_with fail
      go_ret2
      exact ⟨rfl, L2.out⟩
  · have hr' : decide (r = 0) = false := by simp [hr]
    rw [HR.out, if_neg hr] at HG
    have h1 : r1 = em := by have := HG.out; simp at this; exact this.1
    have h2 : r2 = r := by have := HG.out; simp at this; exact this.2
    subst h1 h2
    go_wp2_with fail
    go_ret2
    exact ⟨rfl, L0.out⟩
#print axioms sGet_any
end Go.Proofs.Ytgaoionnfkbhaaa
