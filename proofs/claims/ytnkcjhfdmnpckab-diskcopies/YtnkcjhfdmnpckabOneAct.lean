/-
  indenturelaw05.one: an act on a disk.
-/
import Derived.Test.YtnkcjhfdmnpckabDLight
import Derived.Test.YtnkcjhfdmnpckabDOneC
namespace Go.Proofs.Ytnkcjhfdmnpckab
open Go.RowKit
open Pd (DM)
/-- An act, plainly. -/
def oneP (m : DM) (p : ActP) : DM :=
  if p.kind = 0 then (Pd.write m p.a p.B).2 else if p.kind = 2 then (Pd.sync m).2 else if p.kind = 3 then Pd.arm m p.n p.keep p.a
  else if p.kind = 4 then (Pd.crashed m p.keep p.n).2 else if p.kind = 5 then (Pd.start m).2 else m
set_option maxHeartbeats 4000000 in
set_option maxRecDepth 100000 in
theorem one_any {w : World} {c : Nat → Nat} {i D n : Nat} {m : DM} (h : IsD w c i D n m) (hN : Norm c w) {p : ActP} {ab ak : Option Addr} {cb ck : Nat} (hA : IsA w p (.slice ab p.B.length cb) (.slice ak p.keep.length ck))
    (hcb : Cool c (.slice ab p.B.length cb)) (hck : Cool c (.slice ak p.keep.length ck)) (hk : p.keep.length ≤ 1000000) :
    Calls Try.prog 8 #[.pointer (some ⟨D, 0, none⟩), .agg (AC p (.slice ab p.B.length cb) (.slice ak p.keep.length ck)).toArray] w fun e w' => e = .returned (.tuple #[]) ∧ ∃ c', IsD w' c' i D n (oneP m p) ∧ Step c i w c' w' := by
  go_enter Try.func8, Try.ntmps8
  go_upto_region 1 with fail
  obtain ⟨E, HE⟩ : ∃ E, Hid (w.heap.size = E) := ⟨_, rfl⟩
  rw [HE.out]
  obtain ⟨w1, hw1⟩ : ∃ x, x = w.alloc (.cells (AC p (.slice ab p.B.length cb) (.slice ak p.keep.length ck)).toArray 30 (0, 0)) := ⟨_, rfl⟩
  rw [← hw1]
  have hb1 : Below w.heap.size w w1 := by rw [hw1]; exact (Below.refl _ _).alloc (Nat.le_refl _) _
  have HB1 : Hid (Below w.heap.size w w1) := hb1
  have E1 : Hid (Blk w1 E 30 (AC p (.slice ab p.B.length cb) (.slice ak p.keep.length ck))) := (show Blk _ _ _ _ by rw [hw1, ← HE.out]; exact Blk.new w 30 _)
  have I1 : Hid (IsD w1 c i D n m) := h.kept hb1 (fun _ _ => rfl)
  have N1 : Hid (Norm c w1) := hN.kept hb1.size
  have A1 : Hid (IsA w1 p (.slice ab p.B.length cb) (.slice ak p.keep.length ck)) := hA.kept hb1
  have CB : Hid (Cool c (.slice ab p.B.length cb)) := hcb
  have CK : Hid (Cool c (.slice ak p.keep.length ck)) := hck
  clear hw1 hb1 h hN hA hcb hck
  have c0 := E1.out.cell (j := 0) rfl
  have c1 := E1.out.cell (j := 1) rfl
  have c2 := E1.out.cell (j := 2) rfl
  have c3 := E1.out.cell (j := 3) rfl
  have c4 := E1.out.cell (j := 4) rfl
  clear E1
  by_cases k0 : p.kind = 0
  · rw [k0] at c0
    have EQ : Hid (oneP m p = (Pd.write m p.a p.B).2) := (show _ = _ by unfold oneP; rw [if_pos k0])
    go_wp2_with fail
    refine (dWrite_any I1.out N1.out p.a A1.out.wa _ p.B A1.out.b CB.out).mono ?_
    rintro e w2 ⟨rfl, c2, hI, hs⟩
    have HI : Hid (∃ c', IsD w2 c' i D n (Pd.write m p.a p.B).2 ∧ Step c i w c' w2) := ⟨c2, hI, hs.ahead HB1.out⟩
    clear hI hs
    go_wp2
    go_end0
    exact ⟨rfl, by rw [EQ.out]; exact HI.out⟩
  by_cases k2 : p.kind = 2
  · rw [k2] at c0
    have EQ : Hid (oneP m p = (Pd.sync m).2) := (show _ = _ by unfold oneP; rw [if_neg k0, if_pos k2])
    go_wp2_with fail
    refine (dSync_any I1.out N1.out).mono ?_
    rintro e w2 ⟨rfl, c2, hI, hs⟩
    have HI : Hid (∃ c', IsD w2 c' i D n (Pd.sync m).2 ∧ Step c i w c' w2) := ⟨c2, hI, hs.ahead HB1.out⟩
    clear hI hs
    go_wp2
    go_end0
    exact ⟨rfl, by rw [EQ.out]; exact HI.out⟩
  by_cases k3 : p.kind = 3
  · rw [k3] at c0
    have EQ : Hid (oneP m p = Pd.arm m p.n p.keep p.a) := (show _ = _ by unfold oneP; rw [if_neg k0, if_neg k2, if_pos k3])
    go_wp2_with fail
    refine (dArm_any I1.out p.n A1.out.wn _ p.keep p.a A1.out.k A1.out.ws hk CK.out).mono ?_
    rintro e w2 ⟨rfl, c2, hI, hs⟩
    have HI : Hid (∃ c', IsD w2 c' i D n (Pd.arm m p.n p.keep p.a) ∧ Step c i w c' w2) := ⟨c2, hI, hs.ahead HB1.out⟩
    clear hI hs
    go_wp2
    go_end0
    exact ⟨rfl, by rw [EQ.out]; exact HI.out⟩
  by_cases k4 : p.kind = 4
  · rw [k4] at c0
    have EQ : Hid (oneP m p = (Pd.crashed m p.keep p.n).2) := (show _ = _ by unfold oneP; rw [if_neg k0, if_neg k2, if_neg k3, if_pos k4])
    go_wp2_with fail
    refine (dCrash_any I1.out N1.out _ p.keep p.n A1.out.k A1.out.ws CK.out).mono ?_
    rintro e w2 ⟨rfl, c2, hI, hs⟩
    have HI : Hid (∃ c', IsD w2 c' i D n (Pd.crashed m p.keep p.n).2 ∧ Step c i w c' w2) := ⟨c2, hI, hs.ahead HB1.out⟩
    clear hI hs
    go_wp2
    go_end0
    exact ⟨rfl, by rw [EQ.out]; exact HI.out⟩
  by_cases k5 : p.kind = 5
  · rw [k5] at c0
    have EQ : Hid (oneP m p = (Pd.start m).2) := (show _ = _ by unfold oneP; rw [if_neg k0, if_neg k2, if_neg k3, if_neg k4, if_pos k5])
    go_wp2_with fail
    refine (dStart_any I1.out N1.out).mono ?_
    rintro e w2 ⟨rfl, hI, hs⟩
    have HI : Hid (∃ c', IsD w2 c' i D n (Pd.start m).2 ∧ Step c i w c' w2) := ⟨c, hI, hs.ahead HB1.out⟩
    clear hI hs
    go_wp2
    go_end0
    exact ⟨rfl, by rw [EQ.out]; exact HI.out⟩
  · have EQ : Hid (oneP m p = m) := (show _ = _ by unfold oneP; rw [if_neg k0, if_neg k2, if_neg k3, if_neg k4, if_neg k5])
    have n0 : decide (p.kind = 0) = false := by simp [k0]
    have n2 : decide (p.kind = 2) = false := by simp [k2]
    have n3 : decide (p.kind = 3) = false := by simp [k3]
    have n4 : decide (p.kind = 4) = false := by simp [k4]
    have n5 : decide (p.kind = 5) = false := by simp [k5]
    go_wp2
    go_end0
    exact ⟨rfl, c, by rw [EQ.out]; exact I1.out, Chg.of_below HB1.out, fun _ _ => rfl, N1.out⟩
end Go.Proofs.Ytnkcjhfdmnpckab
