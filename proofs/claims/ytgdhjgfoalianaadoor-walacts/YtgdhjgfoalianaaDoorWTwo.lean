/-
  The program's disk and log, the reference's disk and log, apart by their colours; indenturelaw06.open.
-/
import Derived.Test.YtgdhjgfoalianaaDoorQOpen
import Derived.Test.YtgdhjgfoalianaaDoorRegion5
namespace Go.Proofs.YtgdhjgfoalianaaDoor
open Go.RowKit
open Pd (DM)
/-- The disk md at D, the reference's disk mr at R. -/
structure Duo (w0 w : World) (c : Nat → Nat) (D R n : Nat) (md mr : DM) : Prop where
  sea : Sea w0 w c
  d : IsD w c 1 D n md
  r : IsR w c 2 R n mr
/-- The two logs: none, or the program's and the reference's, of the same numbers. -/
def Logs (w : World) (c : Nat → Nat) (D R : Nat) (lv mv : Value) (k : Nat) : Prop :=
  (lv = .pointer none ∧ mv = .pointer none) ∨ ∃ L M E C Y, lv = .pointer (some ⟨L, 0, none⟩) ∧ mv = .pointer (some ⟨M, 0, none⟩) ∧ LogB w L D E C Y ∧ QLogB w M R E C Y ∧ c L = 9 ∧ c M = 9 ∧ L ≠ M ∧ E ≤ 140000 + 8400 * k ∧ C ≤ 5000 + k
section
variable {w0 w : World} {c : Nat → Nat} {D R n : Nat} {md mr : DM} {lv mv : Value} {k : Nat}
theorem Duo.kept (h : Duo w0 w c D R n md mr) {w' : World} (hb : Below w.heap.size w w') : Duo w0 w' c D R n md mr :=
  ⟨h.sea.kept hb, h.d.kept hb (fun _ _ => rfl), h.r.kept hb (fun _ _ => rfl)⟩
theorem Duo.stepD (h : Duo w0 w c D R n md mr) {w' : World} {c' : Nat → Nat} {m' : DM} (hs : Step c 1 w c' w') (hd : IsD w' c' 1 D n m') : Duo w0 w' c' D R n m' mr :=
  ⟨h.sea.step hs (by decide), hd, h.r.step hs (by decide) (by decide)⟩
theorem Duo.stepR (h : Duo w0 w c D R n md mr) {w' : World} {c' : Nat → Nat} {m' : DM} (hs : Step c 2 w c' w') (hr : IsR w' c' 2 R n m') : Duo w0 w' c' D R n md m' :=
  ⟨h.sea.step hs (by decide), h.d.step hs (by decide) (by decide), hr⟩
theorem Logs.step (h : Logs w c D R lv mv k) {i : Nat} {w' : World} {c' : Nat → Nat} (hs : Step c i w c' w') (hi : i ≠ 9) : Logs w' c' D R lv mv k := by
  rcases h with h | ⟨L, M, E, C, Y, h1, h2, h3, h4, h5, h6, h7, h8, h9⟩
  · exact .inl h
  · exact .inr ⟨L, M, E, C, Y, h1, h2, h3.step hs (by omega), h4.step hs (by omega), (hs.ext L h3.lt).trans h5, (hs.ext M h4.lt).trans h6, h7, h8, h9⟩
theorem Logs.kept (h : Logs w c D R lv mv k) {w' : World} (hb : Below w.heap.size w w') : Logs w' c D R lv mv k := by
  rcases h with h | ⟨L, M, E, C, Y, h1, h2, h3, h4, h5, h6, h7, h8, h9⟩
  · exact .inl h
  · exact .inr ⟨L, M, E, C, Y, h1, h2, h3.kept hb, h4.kept hb, h5, h6, h7, h8, h9⟩
theorem Logs.mono (h : Logs w c D R lv mv k) {k' : Nat} (hk : k ≤ k') : Logs w c D R lv mv k' := by
  rcases h with h | ⟨L, M, E, C, Y, h1, h2, h3, h4, h5, h6, h7, h8, h9⟩
  · exact .inl h
  · exact .inr ⟨L, M, E, C, Y, h1, h2, h3, h4, h5, h6, h7, by omega, by omega⟩
/-- A block without a colour stays. -/
theorem blk_step {c' : Nat → Nat} {i : Nat} {w' : World} (hs : Step c i w c' w') (hi : i ≠ 0) {E : Nat} {T : TypeId} {cs : List Value} (hE : Blk w E T cs) (hc : c E = 0) : Blk w' E T cs ∧ c' E = 0 :=
  ⟨(hs.chg.block E hE.lt (by rw [hc]; exact fun e => hi e.symm)).trans hE, (hs.ext E hE.lt).trans hc⟩
theorem blk_stepL {c' : Nat → Nat} {i L : Nat} {w' : World} (hs : StepL c i L w c' w') (hi : i ≠ 0) (hL : c L = 9) {E : Nat} {T : TypeId} {cs : List Value} (hE : Blk w E T cs) (hc : c E = 0) : Blk w' E T cs ∧ c' E = 0 :=
  ⟨(hs.chg.block E hE.lt (by rintro (e | e); exact hi (e.symm.trans hc); subst e; omega)).trans hE, (hs.ext E hE.lt).trans hc⟩
theorem Sea.stepL (h : Sea w0 w c) {c' : Nat → Nat} {i L : Nat} {w' : World} (hs : StepL c i L w c' w') (hi : i ≠ 0) (hL : c L = 9) : Sea w0 w' c' :=
  ⟨hs.norm, fun k hk => (hs.ext k (Nat.lt_of_lt_of_le hk h.below.size)).trans (h.low k hk), h.below.trans (hs.chg.below h.below.size (fun k hk e => by
    have := h.low k hk
    rcases e with e | e
    · exact hi (e.symm.trans this)
    · subst e; omega))⟩
/-- Both disks and both logs, each as it is. -/
structure Pair (w0 w : World) (c : Nat → Nat) (D R n : Nat) (md mr : DM) (L M e1 c1 y1 e2 c2 y2 : Nat) : Prop where
  duo : Duo w0 w c D R n md mr
  l : LogB w L D e1 c1 y1
  q : QLogB w M R e2 c2 y2
  l9 : c L = 9
  m9 : c M = 9
  ne : L ≠ M
variable {L M e1 c1 y1 e2 c2 y2 : Nat}
theorem Pair.kept (h : Pair w0 w c D R n md mr L M e1 c1 y1 e2 c2 y2) {w' : World} (hb : Below w.heap.size w w') : Pair w0 w' c D R n md mr L M e1 c1 y1 e2 c2 y2 :=
  ⟨h.duo.kept hb, h.l.kept hb, h.q.kept hb, h.l9, h.m9, h.ne⟩
theorem Pair.stepD (h : Pair w0 w c D R n md mr L M e1 c1 y1 e2 c2 y2) {w' : World} {c' : Nat → Nat} {m' : DM} {e c0 y : Nat} (hs : StepL c 1 L w c' w') (hd : IsD w' c' 1 D n m') (hl : LogB w' L D e c0 y) : Pair w0 w' c' D R n m' mr L M e c0 y e2 c2 y2 :=
  ⟨⟨h.duo.sea.stepL hs (by decide) h.l9, hd, h.duo.r.chg hs.chg (fun k _ hk e => by have := h.l9; rcases e with e | e; omega; subst e; omega) hs.ext⟩, hl,
    Blk.chg h.q hs.chg (by have := h.m9; rintro (e | e); omega; exact h.ne e.symm), (hs.ext L h.l.lt).trans h.l9, (hs.ext M h.q.lt).trans h.m9, h.ne⟩
theorem Pair.stepR (h : Pair w0 w c D R n md mr L M e1 c1 y1 e2 c2 y2) {w' : World} {c' : Nat → Nat} {m' : DM} {e c0 y : Nat} (hs : StepL c 2 M w c' w') (hd : IsR w' c' 2 R n m') (hl : QLogB w' M R e c0 y) : Pair w0 w' c' D R n md m' L M e1 c1 y1 e c0 y :=
  ⟨⟨h.duo.sea.stepL hs (by decide) h.m9, h.duo.d.chg hs.chg (fun k _ hk e => by have := h.m9; rcases e with e | e; omega; subst e; omega) hs.ext, hd⟩,
    Blk.chg h.l hs.chg (by have := h.l9; rintro (e | e); omega; exact h.ne e), hl, (hs.ext L h.l.lt).trans h.l9, (hs.ext M h.q.lt).trans h.m9, h.ne⟩
theorem texts_length (b : List UInt8) : (texts b).length ≤ b.length / 32 + 1 := by
  unfold texts
  rw [List.length_map]
  exact frs_length b _ 0

set_option maxHeartbeats 1000000 in
set_option maxRecDepth 100000 in
theorem lopen_any {m : DM} (hT : Tab w0) (h : Duo w0 w c D R n m m) (k : Nat) :
    Calls Tryd.prog 13 #[.pointer (some ⟨D, 0, none⟩), .pointer (some ⟨R, 0, none⟩)] w fun e w' => ∃ l' m', e = .returned (.tuple #[l', m', .bool true]) ∧ ∃ c' m1, Duo w0 w' c' D R n m1 m1 ∧ Logs w' c' D R l' m' k := by
  have H := hide h
  have HT : Hid (Tab w) := hT.kept h.sea.below
  have hok := h.d.ok
  have hnl : m.now.length ≤ 131072 := by have := hok.1.now; omega
  have HE : Hid (ends m.now ≤ 131072) := Nat.le_trans (ends_mod m.now).2 hnl
  have HX : Hid ((texts m.now).length ≤ 5000) := (show _ ≤ _ by have := texts_length m.now; omega)
  clear h hT hok hnl
  go_enter Tryd.func13, Tryd.ntmps13
  go_wp2_with fail
  refine (wOpen_any H.out.d H.out.sea.norm HT.out).mono ?_
  rintro e w1 ⟨cc, hd1, hs1, hpost⟩
  have D1 : Hid (Duo w0 w1 cc D R n (openD m).2 m) := H.out.stepD hs1 hd1
  have hq := qOpen_any D1.out.r D1.out.sea.norm
  have HQ := hide hq
  clear hq hd1 hs1
  by_cases he : (openD m).1 = 0
  · rw [if_pos he] at hpost
    obtain ⟨L, v, rfl, hL, hL9, hLs, hcr⟩ := hpost
    have HL : Hid (LogB w1 L D (ends m.now) (texts m.now).length (texts m.now).length) := hL
    have HL9 := hide hL9
    have HCR := hide hcr
    clear hL hL9 hLs hcr
    have HHE := hide he
    clear he
    go_wp2_with fail
    refine HQ.out.mono ?_
    rintro e w2 ⟨cd, hr2, hs2, hpost⟩
    rw [if_pos HHE.out] at hpost
    obtain ⟨M, v2, rfl, hM, hM9, hMs, hcr2⟩ := hpost
    have D2 : Hid (Duo w0 w2 cd D R n (openD m).2 (openD m).2) := D1.out.stepR hs2 hr2
    have HL2 : Hid (LogB w2 L D (ends m.now) (texts m.now).length (texts m.now).length) := HL.out.step hs2 (by have := HL9.out; omega)
    have HM : Hid (QLogB w2 M R (ends m.now) (texts m.now).length (texts m.now).length) := hM
    have HM9 := hide hM9
    have HL92 : Hid (cd L = 9) := (hs2.ext L HL.out.lt).trans HL9.out
    have HNE : Hid (L ≠ M) := (show _ ≠ _ by have := HL.out.lt; omega)
    have HC1 : Hid (CoolR w2 cd v (texts m.now)) := HCR.out.step hs2 (by decide)
    have HC2 := hide hcr2
    clear hr2 hs2 hM hM9 hMs hcr2
    go_wp2_with fail
    refine (qsame_any v v2 (texts m.now) (texts m.now) w2 HC1.out.rd HC2.out.rd (by have := HX.out; omega) (by have := HX.out; omega)).mono ?_
    rw [decide_eq_true rfl]
    rintro e w3 ⟨rfl, hb3⟩
    have B3 := hide hb3
    clear hb3
    go_wp2_with fail
    go_ret3
    exact ⟨_, _, rfl, cd, _, D2.out.kept B3.out, .inr ⟨L, M, _, _, _, rfl, rfl, HL2.out.kept B3.out, HM.out.kept B3.out, HL92.out, HM9.out, HNE.out, by have := HE.out; omega, by have := HX.out; omega⟩⟩
  · rw [if_neg he] at hpost
    subst hpost
    have HHE := hide he
    clear he
    obtain ⟨er, HER⟩ : ∃ er, Hid ((openD m).1 = er) := ⟨_, rfl⟩
    rw [HER.out]
    go_wp2_with fail
    refine HQ.out.mono ?_
    rintro e w2 ⟨cd, hr2, hs2, hpost⟩
    rw [if_neg HHE.out, HER.out] at hpost
    subst hpost
    have D2 : Hid (Duo w0 w2 cd D R n (openD m).2 (openD m).2) := D1.out.stepR hs2 hr2
    clear hr2 hs2
    have hnil : RdR w2 (.slice none 0 0) [] := ⟨none, 0, rfl, fun h => absurd h (by simp)⟩
    have HNIL := hide hnil
    clear hnil
    go_wp2_with fail
    refine (qsame_any (.slice none 0 0) (.slice none 0 0) [] [] w2 HNIL.out HNIL.out (by simp) (by simp)).mono ?_
    rw [decide_eq_true rfl]
    rintro e w3 ⟨rfl, hb3⟩
    have B3 := hide hb3
    clear hb3
    go_wp2_with fail
    go_ret3
    exact ⟨_, _, rfl, cd, _, D2.out.kept B3.out, .inl ⟨rfl, rfl⟩⟩
end
#print axioms lopen_any
end Go.Proofs.YtgdhjgfoalianaaDoor
