/-
  indenturelaw07.ChainAsks: the walk: the call returns true and makes new memory alone.
-/
import Derived.Test.YtcngkeilleeanaaChK
namespace Go.Proofs.Ytcngkeilleeanaa
open Go.RowKit

/-- A version is loaded, where the guard holds. -/
theorem wpList_load_w {P : Program} {ops : Array Oper} {rest : List Oper} {o : Oper} {a : Act} {w : World} {Q : Exit → Act → World → Prop} (hw : Region.wanted o (yielded ops a.tmps) = true) (ty : TypeId) (x : Operand) (ho : o.op = .load ty x)
    (b off : Nat) (hx : a.eval x = .pointer (some ⟨b, off, none⟩)) (cs : List Value) (d : TypeDesc) (hc : w.rangeAt b off cs) (hu : P.underlying ty = some d) (hd : d.isRow = true) (hi : (P.info? ty).map (·.size) = some cs.length)
    (h : wpList P ops Q rest (a.put o.dst (.agg cs.toArray)) w) : wpList P ops Q (o :: rest) a w := by
  refine wpList_step fun K hK => ?_
  rw [if_pos hw]
  unfold Oper.wp execOp
  simp only [ho, hx, Instr.loadAt, Instr.sureAddr, Sem.run_bind, Sem.run_pure, Result.andThen_ok, run_loadVar_mid w b off ty cs d hc hu hd hi]
  exact hK _ _ h
set_option maxHeartbeats 2000000 in
set_option maxRecDepth 100000 in
theorem chainAsks_any {w : World} {v : Value} {L : List Ver} (h : RdV w v L) (z : Int) : Calls Try.prog 3 #[v, .int .i64 z] w fun e w' => e = .returned (.bool true) ∧ Below w.heap.size w w' := by
  have hz := Zver
  have hz' := Zrver
  have HL := hide h
  obtain ⟨a, cp, rfl⟩ := h.slice
  have hn : L.length ≤ 9223372036854775807 := Nat.le_trans h.cap h.max
  clear h
  obtain ⟨n, HN⟩ : ∃ n, Hid (L.length = n) := ⟨_, rfl⟩
  rw [HN.out] at HL hn ⊢
  by_cases h300 : 300 < n
  · have q1 : (300 : Int) < (n : Int) := by omega
    go_enter Try.func3, Try.ntmps3
    go_wp2_with fail
    refine (lives_any w).mono ?_
    rintro e w1 ⟨rfl, hb⟩
    have L1 := hide hb
    clear hb
    go_wp2_with fail
    go_ret
    exact ⟨rfl, L1.out⟩
  · have q1 : decide ((300 : Int) < (n : Int)) = false := by simp; omega
    have hl : L.length ≤ 4398046511104 := by rw [HN.out]; omega
    have HH := hide hl
    have L0 : Hid (Below w.heap.size w w) := Below.refl _ _
    clear hl
    go_enter Try.func3, Try.ntmps3
    go_wp2_with fail
    refine (plain_any HL.out HH.out).mono ?_
    rintro e w1 ⟨p, rfl, ho, hb⟩
    have L1 : Hid (Below w.heap.size w w1) := L0.out.trans (hb.mono L0.out.size)
    have Dw1 : Hid (Below w.heap.size w w1) := hb
    have RP1 := hide ho.rd
    clear ho
    clear hb
    obtain ⟨X, HX⟩ : ∃ X, Hid ((getP L z).1 = X) := ⟨_, rfl⟩
    obtain ⟨Y, HY⟩ : ∃ Y, Hid ((getP L z).2 = Y) := ⟨_, rfl⟩
    have G2 := hide (get_any (HL.out.kept L1.out) HH.out z)
    rw [HX.out, HY.out] at G2
    go_wp2_with fail
    refine (G2.out).mono ?_
    rintro e w2a ⟨rfl, hb⟩
    have Lw2a : Hid (Below w.heap.size w w2a) := L1.out.trans (hb.mono L1.out.size)
    have Dw2a : Hid (Below w1.heap.size w1 w2a) := hb
    clear hb
    go_upto_region 5 with (first
      | (refine wpList_store_new rfl 28 _ _ rfl w2a _ (VC X).toArray _ rfl rfl rfl Try.size28 rfl (all_one (VC_one X)) ?_)
      | fail)
    obtain ⟨E2, HE2⟩ : ∃ E, Hid (w2a.heap.size = E) := ⟨_, rfl⟩
    rw [HE2.out]
    obtain ⟨w2, hw⟩ : ∃ y, y = w2a.alloc (.cells (VC X).toArray 28 (0, 0)) := ⟨_, rfl⟩
    rw [← hw]
    have Dw2b : Hid (Below w2a.heap.size w2a w2) := (show Below _ _ _ by rw [hw]; exact (Below.refl _ _).alloc (Nat.le_refl _) _)
    have L2 : Hid (Below w.heap.size w w2) := Lw2a.out.trans (Dw2b.out.mono Lw2a.out.size)
    have Dw2 : Hid (Below w1.heap.size w1 w2) := Dw2a.out.trans (Dw2b.out.mono Dw2a.out.size)
    have BE2 : Hid (Blk w2 E2 28 (VC X)) := (show Blk _ _ _ _ by rw [hw, ← HE2.out]; exact Blk.new w2a 28 (VC X))
    clear hw Dw2a Dw2b Lw2a
    have G3 := hide (kget_any (RP1.out.kept Dw2.out) z)
    rw [HX.out, HY.out] at G3
    go_wp2_with fail
    refine (G3.out).mono ?_
    rintro e w3a ⟨rfl, hb⟩
    have Lw3a : Hid (Below w.heap.size w w3a) := L2.out.trans (hb.mono L2.out.size)
    have Dw3a : Hid (Below w2.heap.size w2 w3a) := hb
    clear hb
    go_upto_region 6 with (first
      | (refine wpList_store_new rfl 31 _ _ rfl w3a _ (VC X).toArray _ rfl rfl rfl Try.size31 rfl (all_one (VC_one X)) ?_)
      | fail)
    obtain ⟨E3, HE3⟩ : ∃ E, Hid (w3a.heap.size = E) := ⟨_, rfl⟩
    rw [HE3.out]
    obtain ⟨w3, hw⟩ : ∃ y, y = w3a.alloc (.cells (VC X).toArray 31 (0, 0)) := ⟨_, rfl⟩
    rw [← hw]
    have Dw3b : Hid (Below w3a.heap.size w3a w3) := (show Below _ _ _ by rw [hw]; exact (Below.refl _ _).alloc (Nat.le_refl _) _)
    have L3 : Hid (Below w.heap.size w w3) := Lw3a.out.trans (Dw3b.out.mono Lw3a.out.size)
    have Dw3 : Hid (Below w2.heap.size w2 w3) := Dw3a.out.trans (Dw3b.out.mono Dw3a.out.size)
    have BE3 : Hid (Blk w3 E3 31 (VC X)) := (show Blk _ _ _ _ by rw [hw, ← HE3.out]; exact Blk.new w3a 31 (VC X))
    clear hw Dw3a Dw3b Lw3a
    have RP3 := hide ((RP1.out.kept Dw2.out).kept Dw3.out)
    have BF2 := hide (BE2.out.kept Dw3.out)
    have heq : ∀ W, (binOp .eql 31 (.agg (VC X).toArray) (.agg (VC X).toArray)).run Try.prog W = .ok (.bool true) W := fun W => by rw [eq_rver]; simp
    clear G2 G3
    go_wp2_with fail
    refine (good_any (HL.out.kept L3.out)).mono ?_
    rintro e w4 ⟨rfl, hb⟩
    have L4 : Hid (Below w.heap.size w w4) := L3.out.trans (hb.mono L3.out.size)
    have Dw4 : Hid (Below w3.heap.size w3 w4) := hb
    clear hb
    go_wp2_with fail
    refine (kgood_any (RP3.out.kept Dw4.out)).mono ?_
    rintro e w5 ⟨rfl, hb⟩
    have L5 : Hid (Below w.heap.size w w5) := L4.out.trans (hb.mono L4.out.size)
    have Dw5 : Hid (Below w4.heap.size w4 w5) := hb
    clear hb
    have r2 := ((BF2.out.kept Dw4.out).kept Dw5.out).range0
    have r3 := ((BE3.out.kept Dw4.out).kept Dw5.out).range0
    have RP5 := hide ((RP3.out.kept Dw4.out).kept Dw5.out)
    generalize gd 0 L = g
    go_wp2_with (first
      | (refine wpList_load_w rfl 28 _ rfl E2 0 rfl (VC X) _ r2 Try.underlying28 rfl Try.size28 ?_)
      | (refine wpList_load_w rfl 31 _ rfl E3 0 rfl (VC X) _ r3 Try.underlying31 rfl Try.size31 ?_)
      | fail)
    refine (last_any (HL.out.kept L5.out)).mono ?_
    rintro e w6 ⟨rfl, hb⟩
    have L6 : Hid (Below w.heap.size w w6) := L5.out.trans (hb.mono L5.out.size)
    have Dw6 : Hid (Below w5.heap.size w5 w6) := hb
    clear hb
    go_wp2_with fail
    refine (klast_any (RP5.out.kept Dw6.out)).mono ?_
    rintro e w7 ⟨rfl, hb⟩
    have L7 : Hid (Below w.heap.size w w7) := L6.out.trans (hb.mono L6.out.size)
    have Dw7 : Hid (Below w6.heap.size w6 w7) := hb
    clear hb
    have RP7 := hide ((RP5.out.kept Dw6.out).kept Dw7.out)
    generalize lst L = la
    go_wp2_with fail
    refine (since_any (HL.out.kept L7.out) HH.out z).mono ?_
    rintro e w8 ⟨rfl, hb⟩
    have L8 : Hid (Below w.heap.size w w8) := L7.out.trans (hb.mono L7.out.size)
    have Dw8 : Hid (Below w7.heap.size w7 w8) := hb
    clear hb
    go_wp2_with fail
    refine (ksince_any (RP7.out.kept Dw8.out) z).mono ?_
    rintro e w9 ⟨rfl, hb⟩
    have L9 : Hid (Below w.heap.size w w9) := L8.out.trans (hb.mono L8.out.size)
    have Dw9 : Hid (Below w8.heap.size w8 w9) := hb
    clear hb
    generalize sinceP L z = si
    go_wp2_with fail
    refine (lives_any w9).mono ?_
    rintro e wx ⟨rfl, hb⟩
    have Lx : Hid (Below w.heap.size w wx) := L9.out.trans (hb.mono L9.out.size)
    have Dwx : Hid (Below w9.heap.size w9 wx) := hb
    clear hb
    go_wp2_with fail
    go_ret
    exact ⟨rfl, Lx.out⟩
#print axioms chainAsks_any
end Go.Proofs.Ytcngkeilleeanaa
