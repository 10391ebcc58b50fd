/-
  chain's Put: what the call does.
-/
import Derived.Test.YtgaoionnfkbhaaaChD
namespace Go.Proofs.Ytgaoionnfkbhaaa
open Go.RowKit

/-- A contract, in every world that a region that draws may come to. -/
theorem quiet_of {P : Program} {f : FuncId} {args : Array Value} {w : World} {v : Value} (H : ∀ W, Below w.heap.size w W → Calls P f args W fun e w' => e = .returned v ∧ Below W.heap.size W w') (d : Nat) (os : Array Obj) :
    Calls P f args (Go.Sort.grow (redrawn w d) os) fun e w'' => e = .returned v ∧ ∃ p : Regrown, w'' = Go.Sort.grow (redrawn w p.d) p.os := Calls.regrown_of (H _ (below_regrown w d os))
theorem putP_no {L : List Ver} {v : Ver} (h : putOk L v = false) : putP L v = L := by unfold putP; rw [h]; rfl
theorem putP_ok {L : List Ver} {v : Ver} (h : putOk L v = true) : putP L v = L ++ [v] := by unfold putP; rw [h]; rfl

/-- copy of versions to the head of a row of versions. -/
theorem wpList_copy_over {P : Program} {w : World} {ops : Array Oper} {rest : List Oper} {o : Oper} {a : Act} {Q : Exit → Act → World → Prop} (hgd : o.guard = none) (d s : Operand) (dT sT : TypeId)
    (ho : o.op = .call { callee := .builtin .copy, args := #[d, s], argTypes := #[dT, sT] }) (elem : TypeId) (hu : P.underlying dT = some (.slice elem)) (hsz : (P.info? elem).map (·.size) = some 3)
    (b dLen dCap : Nat) (v : Value) (L : List Ver) (hd : a.eval d = .slice (some ⟨b, 0, none⟩) dLen dCap) (hs : a.eval s = v) (hr : RdV w v L) (hl : L.length ≤ dLen)
    (T : TypeId) (Z : List Ver) (hB : Blk w b T (VCs Z)) (hfit : dLen ≤ Z.length)
    (h : ∀ w', Hid (Blk w' b T (VCs (overV Z 0 L))) → Hid (But b w w') → wpList P ops Q rest (a.put o.dst (goInt L.length)) w') : wpList P ops Q (o :: rest) a w := by
  refine wpList_copy_vers hgd d s dT sT ho elem hu hsz b dLen dCap v L hd hs hr hl T (VCs Z) hB (by rw [VCs_length]; omega) ?_
  have := hB.overV 0 L (by omega)
  rw [Nat.zero_mul] at this
  exact h _ this (But.setCells b (VCs L) 0 w)
/-- A version is stored at a place of a row of versions. -/
theorem wpList_store_at {P : Program} {ops : Array Oper} {rest : List Oper} {op : Oper} {a : Act} {w : World} {Q : Exit → Act → World → Prop} (hgd : op.guard = none) (ty : TypeId) (x y : Operand) (ho : op.op = .store ty x y)
    (g k : Nat) (v : Ver) (hx : a.eval x = .pointer (some ⟨g, k * 3, none⟩)) (hy : a.eval y = .agg (VC v).toArray) (T : TypeId) (Z : List Ver) (hB : Blk w g T (VCs Z)) (hk : k < Z.length) (hi : (P.info? ty).map (·.size) = some 3)
    (h : ∀ w', Hid (Blk w' g T (VCs (overV Z k [v]))) → Hid (But g w w') → wpList P ops Q rest (a.put op.dst undef) w') : wpList P ops Q (op :: rest) a w := by
  refine wpList_store_mid hgd ty x y ho g (k * 3) (VC v).toArray hx hy (hB.there (k * 3) 3 (by rw [VCs_length]; omega)) hi (all_one (VC_one v)) ?_
  have hb := hB.overV k [v] (by simp; omega)
  have e : VCs [v] = VC v := by simp [VCs]
  rw [e] at hb
  exact h _ hb (But.setCells g (VC v) (k * 3) w)
theorem overV_put (L : List Ver) (v : Ver) : overV (overV (List.replicate (L.length + 1) zv) 0 L) L.length [v] = L ++ [v] := by
  simp [overV]

set_option maxHeartbeats 2000000 in
set_option maxRecDepth 100000 in
theorem put_any {w : World} {u : Value} {L : List Ver} (h : RdV w u L) (hl : L.length ≤ 4398046511103) (v : Ver) :
    Calls Try.prog 40 #[u, .agg (VC v).toArray] w fun e w' => ∃ v', e = .returned (.tuple #[v', .bool (putOk L v)]) ∧ OwnV w' w.heap.size 76 v' (putP L v) ∧ Below w.heap.size w w' := by
  have HL := hide h
  obtain ⟨a, cp, rfl⟩ := h.slice
  clear h
  obtain ⟨n, HN⟩ : ∃ n, Hid (L.length = n) := ⟨_, rfl⟩
  rw [HN.out] at HL hl ⊢
  have L1 := hide ((Below.refl w.heap.size w).alloc (Nat.le_refl _) (.cells (VC v).toArray 76 (0, 0)))
  have B1 := hide (Blk.new w 76 (VC v))
  go_enter Try.func40, Try.ntmps40
  go_upto_region 1 with fail
  obtain ⟨E, HE⟩ : ∃ E, Hid (w.heap.size = E) := ⟨_, rfl⟩
  obtain ⟨w1, hw1⟩ : ∃ x, x = w.alloc (.cells (VC v).toArray 76 (0, 0)) := ⟨_, rfl⟩
  rw [← hw1] at L1 B1 ⊢
  rw [HE.out] at B1 ⊢
  clear hw1
  have cG := quiet_of (w := w1) (fun W hW => good_any ((HL.out.kept L1.out).kept hW))
  have cL := quiet_of (w := w1) (fun W hW => last_any ((HL.out.kept L1.out).kept hW))
  have cM := quiet_of (w := w1) (fun W hW => mayFollow_any v (lst L) W)
  have KL := hide (B1.out.class)
  have HP : Hid (putOk L v = (gd 0 L && fol v (lst L))) := rfl
  obtain ⟨q, HQ⟩ : ∃ q, Hid (gd 0 L = q) := ⟨_, rfl⟩
  rw [HQ.out] at cG HP
  cases q with
  | false =>
    have HF : Hid (putOk L v = false) := HP.out
    refine wp_region_quiet_below Try.mixed (by kernel_rfl) ?_
    repeat (go_big_quiet_step (exact cG _ _))
    refine wpQuiet_nil ?_
    intro w3 hw3
    have L13 : Hid (Below w1.heap.size w1 w3) := (show Below _ _ _ by obtain ⟨⟨dq, osq⟩, rfl⟩ := hw3; exact below_regrown w1 dq osq)
    have B3 : Hid (Blk w3 E 76 (VC v)) := B1.out.kept L13.out
    have L3 : Hid (Below w.heap.size w w3) := L1.out.trans (L13.out.mono L1.out.size)
    clear hw3 cG cL cM KL L13 B1
    go_wp2_with fail
    refine (copied_any (HL.out.kept L3.out) (by rw [HN.out]; omega)).mono ?_
    rintro e w7 ⟨v', rfl, ho, hb7⟩
    have L7 : Hid (Below w.heap.size w w7) := L3.out.trans (hb7.mono L3.out.size)
    have O7 : Hid (OwnV w7 w.heap.size 76 v' (putP L v)) := (show OwnV _ _ _ _ _ by rw [putP_no HF.out]; exact ho.mono L3.out.size)
    clear hb7 ho
    go_wp2_with fail
    go_ret2
    exact ⟨v', by rw [HF.out]; rfl, O7.out, L7.out⟩
  | true =>
    refine wp_region_quiet_below Try.mixed (by kernel_rfl) ?_
    iterate 4 (go_big_quiet_step (exact cG _ _))
    refine wpQuiet_load_mid rfl 76 _ rfl E 0 rfl (VC v) _ KL.out Try.underlying76 rfl Try.size76 ?_
    simp only [Act.put, List.setIfInBounds_toArray, List.set_cons_succ, List.set_cons_zero]
    obtain ⟨r, HR⟩ : ∃ r, Hid (fol v (lst L) = r) := ⟨_, rfl⟩
    rw [HR.out] at cM HP
    generalize lst L = la at cL cM
    cases r with
    | false =>
      have HF : Hid (putOk L v = false) := HP.out
      repeat (go_big_quiet_step (first | exact cL _ _ | exact cM _ _))
      refine wpQuiet_nil ?_
      intro w3 hw3
      have L13 : Hid (Below w1.heap.size w1 w3) := (show Below _ _ _ by obtain ⟨⟨dq, osq⟩, rfl⟩ := hw3; exact below_regrown w1 dq osq)
      have B3 : Hid (Blk w3 E 76 (VC v)) := B1.out.kept L13.out
      have L3 : Hid (Below w.heap.size w w3) := L1.out.trans (L13.out.mono L1.out.size)
      clear hw3 cG cL cM KL L13 B1
      go_wp2_with fail
      refine (copied_any (HL.out.kept L3.out) (by rw [HN.out]; omega)).mono ?_
      rintro e w7 ⟨v', rfl, ho, hb7⟩
      have L7 : Hid (Below w.heap.size w w7) := L3.out.trans (hb7.mono L3.out.size)
      have O7 : Hid (OwnV w7 w.heap.size 76 v' (putP L v)) := (show OwnV _ _ _ _ _ by rw [putP_no HF.out]; exact ho.mono L3.out.size)
      clear hb7 ho
      go_wp2_with fail
      go_ret2
      exact ⟨v', by rw [HF.out]; rfl, O7.out, L7.out⟩
    | true =>
      have HF : Hid (putOk L v = true) := HP.out
      repeat (go_big_quiet_step (first | exact cL _ _ | exact cM _ _))
      refine wpQuiet_nil ?_
      intro w3 hw3
      have L13 : Hid (Below w1.heap.size w1 w3) := (show Below _ _ _ by obtain ⟨⟨dq, osq⟩, rfl⟩ := hw3; exact below_regrown w1 dq osq)
      have B3 : Hid (Blk w3 E 76 (VC v)) := B1.out.kept L13.out
      have L3 : Hid (Below w.heap.size w w3) := L1.out.trans (L13.out.mono L1.out.size)
      clear hw3 cG cL cM KL L13 B1
      obtain ⟨i0, hi0, hz0, hz1, hz2⟩ := info_parts Try.info76
      go_upto_region 4 with (first
        | (at_make; refine wpList_make_vers _ rfl _ _ 66 76 rfl i0 Try.underlying66 hi0 hz0 hz1 hz2 .i64 .i64 _ _ (n + 1) (n + 1) rfl rfl (by go_num) (by go_num) (Nat.le_refl _) (by omega) ?_)
        | fail)
      obtain ⟨G, HG⟩ : ∃ G, Hid (w3.heap.size = G) := ⟨_, rfl⟩
      obtain ⟨w4, hw4⟩ : ∃ x, x = w3.alloc (.cells (VCs (List.replicate (n + 1) zv)).toArray 76 (0, 0)) := ⟨_, rfl⟩
      have b4 : Below w3.heap.size w3 w4 := by rw [hw4]; exact (Below.refl _ _).alloc (Nat.le_refl _) _
      have B4 : Hid (Blk w4 E 76 (VC v)) := B3.out.kept b4
      have L4 : Hid (Below w.heap.size w w4) := L3.out.trans (b4.mono L3.out.size)
      have G4 : Hid (Blk w4 G 76 (VCs (List.replicate (n + 1) zv))) := (show Blk _ _ _ _ by rw [hw4, ← HG.out]; exact Blk.new w3 76 _)
      have HEG : Hid (E ≠ G) := (show E ≠ G by have := B3.out.lt; rw [← HG.out]; omega)
      have HwG : Hid (w.heap.size ≤ G) := (show _ by rw [← HG.out]; exact L3.out.size)
      rw [← hw4, HG.out]
      clear hw4 b4 B3 L3
      go_wp2_with (first
        | (refine wpList_copy_over rfl _ _ 66 66 rfl 76 Try.underlying66 Try.size76 G (n + 1) (n + 1) _ L rfl rfl (HL.out.kept L4.out) (by rw [HN.out]; omega) 76 _ G4.out (by simp) ?_; intro w5 G5 T5; have B5 : Hid (Blk w5 E 76 (VC v)) := B4.out.but T5.out HEG.out; have R5 := B5.out.range0)
        | (refine wpList_load_mid rfl 76 _ rfl E 0 rfl (VC v) _ R5 Try.underlying76 rfl Try.size76 ?_)
        | (refine wpList_store_at rfl 76 _ _ rfl G n v rfl rfl 76 _ G5.out (by simp [overV, HN.out]) Try.size76 ?_; intro w6 G6 T6)
        | fail)
      go_ret2
      have ho := own_blk (B := w.heap.size) (L := L ++ [v]) (e := 76) (b := G) (w := w6) (by
        have := G6.out
        rw [← HN.out, overV_put] at this
        exact this) HwG.out (by simp [HN.out, maxLen]; omega)
      rw [List.length_append, HN.out] at ho
      refine ⟨_, by rw [HF.out]; rfl, ?_, ?_⟩
      · rw [putP_ok HF.out]; exact ho
      · exact (L4.out.trans (T5.out.below HwG.out L4.out.size)).trans (T6.out.below HwG.out (Nat.le_trans L4.out.size T5.out.size))
#print axioms put_any
end Go.Proofs.Ytgaoionnfkbhaaa
