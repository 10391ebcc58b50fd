/-
  slices.AppendSeq, Collect, SortedFunc over the values of a map of pairs; Writes: what the calls do.
-/
import Derived.Test.YtfjlkncliljjnaaBfV
import Derived.Test.YtfjlkncliljjnaaBfL
import Derived.Test.YtfjlkncliljjnaaBfS
namespace Go.Proofs.Ytfjlkncliljjnaa
open Go.RowKit Go.Shelf
attribute [local go_sem] Oper.semAt_some
theorem wpListIn_build_row {l n : Nat} {ops : Array Oper} {rest : List Oper} {op : Oper} {a : Act} {w : World} {Q : Exit → Act → World → Prop} (hgd : op.guard = none) (x : Operand) (ho : op.op = .buildSlice 28 1 #[(0, x)]) (p : Pr) (hx : a.eval x = .agg (PC p).toArray)
    (h : wpListIn (Fence.wide.inRound l) n Try.prog ops Q rest (a.put op.dst (.slice (some ⟨w.heap.size, 0, none⟩) 1 1)) (w.alloc (.cells (PC p).toArray 38 (0, 0)))) : wpListIn (Fence.wide.inRound l) n Try.prog ops Q (op :: rest) a w :=
  wpListIn_plain hgd fun _ hK => op_in (by rw [ho]; intro c h; cases h) (wp_build_row x ho p hx (hK _ _ h))
theorem wpListIn_store_ps {l n0 : Nat} {ops : Array Oper} {rest : List Oper} {op : Oper} {a : Act} {w : World} {Q : Exit → Act → World → Prop} (hgd : op.guard = none) (x y : Operand) (ho : op.op = .store 28 x y) (b : Nat) (T : TypeId) (u : Value) (p : Option Addr) (n c : Nat)
    (hx : a.eval x = .pointer (some ⟨b, 0, none⟩)) (hy : a.eval y = .slice p n c) (hB : Blk w b T [u]) (h : ∀ w', Blk w' b T [.slice p n c] → But b w w' → wpListIn (Fence.wide.inRound l) n0 Try.prog ops Q rest (a.put op.dst undef) w') : wpListIn (Fence.wide.inRound l) n0 Try.prog ops Q (op :: rest) a w :=
  wpListIn_plain hgd fun _ hK => op_in (by rw [ho]; intro c h; cases h) (wp_store_ps x y ho b T u p n c hx hy hB (fun w' h1 h2 => hK _ _ (h w' h1 h2)))
theorem wpListIn_append_E {α : Type} {E : Enc α} {P : Program} {t e : TypeId} {bytes : Nat} (ht : P.underlying t = some (.slice e)) (hi : ∃ i z, P.info? e = some i ∧ i.zero = some z ∧ i.size = E.n ∧ i.bytes = bytes ∧ z.cells.size = E.n) (hby : bytes ≤ 1000)
    {l n : Nat} {ops : Array Oper} {rest : List Oper} {o : Oper} {a : Act} {w : World} {Q : Exit → Act → World → Prop} (hgd : o.guard = none) (s x : Operand) (ho : o.op = .call { callee := .builtin .append, args := #[s, x], argTypes := #[t, t] }) (base : Nat)
    (v : Value) (L : List α) (hv : a.eval s = v) (hown : OwnG E w base e v L) (xv : Value) (M : List α) (hx : a.eval x = xv) (hr : RdG E w xv M) (hlen : L.length + M.length ≤ 10000000) (hbase : base ≤ w.heap.size)
    (h : ∀ v' w', OwnG E w' base e v' (L ++ M) → w.grownBy w' v.ownBlock → (∀ b, v'.ownBlock = some b → v.ownBlock = some b ∨ b = w.heap.size) → wpListIn (Fence.wide.inRound l) n P ops Q rest (a.put o.dst v') w') : wpListIn (Fence.wide.inRound l) n P ops Q (o :: rest) a w :=
  wpListIn_plain hgd fun _ hK => op_in (by rw [ho]; intro c h; cases h) (wp_append_E ht hi hby s x ho base v L hv hown xv M hx hr hlen hbase fun v' w' g1 g2 g3 => hK _ _ (h v' w' g1 g2 g3))
/-- What is kept while pairs are collected. -/
structure IS (w3 : World) (N E B : Nat) (pre : List Pr) (X : World) : Prop where
  own : ∃ v, Blk X E 28 [v] ∧ OwnG PE X N 38 v pre ∧ ∀ b, v.ownBlock = some b → B ≤ b
  c : Chg (fun k => k = E ∨ B ≤ k) w3 X
  s : w3.heap.size < B
  t : B ≤ X.heap.size
theorem IS.chg {w3 : World} {N E B : Nat} {pre : List Pr} {X Y : World} (h : IS w3 N E B pre X) {G : Nat → Prop} (hc : Chg G X Y) (hE : ¬ G E) (hG : ∀ k, G k → k < w3.heap.size → False) (hO : ∀ k cur, G k → X.heap[k]? ≠ some (.cells cur 38 (0, 0))) : IS w3 N E B pre Y := by
  obtain ⟨v, h1, h2, h3⟩ := h.own
  refine ⟨⟨v, h1.chg hc hE, h2.chg hc (fun b hb hg => ?_), h3⟩, h.c.then hc (fun i hi hg => (hG i hg hi).elim), h.s, Nat.le_trans h.t hc.size⟩
  obtain ⟨_, _, cur, hcur⟩ := h2.block hb
  exact hO b cur hg hcur
set_option maxHeartbeats 4000000 in
set_option maxRecDepth 100000 in
theorem appendSeq_any {w : World} {E1 M : Nat} {L : List Pr} (hbox : Blk w E1 53 [.map (some M)]) (hmp : MapP w M L) (hs : Bs L) (hL : L.length ≤ 1000000) : Calls Try.prog 45 #[.slice none 0 0, .func (.func 40) #[] #[PT E1]] w fun e w' => ∃ v' xs, e = .returned v' ∧ xs.Perm L ∧ OwnG PE w' w.heap.size 38 v' xs ∧ Below w.heap.size w w' := by
  have HBX := hide hbox
  have HMP := hide hmp
  obtain ⟨E, HN⟩ : ∃ N, Hid (w.heap.size = N) := ⟨_, rfl⟩
  have hE1 : E1 < E := by rw [← HN.out]; exact hbox.lt
  have hME : M < E := by rw [← HN.out]; exact hmp.lt
  rw [HN.out]
  clear hbox hmp
  obtain ⟨N0, -⟩ : ∃ n : Nat, True := ⟨9, trivial⟩
  refine (callsIn_wide (n := N0)).1 ?_
  refine callsIn_of_wp_marks Try.func45 rfl trivial ?_ rfl
  simp only [Try.ntmps45, List.size_toArray, List.length_cons, List.length_nil, Nat.reduceAdd, Nat.reduceSub, Array.replicate_succ, Array.replicate_zero, List.push_toArray, List.append_toArray, List.nil_append, List.cons_append]
  gi_wp2_with fail
  obtain ⟨w3, hw3⟩ : ∃ z, z = w.alloc (.cells #[.slice none 0 0] 28 (0, 0)) := ⟨_, rfl⟩
  change Code.wpIn _ _ _ _ _ _ (w.alloc (.cells #[.slice none 0 0] 28 (0, 0)))
  rw [← hw3, HN.out]
  have BL3 : Hid (Blk w3 E 28 [.slice none 0 0]) := (show Blk _ _ _ _ by rw [hw3, ← HN.out]; exact Blk.new w 28 [.slice none 0 0])
  have S3 : Hid (w3.heap.size = E + 1) := (show _ = _ by rw [hw3]; simp [HN.out])
  have hb3 : Below w.heap.size w w3 := by rw [hw3]; exact (Below.refl _ _).alloc (Nat.le_refl _) _
  have BX3 := hide (HBX.out.kept hb3)
  have MP3 := hide (HMP.out.chg (F := fun _ => False) (Chg.of_below hb3) id)
  have L3 := hide hb3
  clear hw3 hb3
  refine wp_ranged4 (n := N0) (gf := 40) (lb := #[PT E1]) rfl (enters_of Try.func40 (by kernel_rfl) rfl) (encs := vlV) (fun _ => rfl) (R := fun pre _ => pre.length < L.length) (S := fun xs => xs.Perm L) (IS w3 E E) (fun _ _ _ _ => False) ?ip ?xp ?ib ?xb ?h0
    (values1_hands w3 BX3.out MP3.out hs (G := fun k => k = E) (fun k hk => by have := S3.out; omega))
    (fun x h => { tmps := #[.slice none 0 0, .func (.func 40) #[] #[PT E1], PT E, undef, .slice none 0 0, PT h, .func (.func 40) #[] #[PT E1], .agg (PC x).toArray, undef, undef, undef, undef, undef], defers := [] })
    (fun x h W => Blk W h 38 (PC x)) ?ap ?assign ?body ?done ?left
  case ip =>
    intro B pre X k o0 o hk hX hn hI
    obtain ⟨v, g1, g2, g3⟩ := hI.own
    refine hI.chg (chg_put (G := fun j => j = k) rfl o) (fun e => ?_) (fun j hj hl => by omega) (fun j cur hj hcur => ?_)
    · subst e
      rw [show X.heap[E]? = _ from g1] at hX
      cases hX
      cases hn
    · subst hj
      rw [hX] at hcur
      cases hcur
      cases hn
  case xp => exact fun _ _ _ _ _ _ _ _ _ _ h => h
  case ib =>
    intro B pre X Y hI hb
    exact hI.chg (G := fun _ => False) (Chg.of_below hb) id (fun _ h => h.elim) (fun _ _ h => h.elim)
  case xb => exact fun _ _ _ _ _ h _ => h
  case h0 =>
    intro X hX hlt
    exact ⟨⟨.slice none 0 0, BL3.out.kept hX, ownG_nil _ _ _, fun b hb => by cases hb⟩, Chg.of_below hX, hlt, Nat.le_refl _⟩
  case ap =>
    rintro x h X k o0 o hk hX hn g1
    exact g1.put10 hX hn
  case assign =>
    intro m' l' x X K' hle hK
    have hz := Zpair
    have BW := Blk.new X 38 (PC zp)
    obtain ⟨h, Hh⟩ : ∃ h, Hid (X.heap.size = h) := ⟨_, rfl⟩
    have HK := hide hK
    rw [Hh.out] at BW HK
    have BW := hide BW
    clear hK
    simp only [vlV]
    gi_wp2_with (first
      | (rw [Hh.out]; refine wpListIn_store_blk rfl 38 _ _ rfl h (PC zp) (PC x) 38 rfl rfl BW.out rfl Try.size38 (PC_one x) ?_; intro w5 hb5 hu5 hz5; clear hz5)
      | fail)
    refine HK.out w5 ?_ hb5
    exact ((Below.refl _ _).alloc (Nat.le_of_eq Hh.out.symm) _).trans (hu5.below (Nat.le_refl _) (by simp [Hh.out]))
  case body =>
    rintro m' l' B pre x h X hwB hBh hle hI hR hA1
    obtain ⟨v1, IB0, IO0, IH0⟩ := hI.own
    obtain ⟨a1, c1, hv1⟩ := IO0.form
    obtain ⟨n1, hn1⟩ : ∃ k, pre.length = k := ⟨_, rfl⟩
    rw [hn1] at hv1
    subst hv1
    have hsz := S3.out
    have IB := hide IB0
    have IO1 := hide IO0
    have IH := hide IH0
    have HI := hide hI
    have A1 := hide hA1
    have HN1 := hide hn1
    have cE : X.cell? ⟨E, 0, none⟩ = some (.slice a1 n1 c1) := IB0.cell (j := 0) rfl
    have HBX := hide hI.t
    have HL9 : Hid (pre.length + [x].length ≤ 10000000) := (show _ ≤ _ by rw [List.length_singleton]; omega)
    have HL8 : Hid (E ≤ (X.alloc (.cells (PC x).toArray 38 (0, 0))).heap.size) := (show _ ≤ _ by simp; omega)
    clear IB0 IO0 IH0 hI hR hA1 hn1
    gi_wp2_with (first
      | (refine wpListIn_load_row9 rfl 38 _ rfl h 0 rfl (PC x) _ A1.out.range0 Try.underlying38 rfl Try.size38 ?_)
      | (refine wpListIn_build_row rfl _ rfl x rfl ?_)
      | (refine wpListIn_append_E Try.underlying28 infoP9 (by decide) rfl (.tmp 8) (.tmp 10) rfl E (.slice a1 n1 c1) pre rfl (IO1.out.kept ((Below.refl _ _).alloc (Nat.le_refl _) _)) (.slice (some ⟨X.heap.size, 0, none⟩) 1 1) [x] rfl (rdG_one (E := PE) X 38 x) HL9.out HL8.out ?_; intro v9 w9 o9 g9 q9; have O9 := hide o9; have G9 := hide g9; have Q9 := hide q9; clear o9 g9 q9; obtain ⟨p9, c9, hv9⟩ := O9.out.form; obtain ⟨n2, hn2⟩ : ∃ k, (pre ++ [x]).length = k := ⟨_, rfl⟩; rw [hn2] at hv9; subst hv9; clear hn2; have B9 : Hid (Blk w9 E 28 [.slice a1 n1 c1]) := (show Blk _ _ _ _ from (G9.out.block E (by simp; have := IB.out.lt; omega) (fun e => by have := IH.out E e.symm; omega)).trans (IB.out.alloc _)))
      | (refine wpListIn_store_ps rfl (.tmp 2) (.tmp 11) rfl E 28 (.slice a1 n1 c1) p9 n2 c9 rfl rfl B9.out ?_; intro w10 b10 u10)
      | fail)
    have hOne : (Value.slice p9 n2 c9).ownBlock = some E → False := fun e => by
      obtain ⟨_, _, cur, hcur⟩ := O9.out.block e
      have := B9.out.symm.trans hcur
      simp at this
    have hX9 : Chg (fun k => (Value.slice a1 n1 c1).ownBlock = some k) X w9 :=
      (Chg.alloc _ X (.cells (PC x).toArray 38 (0, 0))).trans (Chg.of_grown G9.out (fun k e _ => e))
    have hX10 : Chg (fun k => k = E ∨ (Value.slice a1 n1 c1).ownBlock = some k) X w10 :=
      (hX9.mono (fun k _ h => .inr h)).trans (Chg.of_but u10 (.inl rfl))
    refine ⟨keeps_chg hX10 (fun k o hk hko => ?_), hX10.mono (fun k _ h => ?_), ⟨⟨_, b10, O9.out.chg (F := fun k => k = E) (Chg.of_but u10 rfl) (fun b hb e => hOne (by rw [← e]; exact hb)), fun b hb => ?_⟩, HI.out.c.trans (hX10.mono (fun k _ h => ?_)), HI.out.s, Nat.le_trans HI.out.t hX10.size⟩⟩
    · rcases hk with rfl | hk
      · rw [show X.heap[k]? = _ from IB.out] at hko
        cases hko
        rfl
      · obtain ⟨_, _, cur, hcur⟩ := IO1.out.block hk
        rw [hcur] at hko
        cases hko
        rfl
    · rcases h with h | h
      · exact .inl h
      · exact .inr (IH.out k h)
    · rcases Q9.out b hb with h | h
      · exact IH.out b h
      · have := HBX.out
        rw [h]
        simp
        omega
    · rcases h with h | h
      · exact .inl h
      · exact .inr (IH.out k h)
  case done =>
    rintro Dd B xs X hDd hDB hPm hI hd
    obtain ⟨v1, IB0, IO0, IH0⟩ := hI.own
    obtain ⟨a1, c1, hv1⟩ := IO0.form
    subst hv1
    have IO1 := hide IO0
    have HPm := hide hPm
    have cX : X.cell? ⟨E, 0, none⟩ = some (.slice a1 xs.length c1) := IB0.cell (j := 0) rfl
    have IC := hide hI.c
    have hBs := hI.s
    clear hI IB0 IO0 IH0 hPm
    gi_wp2_with fail
    refine ⟨by simp, .inl ⟨_, _, rfl, run_takeDeferred hd, ?_⟩⟩
    have hp := chg_put (G := fun k => k = Dd) (W := X) (l := Dd) rfl (.deferred none)
    have hsz := S3.out
    refine ⟨_, results_tmp rfl _ _ _, _, xs, rfl, HPm.out, ?_, ?_⟩
    · exact IO1.out.chg hp (fun b hb e => by
        subst e
        obtain ⟨_, _, cur, hcur⟩ := IO1.out.block hb
        rw [hd] at hcur
        cases hcur)
    · have hch := (IC.out.mono (G := fun k => k = E ∨ B ≤ k ∨ w3.heap.size ≤ k) (fun k _ h => by rcases h with h | h; exact .inl h; exact .inr (.inl h))).then hp (G := fun k => k = Dd) (F := fun k => k = E ∨ B ≤ k ∨ w3.heap.size ≤ k) (fun k hk e => .inr (.inr (by rw [e]; exact hDd)))
      exact (L3.out.mono (Nat.le_of_eq HN.out.symm)).trans (hch.below (by omega) (fun k hk h => by rcases h with h | h | h <;> omega))
  case left => exact fun _ _ _ _ _ _ _ h _ => h.elim
#print axioms appendSeq_any
end Go.Proofs.Ytfjlkncliljjnaa
