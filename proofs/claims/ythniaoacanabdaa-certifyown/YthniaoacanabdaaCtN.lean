/-
  slices.Clone over pairs; certify's Own: what the calls do.
-/
import Derived.Test.YthniaoacanabdaaCtK
import Derived.Test.YthniaoacanabdaaCtC
namespace Go.Proofs.Ythniaoacanabdaa
open Go.RowKit
theorem own_empty {α : Type} {E : Enc α} (w : World) (B : Nat) (T : TypeId) (hB : B ≤ w.heap.size) : OwnG E (w.alloc (.cells #[] T (0, 0))) B T (.slice (some ⟨w.heap.size, 0, none⟩) 0 0) [] :=
  OwnG.of_blk (L := []) (cap := 0) (cur := []) (Blk.new w T []) hB (by simp [Enc.cs]) (by simp) (by simp) (by simp [maxLen])
set_option maxHeartbeats 1000000 in
set_option maxRecDepth 100000 in
theorem cloneP_any {w : World} {v : Value} {l : List Pr} (h : RdG PE w v l) (hl : l.length ≤ 1000000) :
    Calls Try.prog 31 #[v] w fun e w' => ∃ v', e = .returned v' ∧ OwnG PE w' w.heap.size 43 v' l ∧ Below w.heap.size w w' := by
  have HR := hide h
  obtain ⟨a, cap, rfl, h1, h2, h3, h4⟩ := h
  clear h4
  have hq := fun W => Lib.run_eql_slice_nil (P := Try.prog) W 23 43 a l.length cap 0 0 Try.underlying23
  obtain ⟨n, HN⟩ : ∃ n, Hid (l.length = n) := ⟨_, rfl⟩
  rw [HN.out] at HR h1 hl hq ⊢
  go_enter Try.func31, Try.ntmps31
  cases a with
  | none =>
    have hc0 := h3 rfl
    have hl0 : l = [] := List.eq_nil_of_length_eq_zero (by rw [HN.out]; omega)
    obtain rfl : n = 0 := by omega
    subst hl0 hc0
    simp only [Option.isNone_none] at hq ⊢
    go_wp2
    go_ret
    exact ⟨_, rfl, ownG_nil _ _ _, Below.refl _ _⟩
  | some x =>
    simp only [Option.isNone_some] at hq
    have A1 : Hid (Below w.heap.size w (w.alloc (.cells #[] 43 (0, 0)))) := (Below.refl _ _).alloc (Nat.le_refl _) _
    have O1 : Hid (OwnG PE (w.alloc (.cells #[] 43 (0, 0))) w.heap.size 43 (.slice (some ⟨w.heap.size, 0, none⟩) 0 0) []) := own_empty w w.heap.size 43 (Nat.le_refl _)
    have R1 := hide (HR.out.kept A1.out)
    have hb1 : Hid (([] : List Pr).length + l.length ≤ 10000000) := (show 0 + l.length ≤ 10000000 by rw [HN.out]; omega)
    go_wp2_with (first
      | (refine wpList_append_E (E := PE) Try.underlying23 infoP9 (by decide) rfl (.tmp 5) (.tmp 6) rfl w.heap.size (.slice (some ⟨w.heap.size, 0, none⟩) 0 0) [] rfl O1.out _ l rfl R1.out hb1.out A1.out.size ?_; intro v9 w9 o9 g9 q9; have O9 := hide o9; have G9 := hide g9; clear o9 g9 q9; obtain ⟨p9, c9, hv9⟩ := O9.out.form; obtain ⟨n2, hn2⟩ : ∃ k, ([] ++ l : List Pr).length = k := ⟨_, rfl⟩; rw [hn2] at hv9; subst hv9)
      | fail)
    go_ret
    refine ⟨_, rfl, O9.out, A1.out.trans ((Chg.of_grown (F := fun k => k = w.heap.size) G9.out (fun k e _ => by simpa [Value.ownBlock] using e.symm)).below A1.out.size (fun k hk e => by omega))⟩
#print axioms cloneP_any
/-- What Own keeps: its own row, each read's pairs in rows of its own. -/
structure OwnR9 (w : World) (B : Nat) (v : Value) (Q : List Rz) : Prop where
  row : OwnG XE w B 27 v Q
  ps : ∀ y ∈ Q, OwnG PE w B 43 (xv y) y.ps
theorem OwnR9.kept {w w' : World} {B : Nat} {v : Value} {Q : List Rz} (h : OwnR9 w B v Q) (hb : Below w.heap.size w w') : OwnR9 w' B v Q := ⟨h.row.kept hb, fun y hy => (h.ps y hy).kept hb⟩
theorem OwnR9.rd {w : World} {B : Nat} {v : Value} {Q : List Rz} (h : OwnR9 w B v Q) : RdX w v Q := ⟨h.row.rd, fun y hy => (h.ps y hy).rd⟩
/-- A slice into a cell. -/
theorem wpList_store_sl {P : Program} {ops : Array Oper} {rest : List Oper} {o : Oper} {a : Act} {w : World} {Q : Exit → Act → World → Prop} (hgd : o.guard = none) (ty : TypeId) (hso : ∀ W, (sizeOf ty).run P W = .ok 1 W) (x y : Operand) (ho : o.op = .store ty x y) (b j : Nat) (T : TypeId) (cs : List Value) (p : Option Addr) (n c : Nat)
    (hx : a.eval x = .pointer (some ⟨b, j, none⟩)) (hy : a.eval y = .slice p n c) (hB : Blk w b T cs) (hj : j < cs.length) (h : ∀ w', Blk w' b T (cs.set j (.slice p n c)) → But b w w' → wpList P ops Q rest (a.put o.dst undef) w') : wpList P ops Q (o :: rest) a w := by
  have hc := hB.cell (j := j) (v := cs[j]) (List.getElem?_eq_getElem hj)
  have hf := hB.frozen j
  have hrun : (execOp a.eval o).run P w = .ok .skip (w.setCell ⟨b, j, none⟩ (.slice p n c)) := by
    simp only [execOp, ho, hx, hy]
    go_simp
  refine wpList_plain hgd fun K hK => ?_
  unfold Oper.wp
  rw [hrun]
  exact hK _ _ (h _ (hB.set j (.slice p n c)) (But.setCell b w j _))
theorem build_begin (s : Bool) (k : ByteArray) : ∀ W : World, (Instr.build 58 #[(0, .bool s), (1, .string k)]).run Try.prog W = .ok (.agg #[.bool s, .string k]) W := fun W => by kernel_rfl
theorem build_unit : ∀ W : World, (Instr.build 59 #[]).run Try.prog W = .ok (.agg #[]) W := fun W => by kernel_rfl
/-- What a round of Own leaves where a read is kept. -/
theorem own_round {w1 w6 w7 w8 w9 : World} {M E m c pl : Nat} {a p7 p9 : Option Addr} {c7 c9 : Nat} {acc : List Rz} {x y8 : Rz} {pre : List Rz}
    (h8 : OwnR9 w8 M (.slice a m c) acc) (h7 : OwnG PE w7 w6.heap.size 43 (.slice p7 pl c7) x.ps) (l7 : Below w6.heap.size w6 w7) (c8 : Chg (fun k => k = E) w7 w8) (hM6 : M ≤ w6.heap.size) (hE : E < w6.heap.size)
    (hy : (⟨x.sc, x.k, x.t, x.ps, p7, c7⟩ : Rz) = y8) (hpl : x.ps.length = pl) (o9 : OwnG XE w9 M 27 (.slice p9 (m + 1) c9) (acc ++ [y8])) (g9 : World.grownBy (w8.alloc (.cells (XE.c y8).toArray 27 (0, 0))) w9 (Value.slice a m c).ownBlock)
    (s6 : SetB w6 M pre) (hME : M < E) (l6 : Below w1.heap.size w1 w6) (hw1 : w1.heap.size ≤ M) :
    OwnR9 w9 M (.slice p9 (m + 1) c9) (acc ++ [y8]) ∧ SetB w9 M pre ∧ Below w1.heap.size w1 w9 := by
  have hG : Chg (fun k => (Value.slice a m c).ownBlock = some k) w8 w9 := (Chg.alloc _ w8 (.cells (XE.c y8).toArray 27 (0, 0))).trans (Chg.of_grown g9 (fun k e _ => e))
  have hne : ∀ {B : Nat} {v : Value} {L : List Pr}, OwnG PE w8 B 43 v L → ∀ b, v.ownBlock = some b → ¬ (Value.slice a m c).ownBlock = some b := fun h b hb e => by
    obtain ⟨_, _, cur, hcur⟩ := h.block hb
    obtain ⟨_, _, cur', hcur'⟩ := h8.row.block e
    rw [hcur] at hcur'
    simp at hcur'
  have h78 : OwnG PE w8 w6.heap.size 43 (.slice p7 pl c7) x.ps := h7.chg c8 (fun b hb e => by have := (h7.block hb).1; omega)
  have s8 : SetB w8 M pre := (s6.kept l7).chg c8 (by omega)
  refine ⟨⟨o9, fun y hy' => ?_⟩, s8.chg hG (fun e => ?_), ?_⟩
  · rcases List.mem_append.1 hy' with h | h
    · exact (h8.ps y h).chg hG (hne (h8.ps y h))
    · rw [List.mem_singleton] at h
      subst h
      subst hy
      show OwnG PE w9 M 43 (.slice p7 x.ps.length c7) x.ps
      rw [hpl]
      exact (h78.chg hG (hne h78)).mono hM6
  · obtain ⟨_, _, cur, hcur⟩ := h8.row.block e
    obtain ⟨es, cl, hm⟩ := s8.block
    rw [hm] at hcur
    cases hcur
  · have h16 := l6.size
    have h67 := l7.size
    have h78' := c8.size
    refine ((l6.trans (l7.mono h16)).trans (c8.below (by omega) (fun k hk e => by omega))).trans (hG.below (by omega) (fun k hk e => ?_))
    have := (h8.row.block e).1
    omega
set_option maxHeartbeats 8000000 in
set_option maxRecDepth 100000 in
theorem ownV_any {w : World} {r : Rc} (hr : ROk w r) (hk : ∀ x ∈ r.rs, x.k.size ≤ 140737488351232) (hl : r.rs.length ≤ 1000000) (hp : ∀ x ∈ r.rs, x.ps.length ≤ 1000000) : Calls Try.prog 16 #[.agg (RC r).toArray] w fun e w' => ∃ v Q, e = .returned v ∧ OwnR9 w' w.heap.size v Q ∧ Q.map plR = (ownP r.rs).map plR ∧ Below w.heap.size w w' := by
  obtain ⟨N, HN⟩ : ∃ N, Hid (w.heap.size = N) := ⟨_, rfl⟩
  obtain ⟨w1, hw1⟩ : ∃ y, y = w.alloc (.cells (RC r).toArray 25 (0, 0)) := ⟨_, rfl⟩
  obtain ⟨b1, l1⟩ := newB HN hw1
  have HW := hide hw1
  have HR1 := hide (hr.kept l1.out)
  have hN1 : N < w1.heap.size := b1.out.lt
  obtain ⟨M, HM⟩ : ∃ M, Hid (w1.heap.size = M) := ⟨_, rfl⟩
  obtain ⟨w2, hw2⟩ : ∃ y, y = w1.alloc (.map #[] 0) := ⟨_, rfl⟩
  have l2 : Hid (Below w1.heap.size w1 w2) := (show Below _ _ _ by rw [hw2]; exact (Below.refl _ _).alloc (Nat.le_refl _) _)
  have S2 : Hid (SetB w2 M []) := (show SetB _ _ _ by rw [hw2, ← HM.out]; exact SetB.made w1)
  have d9 := (b1.out.kept l2.out).rrs
  have HW2 := hide hw2
  have hmm := @run_makeMap Try.prog
  have hzx := zeroX
  have hzu := zeroU
  have hbb := build_begin
  have hbu := build_unit
  have RX : Hid (RdX w1 (.slice r.ra r.rs.length r.rc) r.rs) := (show RdX _ _ _ from HR1.out.rs)
  obtain ⟨K, HK⟩ : ∃ K, Hid (r.rs = K) := ⟨_, rfl⟩
  unfold rv at d9
  rw [HK.out] at d9 RX hk hl hp ⊢
  obtain ⟨n, HNn⟩ : ∃ n, Hid (K.length = n) := ⟨_, rfl⟩
  rw [HNn.out] at d9 RX hl
  obtain ⟨ra, HRA⟩ : ∃ y, Hid (r.ra = y) := ⟨_, rfl⟩
  obtain ⟨rc, HRC⟩ : ∃ y, Hid (r.rc = y) := ⟨_, rfl⟩
  rw [HRA.out, HRC.out] at d9 RX
  have HKK := hide hk
  have HPP := hide hp
  obtain ⟨T, HT⟩ : ∃ T, Hid (ownP K = T) := ⟨_, rfl⟩
  rw [HT.out, HN.out]
  have O0 : Hid (OwnR9 w2 M (.slice none 0 0) []) := (show OwnR9 _ _ _ _ from ⟨ownG_nil _ _ _, fun y hy => by cases hy⟩)
  have T0 : Hid (keptP [] (K.take 0) ∧ ownA [] (K.drop 0) = T) := (show _ ∧ _ from ⟨kept_nil, HT.out⟩)
  have L0 : Hid (Below w1.heap.size w1 w2) := l2
  clear hr hk hp hw1 hw2
  go_enter Try.func16, Try.ntmps16
  go_upto_region 1 with fail
  change Code.wp _ _ _ _ (w.alloc (.cells (RC r).toArray 25 (0, 0)))
  rw [← HW.out, HN.out]
  go_upto_region 2 with fail
  change Code.wp _ _ _ _ (w1.alloc (.map #[] 0))
  rw [← HW2.out, HM.out]
  go_upto_region 3 with fail
  go_wp2_with fail
  go_loopg [4, 14] (n + 1) (fun g x z wr => ∃ (i m : Nat) (acc P : List Rz) (a : Option Addr) (c : Nat), i ≤ n ∧ g + i = n + 1 ∧ x = .slice a m c ∧ z = .int .i64 (i : Int) ∧ m ≤ i ∧ Hid (acc.length = m) ∧ Hid (acc.map plR = P.map plR) ∧ Hid (keptP P (K.take i) ∧ ownA P (K.drop i) = T) ∧ Hid (SetB wr M (K.take i)) ∧ Hid (OwnR9 wr M (.slice a m c) acc) ∧ Hid (Below w1.heap.size w1 wr))
  case atStart => exact ⟨0, 0, [], [], none, 0, Nat.zero_le _, by omega, rfl, rfl, Nat.le_refl _, (show _ = _ from rfl), (show _ = _ from rfl), T0, S2, O0, L0⟩
  case round =>
    clear T0 S2 O0 L0 d9
    obtain ⟨i, m, acc, P, a, c, hi, hg, rfl, rfl, hmi, HML, HPL, HKT, SR, OR, LR⟩ := hrel
    by_cases hlt : i < n
    · have hlt2 : i < K.length := by rw [HNn.out]; exact hlt
      have hlt' : (i : Int) < (n : Int) := by omega
      have RB := RX.out.kept LR.out
      obtain ⟨bb, off, rfl, hb1, hx⟩ := RB.rd.nth (by omega)
      have hrow : wr.rangeAt bb (off + i * 4) (XC K[i]) := hx i hlt2
      have hpx := RB.ps _ (List.getElem_mem hlt2)
      have hkx := HKK.out _ (List.getElem_mem hlt2)
      have hpl := HPP.out _ (List.getElem_mem hlt2)
      have HTK : Hid (K.take (i + 1) = K.take i ++ [K[i]]) := (show _ = _ from List.take_succ_eq_append_getElem hlt2)
      have HDR : Hid (K.drop i = K[i] :: K.drop (i + 1)) := (show _ = _ from List.drop_eq_getElem_cons hlt2)
      obtain ⟨x, HXx⟩ : ∃ o, Hid (K[i] = o) := ⟨K[i], (show K[i] = K[i] from rfl)⟩
      rw [HXx.out] at hrow hpx hkx hpl HTK HDR
      obtain ⟨E, HE⟩ : ∃ E, Hid (wr.heap.size = E) := ⟨_, rfl⟩
      obtain ⟨w3, hw3⟩ : ∃ y, y = wr.alloc (.cells (XC x).toArray 27 (0, 0)) := ⟨_, rfl⟩
      obtain ⟨b3, l3⟩ := newB HE hw3
      have HW3 := hide hw3
      have e0 := b3.out.xsc
      have e1 := b3.out.xk
      obtain ⟨xs, HXs⟩ : ∃ z, Hid (x.sc = z) := ⟨_, rfl⟩
      obtain ⟨xk, HXk⟩ : ∃ z, Hid (x.k = z) := ⟨_, rfl⟩
      rw [HXs.out] at e0
      rw [HXk.out] at e1
      have hbb1 := build_begin xs xk
      obtain ⟨E4, HE4⟩ : ∃ E, Hid (w3.heap.size = E) := ⟨_, rfl⟩
      obtain ⟨w4, hw4⟩ : ∃ y, y = w3.alloc (.cells ([.bool xs, .string xk] : List Value).toArray 58 (0, 0)) := ⟨_, rfl⟩
      obtain ⟨b4, l4⟩ := newB HE4 hw4
      have HW4 := hide hw4
      clear hx hw3 hw4 RB
      go_upto_region 6 with (first
        | (refine wpList_load_mid rfl 27 _ rfl bb (off + i * 4) rfl (XC x) _ hrow Try.underlying27 rfl Try.size27 ?_)
        | (refine wpList_store_new rfl 27 _ _ rfl wr _ (XC x).toArray _ rfl rfl rfl Try.size27 rfl (all_one (XC_one x)) ?_; rw [← HW3.out, HE.out])
        | fail)
      clear hrow
      go_upto_region 7 with (first
        | (refine wpList_store_new rfl 58 _ _ rfl w3 _ #[.bool xs, .string xk] _ rfl rfl rfl (by kernel_rfl) rfl rfl ?_)
        | fail)
      change Code.wp _ _ _ _ (w3.alloc (.cells ([.bool xs, .string xk] : List Value).toArray 58 (0, 0)))
      rw [← HW4.out, HE4.out]
      have S4 := hide ((SR.out.kept l3.out).kept l4.out)
      obtain ⟨q, HQ⟩ : ∃ q, Hid (seenP (K.take i) x = q) := ⟨_, rfl⟩
      have hkm : x.k.size ≤ maxLen := by unfold maxLen; omega
      have hlk := S4.out.look x hkm
      rw [HXs.out, HXk.out, HQ.out] at hlk
      obtain ⟨E5, HE5⟩ : ∃ E, Hid (w4.heap.size = E) := ⟨_, rfl⟩
      obtain ⟨w5, hw5⟩ : ∃ y, y = w4.alloc (.cells ([] : List Value).toArray 59 (0, 0)) := ⟨_, rfl⟩
      obtain ⟨b5, l5⟩ := newB HE5 hw5
      have HW5 := hide hw5
      obtain ⟨w6, hup, S6, ht6⟩ := (S4.out.kept l5.out).put (by rw [List.length_take]; omega) x hkm
      rw [HXs.out, HXk.out] at hup
      have S6 := hide S6
      have C6 : Hid (Chg (fun k => k = M) w5 w6) := (show Chg _ _ _ from Chg.turned ht6 rfl)
      have B45 := hide (b4.out.kept l5.out)
      clear hw5 ht6
      go_upto_region 8 with (first
        | (refine wpList_load_mid rfl 58 _ rfl E4 0 rfl [.bool xs, .string xk] _ b4.out.range0 Try.underlying58 rfl (by kernel_rfl) ?_)
        | (refine wpList_store_new rfl 59 _ _ rfl w4 _ #[] _ rfl rfl rfl (by kernel_rfl) rfl rfl ?_)
        | fail)
      change Code.wp _ _ _ _ (w4.alloc (.cells ([] : List Value).toArray 59 (0, 0)))
      rw [← HW5.out, HE5.out]
      go_upto_region 9 with (first
        | (refine wpList_load_mid rfl 58 _ rfl E4 0 rfl [.bool xs, .string xk] _ B45.out.range0 Try.underlying58 rfl (by kernel_rfl) ?_)
        | fail)
      have hME : M < E := by have h1 := HM.out; have h2 := LR.out.size; have h3 := HE.out; obtain ⟨es, cl, hb⟩ := SR.out.block; have := (Array.getElem?_eq_some_iff.1 hb).1; omega
      have hE34 : E < w5.heap.size := (b3.out.kept (l4.out.trans (l5.out.mono l4.out.size))).lt
      have l35 : Hid (Below wr.heap.size wr w5) := (show Below _ _ _ from (l3.out.trans (l4.out.mono l3.out.size)).trans (l5.out.mono (by have := l3.out.size; have := l4.out.size; omega)))
      have B6 : Hid (Blk w6 E 27 (XC x)) := (show Blk _ _ _ _ from (b3.out.kept (l4.out.trans (l5.out.mono l4.out.size))).chg C6.out (by omega))
      have hnM : ∀ {B : Nat} {T : TypeId} {v : Value} {α : Type} {EE : Enc α} {L : List α}, OwnG EE w5 B T v L → ∀ b, v.ownBlock = some b → ¬ b = M := fun h b hb e => by
        obtain ⟨_, _, cur, hcur⟩ := h.block hb
        obtain ⟨es, cl, hm⟩ := (S4.out.kept l5.out).block
        rw [e] at hcur
        rw [hm] at hcur
        cases hcur
      have HOE : Hid (∀ b, (Value.slice a m c).ownBlock = some b → b < E) := (show _ from fun b hb => by rw [← HE.out]; exact (OR.out.row.block hb).2.1)
      have HPE : Hid (∀ y ∈ acc, ∀ b, (xv y).ownBlock = some b → b < E) := (show _ from fun y hy b hb => by rw [← HE.out]; exact ((OR.out.ps y hy).block hb).2.1)
      have O5 := OR.out.kept l35.out
      have O6 : Hid (OwnR9 w6 M (.slice a m c) acc) := (show OwnR9 _ _ _ _ from ⟨O5.row.chg C6.out (hnM O5.row), fun y hy => (O5.ps y hy).chg C6.out (hnM (O5.ps y hy))⟩)
      have hs56 := C6.out.size
      have hs15 : w1.heap.size ≤ w5.heap.size := by have := LR.out.size; have := l35.out.size; omega
      have L6 : Hid (Below w1.heap.size w1 w6) := (show Below _ _ _ from (LR.out.trans (l35.out.mono LR.out.size)).trans (C6.out.below hs15 (fun k hk e => by have := HM.out; omega)))
      have PX : Hid (RdG PE w6 (xv x) x.ps) := (show RdG _ _ _ _ from (RdG.kept hpx l35.out).chg C6.out (fun b hb e => by
        obtain ⟨off, n9, cap9, h9, hn9⟩ := hb
        have hh := RdG.kept hpx l35.out
        obtain ⟨a8, cap8, h8, g1, g2, g3, g4⟩ := hh
        rw [h8] at h9
        simp only [Value.slice.injEq] at h9
        obtain ⟨rfl, rfl, rfl⟩ := h9
        obtain ⟨b7, off7, h7, hlt7, hc7⟩ := g4 hn9
        simp only [Option.some.injEq, Addr.mk.injEq, and_true] at h7
        obtain ⟨rfl, rfl⟩ := h7
        obtain ⟨es, cl, hm⟩ := (S4.out.kept l5.out).block
        rw [← e] at hm
        obtain ⟨p0, t0, hp0⟩ : ∃ p t, x.ps = p :: t := by
          cases hh9 : x.ps with
          | nil => rw [hh9] at hn9; simp at hn9
          | cons p t => exact ⟨p, t, rfl⟩
        have h0 := hc7 0 (.string p0.1) (by rw [hp0]; rfl)
        simp [World.cell?, hm] at h0))
      have e6 := B6.out.xsc
      have c6 := B6.out.xp
      rw [HXs.out] at e6
      have HAG : Hid (again P x = (q && !xs)) := (show _ = _ by rw [kept_again HKT.out.1, HQ.out, HXs.out])
      have HKTT := HKT.out.2
      rw [HDR.out] at HKTT
      have HKT2 : Hid ((if again P x = true then ownA P (K.drop (i + 1)) else ownA (P ++ [x]) (K.drop (i + 1))) = T) := (show _ = _ from HKTT)
      have S6' : Hid (SetB w6 M (K.take (i + 1))) := (show SetB _ _ _ by rw [HTK.out]; exact S6.out)
      clear hlk hup hnM O5 hpx S6 S4 SR OR B45 HKTT
      by_cases hag : (q && !xs) = true
      · have hq : q = true := by cases q; cases hag; rfl
        have hxs : xs = false := by rw [hq] at hag; cases xs; rfl; cases hag
        subst hq
        subst hxs
        have T6 : Hid (keptP P (K.take (i + 1)) ∧ ownA P (K.drop (i + 1)) = T) := (show _ ∧ _ by
          have h1 : again P x = true := by rw [HAG.out]; rfl
          refine ⟨by rw [HTK.out]; exact kept_skip HKT.out.1 h1, ?_⟩
          have := HKT2.out
          rwa [if_pos h1] at this)
        clear hag
        go_wp2_with fail
        go_roundg (n - i)
        case measure => omega
        case rel => exact ⟨i + 1, m, acc, P, a, c, by omega, by omega, rfl, by go_num, by omega, HML, HPL, T6, S6', O6, L6⟩
      · have hag' : (q && !xs) = false := by simpa using hag
        have T6 : Hid (keptP (P ++ [x]) (K.take (i + 1)) ∧ ownA (P ++ [x]) (K.drop (i + 1)) = T) := (show _ ∧ _ by
          have h1 : ¬ again P x = true := by rw [HAG.out]; exact hag
          refine ⟨by rw [HTK.out]; exact kept_more HKT.out.1 x, ?_⟩
          have := HKT2.out
          rwa [if_neg h1] at this)
        have CL := hide (fun W (hW : Below w6.heap.size w6 W) => cloneP_any (PX.out.kept hW) hpl)
        obtain ⟨ha, HHA⟩ : ∃ z, Hid (x.ha = z) := ⟨_, rfl⟩
        obtain ⟨hc, HHC⟩ : ∃ z, Hid (x.hc = z) := ⟨_, rfl⟩
        obtain ⟨pl, HPl⟩ : ∃ z, Hid (x.ps.length = z) := ⟨_, rfl⟩
        unfold xv at c6 CL
        rw [HHA.out, HHC.out, HPl.out] at c6 CL
        have G6 : Hid (w1.heap.size ≤ w6.heap.size) := L6.out.size
        have hEM : E < w6.heap.size := by omega
        have hax : ¬ (q = true ∧ xs = false) := fun ⟨h1, h2⟩ => by rw [h1, h2] at hag'; cases hag'
        clear hag hag'
        have HSZ := Try.sizeOf23
        have HXC : Hid (∀ (p : Option Addr) (c : Nat), (XC x).set 3 (.slice p pl c) = XC ⟨x.sc, x.k, x.t, x.ps, p, c⟩) := (show _ from fun p c => by rw [← HPl.out]; rfl)
        have HL9 : Hid (∀ y : Rz, acc.length + [y].length ≤ 10000000) := (show _ from fun y => by rw [List.length_singleton, HML.out]; omega)
        rcases q with _ | _ <;> rcases xs with _ | _ <;> first | exact absurd ⟨rfl, rfl⟩ hax | skip
        all_goals
          go_upto_region 10 with fail
          go_wp2_with (first
            | (go_at_call 31; refine (CL.out _ (Below.refl _ _)).mono ?_; rintro e w7 ⟨v7, rfl, o7, hb7⟩; obtain ⟨p7, c7, hv7⟩ := o7.form; rw [HPl.out] at hv7; subst hv7; have O7 := hide o7; have L7 := hide hb7; have B7 := hide (B6.out.kept hb7); clear o7 hb7)
            | (refine wpList_store_sl rfl 23 HSZ _ _ rfl E 3 27 (XC x) p7 pl c7 rfl rfl B7.out (by show 3 < 4; omega) ?_; intro w8 hb8 hu8; rw [HXC.out] at hb8; obtain ⟨y8, HY8⟩ : ∃ y8 : Rz, Hid ((⟨x.sc, x.k, x.t, x.ps, p7, c7⟩ : Rz) = y8) := ⟨_, rfl⟩; rw [HY8.out] at hb8; have B8 := hide hb8; have C8 : Hid (Chg (fun k => k = E) w7 w8) := (show Chg _ _ _ from Chg.of_but hu8 rfl); clear hb8 hu8; have O8 : Hid (OwnR9 w8 M (.slice a m c) acc) := (show OwnR9 _ _ _ _ from ⟨(O6.out.row.kept L7.out).chg C8.out (fun b hb e => by have := HOE.out b hb; omega), fun y hy => ((O6.out.ps y hy).kept L7.out).chg C8.out (fun b hb e => by have := HPE.out y hy b hb; omega)⟩); have HL8 : Hid (M ≤ (w8.alloc (.cells (XE.c y8).toArray 27 (0, 0))).heap.size) := (show _ ≤ _ by have h1 := L7.out.size; have h2 := C8.out.size; simp; omega))
            | (refine wpList_load_mid rfl 27 _ rfl E 0 rfl (XC y8) _ B8.out.range0 Try.underlying27 rfl Try.size27 ?_)
            | (refine wpList_build1E (E := XE) build_read1 rfl _ rfl y8 rfl ?_)
            | (refine wpList_append_E (E := XE) Try.underlying22 infoX (by decide) rfl (.tmp 42) (.tmp 44) rfl M (.slice a m c) acc rfl (O8.out.row.kept ((Below.refl _ _).alloc (Nat.le_refl _) _)) (.slice (some ⟨w8.heap.size, 0, none⟩) 1 1) [y8] rfl (rdG_one (E := XE) w8 27 y8) (HL9.out y8) HL8.out ?_; intro v9 w9 o9 g9 q9)
            | fail)
          obtain ⟨p9, c9, hv9⟩ := o9.form
          have hn9 : (acc ++ [y8]).length = m + 1 := by rw [List.length_append, List.length_singleton, HML.out]
          rw [hn9] at hv9
          subst hv9
          have hfin := own_round O8.out (O7.out) L7.out C8.out (by omega) hEM HY8.out HPl.out o9 g9 S6'.out hME L6.out (by have := HM.out; omega)
          obtain ⟨f1, f2, f3⟩ := hfin
          have O9 := hide f1
          have S9 := hide f2
          have L9 := hide f3
          have HM9 := hide hn9
          have HP9 : Hid ((acc ++ [y8]).map plR = (P ++ [x]).map plR) := (show _ = _ by rw [List.map_append, List.map_append, HPL.out, ← HY8.out]; rfl)
          clear o9 g9 q9 f1 f2 f3 hn9
          go_roundg (n - i)
          case measure => omega
          case rel => exact ⟨i + 1, m + 1, acc ++ [y8], P ++ [x], p9, c9, by omega, by omega, rfl, by go_num, by omega, HM9, HP9, T6, S9, O9, L9⟩
    · obtain rfl : i = n := by omega
      have hlt' : ¬ (i : Int) < i := by omega
      have HE : Hid (acc.map plR = T.map plR) := (show _ = _ by
        have := HKT.out.2
        rw [List.drop_of_length_le (by rw [HNn.out]; exact Nat.le_refl _)] at this
        rw [HPL.out, ← this]
        rfl)
      go_wp2_with fail
      go_ret
      have hNM : N ≤ M := by have h1 := HM.out; omega
      exact ⟨_, rfl, acc, ⟨OR.out.row.mono hNM, fun y hy => (OR.out.ps y hy).mono hNM⟩, HE.out, by have h9 := l1.out.trans (LR.out.mono l1.out.size); rw [HN.out] at h9; exact h9⟩
#print axioms ownV_any
end Go.Proofs.Ythniaoacanabdaa
