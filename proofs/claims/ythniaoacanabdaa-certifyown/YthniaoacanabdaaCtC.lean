/-
  IndexFunc over records; certify's Clash and Stale: what the calls do.
-/
import Derived.Test.YthniaoacanabdaaCtW
namespace Go.Proofs.Ythniaoacanabdaa
open Go.RowKit
theorem wpList_build1E {α : Type} {E : Enc α} {ty T : TypeId} (hb : ∀ (x : α) (w : World), (Instr.buildSlice ty 1 #[(0, .agg (E.c x).toArray)]).run Try.prog w = .ok (.slice (some ⟨w.heap.size, 0, none⟩) 1 1) (w.alloc (.cells (E.c x).toArray T (0, 0))))
    {ops : Array Oper} {rest : List Oper} {o : Oper} {a : Act} {w : World} {Q : Exit → Act → World → Prop} (hgd : o.guard = none) (x : Operand) (ho : o.op = .buildSlice ty 1 #[(0, x)]) (p : α) (hx : a.eval x = .agg (E.c p).toArray)
    (h : wpList Try.prog ops Q rest (a.put o.dst (.slice (some ⟨w.heap.size, 0, none⟩) 1 1)) (w.alloc (.cells (E.c p).toArray T (0, 0)))) : wpList Try.prog ops Q (o :: rest) a w := by
  refine wpList_run hgd _ ?_ h
  simp only [execOp, ho, hx, List.map_toArray, List.map_cons, List.map_nil, Sem.run_bind, Sem.run_pure]
  exact congrArg (fun r => Result.andThen r _) (hb p w)
set_option maxHeartbeats 1000000 in
set_option maxRecDepth 100000 in
theorem indexR_any {w : World} {v vl : Value} {l : List Sp} {L : List Rc} (h : Tel w v l) (hr : RdR9 w vl L) :
    Calls Try.prog 32 #[vl, .func (.func 28) #[v] #[]] w fun e w' => e = .returned (.int .i64 (fstI (hitP l) L 0)) ∧ Below w.heap.size w w' := by
  have H1 := hide h
  have HR := hide hr
  obtain ⟨va, vn, vc, rfl⟩ := h.form
  obtain ⟨x, c, rfl⟩ := hr.rd.slice
  obtain ⟨n, HN⟩ : ∃ n, Hid (L.length = n) := ⟨_, rfl⟩
  rw [HN.out] at HR ⊢
  have hm := Nat.le_trans HR.out.rd.cap HR.out.rd.max
  obtain ⟨u, HU⟩ : ∃ u, Hid (fstI (hitP l) L 0 = u) := ⟨_, rfl⟩
  rw [HU.out]
  clear h hr
  go_enter Try.func32, Try.ntmps32
  go_wp2_with fail
  go_loopg [8] (n + 1) (fun g z wr => ∃ i : Nat, i ≤ n ∧ g + i = n + 1 ∧ z = .int .i64 (i : Int) ∧ Hid (∀ j (hj : j < L.length), j < i → hitP l L[j] = false) ∧ Hid (Below w.heap.size w wr))
  case atStart => exact ⟨0, Nat.zero_le _, by omega, rfl, (show ∀ j (hj : j < L.length), _ from fun j hj h => by omega), Below.refl _ _⟩
  case round =>
    obtain ⟨i, hi, hg, rfl, HT, BL⟩ := hrel
    by_cases hlt : i < n
    · have hlt2 : i < L.length := by rw [HN.out]; exact hlt
      have RB := HR.out.kept BL.out
      obtain ⟨bb, off, rfl, hb1, hx⟩ := RB.rd.nth (by omega)
      have hrow : wr.rangeAt bb (off + i * 5) (RC L[i]) := hx i hlt2
      have CO := hide (touchedBy_any (H1.out.kept BL.out) L[i] (RB.rs _ (List.getElem_mem hlt2)).ws)
      obtain ⟨p, HP⟩ : ∃ p, Hid (L[i] = p) := ⟨L[i], (show L[i] = L[i] from rfl)⟩
      rw [HP.out] at hrow CO
      obtain ⟨o, HO⟩ : ∃ o, Hid (hitP l p = o) := ⟨_, rfl⟩
      rw [HO.out] at CO
      have hlt' : (i : Int) < (n : Int) := by omega
      clear hx RB
      go_wp2_with (first
        | (refine wpList_load_mid rfl 25 _ rfl bb (off + i * 5) rfl (RC p) _ hrow Try.underlying25 rfl Try.size25 ?_)
        | fail)
      refine CO.out.mono ?_
      rintro e w2 ⟨rfl, hb2⟩
      have L2 : Hid (Below w.heap.size w w2) := (show _ from BL.out.trans (hb2.mono BL.out.size))
      clear hb2 CO hrow
      cases o with
      | false =>
        go_wp2_with fail
        go_roundg (n - i)
        case measure => omega
        case rel => exact ⟨i + 1, by omega, by omega, by go_num, (show ∀ j (hj : j < L.length), _ from fun j hj hji => by
          by_cases e : j = i
          · subst e
            rw [HP.out]
            exact HO.out
          · exact HT.out j hj (by omega)), L2⟩
      | true =>
        have hu : u = (i : Int) := by
          rw [← HU.out, fst_hit (f := hitP l) (k := i) hlt2 (by rw [HP.out]; exact HO.out) HT.out]
          simp
        subst hu
        go_wp2_with fail
        go_ret
        exact ⟨rfl, L2.out⟩
    · obtain rfl : i = n := by omega
      have hlt' : ¬ (i : Int) < i := by omega
      have hu : u = -1 := by
        rw [← HU.out]
        refine fst_none fun p hp => ?_
        obtain ⟨j, hj, e⟩ := List.getElem_of_mem hp
        rw [← e]
        exact HT.out j hj (by rw [← HN.out]; exact hj)
      subst hu
      go_wp2_with fail
      go_ret
      exact ⟨rfl, BL.out⟩
/-- A record as calls ask it: not too many reads and writes, no key too long. -/
structure KOk (r : Rc) : Prop where
  wl : r.ws.length ≤ 1000000
  rl : r.rs.length ≤ 1000000
  wk : ∀ p ∈ r.ws, p.1.size < 9223372036854775807
  rk : ∀ x ∈ r.rs, x.k.size < 9223372036854775807
set_option maxHeartbeats 2000000 in
set_option maxRecDepth 100000 in
theorem clashV_any {w : World} {r : Rc} {vl : Value} {L : List Rc} (hr : ROk w r) (hk : KOk r) (hl : RdR9 w vl L) : Calls Try.prog 18 #[.agg (RC r).toArray, vl] w fun e w' => e = .returned (.int .i64 (clashP r L)) ∧ Below w.heap.size w w' := by
  obtain ⟨la, lc, rfl⟩ := hl.rd.slice
  obtain ⟨ln, HLN⟩ : ∃ n, Hid (L.length = n) := ⟨_, rfl⟩
  rw [HLN.out] at hl ⊢
  obtain ⟨N, HN⟩ : ∃ N, Hid (w.heap.size = N) := ⟨_, rfl⟩
  obtain ⟨w1, hw1⟩ : ∃ y, y = w.alloc (.cells (RC r).toArray 25 (0, 0)) := ⟨_, rfl⟩
  obtain ⟨b1, l1⟩ := newB HN hw1
  have d9 := b1.out.rws
  have HL := hide (hl.kept l1.out)
  have HW := hide hw1
  obtain ⟨K, HK⟩ : ∃ K, Hid (r.ws = K) := ⟨_, rfl⟩
  have HR : Hid (RdG PE w1 (.slice r.wa r.ws.length r.wc) r.ws) := (show RdG _ _ _ _ from (hr.ws).kept l1.out)
  have HKK : Hid (∀ p ∈ r.ws, p.1.size < 9223372036854775807) := (show _ from hk.wk)
  have hn0 := hk.wl
  have HSP : Hid (clashP r L = fstI (hitP (r.ws.map (fun p : Pr => aloneP p.1))) L 0) := (show _ = _ from rfl)
  obtain ⟨u, HU⟩ : ∃ u, Hid (clashP r L = u) := ⟨_, rfl⟩
  rw [HU.out] at HSP ⊢
  unfold wv at d9
  rw [HK.out] at d9 HR HKK hn0 HSP
  obtain ⟨n, HNn⟩ : ∃ n, Hid (K.length = n) := ⟨_, rfl⟩
  rw [HNn.out] at d9 HR hn0
  obtain ⟨ya, HYA⟩ : ∃ y, Hid (r.wa = y) := ⟨_, rfl⟩
  obtain ⟨yc, HYC⟩ : ∃ y, Hid (r.wc = y) := ⟨_, rfl⟩
  rw [HYA.out, HYC.out] at d9 HR
  have hz := zeroS
  have hmf := mk_fn
  have hzp := zeroP
  clear hr hk hl hw1
  go_enter Try.func18, Try.ntmps18
  go_upto_region 1 with fail
  change Code.wp _ _ _ _ (w.alloc (.cells (RC r).toArray 25 (0, 0)))
  rw [← HW.out, HN.out]
  obtain ⟨M1, HM1⟩ : ∃ M1, Hid (w1.heap.size = M1) := ⟨_, rfl⟩
  have O0 : Hid (OwnG SE w1 M1 51 (.slice none 0 0) ((K.take 0).map (fun p : Pr => aloneP p.1))) := (show OwnG _ _ _ _ _ _ from ownG_nil _ _ _)
  have R0 : Hid (Below w1.heap.size w1 w1) := Below.refl _ _
  go_wp2_with fail
  go_loopg [5, 11] (n + 1) (fun g x z wr => ∃ (i : Nat) (a : Option Addr) (c : Nat), i ≤ n ∧ g + i = n + 1 ∧ x = .slice a i c ∧ z = .int .i64 (i : Int) ∧ Hid (OwnG SE wr M1 51 (.slice a i c) ((K.take i).map (fun p : Pr => aloneP p.1))) ∧ Hid (Below w1.heap.size w1 wr))
  case atStart => exact ⟨0, none, 0, Nat.zero_le _, by omega, rfl, rfl, O0, R0⟩
  case round =>
    clear O0 R0 b1
    obtain ⟨i, a, c, hi, hg, rfl, rfl, OR, LR⟩ := hrel
    have hNr : M1 ≤ wr.heap.size := by rw [← HM1.out]; exact LR.out.size
    by_cases hlt : i < n
    · have hlt2 : i < K.length := by rw [HNn.out]; exact hlt
      have hlt' : (i : Int) < (n : Int) := by omega
      obtain ⟨bb, off, rfl, hb1, hx⟩ := (HR.out.kept LR.out).nth (by omega)
      have hrow : wr.rangeAt bb (off + i * 3) (PC K[i]) := hx i hlt2
      have hk9 := HKK.out K[i] (List.getElem_mem hlt2)
      have HTK : Hid (K.take (i + 1) = K.take i ++ [K[i]]) := (show _ = _ from List.take_succ_eq_append_getElem hlt2)
      generalize K[i] = p at hrow hk9 HTK
      have HCA := hide (fun W => alone_any p.1 hk9 W)
      obtain ⟨s, HS⟩ : ∃ s, Hid (aloneP p.1 = s) := ⟨_, rfl⟩
      rw [HS.out] at HCA
      have hml : ((K.take i).map (fun p : Pr => aloneP p.1)).length = i := by rw [List.length_map, List.length_take]; omega
      obtain ⟨acc, HACC⟩ : ∃ acc, Hid ((K.take i).map (fun p : Pr => aloneP p.1) = acc) := ⟨_, rfl⟩
      rw [HACC.out] at OR hml
      have HL9 : Hid (acc.length + [s].length ≤ 10000000) := (show _ ≤ _ by rw [List.length_singleton]; omega)
      obtain ⟨E, HE⟩ : ∃ E, Hid (wr.heap.size = E) := ⟨_, rfl⟩
      obtain ⟨w2, hw2⟩ : ∃ y, y = wr.alloc (.cells (PC p).toArray 43 (0, 0)) := ⟨_, rfl⟩
      obtain ⟨b2, l2⟩ := newB HE hw2
      have d0 := b2.out.key
      have HW2 := hide hw2
      have HAC : Hid ((K.take (i + 1)).map (fun p : Pr => aloneP p.1) = acc ++ [s]) := (show _ = _ by rw [HTK.out, List.map_append, HACC.out, List.map_singleton, HS.out])
      clear hx hk9 hw2 hml HTK HACC
      go_wp2_with (first
        | (refine wpList_load_mid rfl 43 _ rfl bb (off + i * 3) rfl (PC p) _ hrow Try.underlying43 rfl Try.size43 ?_)
        | (refine wpList_store_new rfl 43 _ _ rfl wr _ (PC p).toArray _ rfl rfl rfl Try.size43 rfl (all_one (PC_one p)) ?_; rw [← HW2.out, HE.out])
        | (go_at_call 27; refine (HCA.out _).mono ?_; rintro e w3 ⟨rfl, hb3⟩; have l3 : Hid (Below wr.heap.size wr w3) := (show Below _ _ _ from l2.out.trans (hb3.mono l2.out.size)); have O3 := hide (OR.out.kept l3.out); have HL8 : Hid (M1 ≤ (w3.alloc (.cells (SC s).toArray 51 (0, 0))).heap.size) := (show _ ≤ _ by have := l3.out.size; simp; omega); clear hb3)
        | (refine wpList_build1E (E := SE) build_span1 rfl _ rfl s rfl ?_)
        | (refine wpList_append_E (E := SE) Try.underlying47 infoS (by decide) rfl (.tmp 15) (.tmp 19) rfl M1 (.slice a i c) acc rfl (O3.out.kept ((Below.refl _ _).alloc (Nat.le_refl _) _)) (.slice (some ⟨w3.heap.size, 0, none⟩) 1 1) [s] rfl (rdG_one (E := SE) w3 51 s) HL9.out HL8.out ?_; intro v9 w9 o9 g9 q9)
        | fail)
      obtain ⟨p9, c9, hv9⟩ := o9.form
      have hn9 : (acc ++ [s]).length = i + 1 := by rw [← HAC.out, List.length_map, List.length_take]; omega
      rw [hn9] at hv9
      subst hv9
      have O9 : Hid (OwnG SE w9 M1 51 (.slice p9 (i + 1) c9) ((K.take (i + 1)).map (fun p : Pr => aloneP p.1))) := (show OwnG _ _ _ _ _ _ by rw [HAC.out]; exact o9)
      have L9 : Hid (Below w1.heap.size w1 w9) := (show Below _ _ _ from by
        have hG : Chg (fun b => (Value.slice a i c).ownBlock = some b) w3 w9 := (Chg.alloc _ w3 (.cells (SC s).toArray 51 (0, 0))).trans (Chg.of_grown g9 (fun k e _ => e))
        have h3 : Below w1.heap.size w1 w3 := LR.out.trans (l3.out.mono LR.out.size)
        exact h3.trans (hG.below h3.size (fun k hk e => by have := (O3.out.block e).1; have := HM1.out; omega)))
      clear o9 g9 q9 hn9
      go_roundg (n - i)
      case measure => omega
      case rel => exact ⟨i + 1, p9, c9, by omega, by omega, rfl, by go_num, O9, L9⟩
    · obtain rfl : i = n := by omega
      have hlt' : ¬ (i : Int) < (i : Int) := by omega
      have hfull : K.take i = K := List.take_of_length_le (by rw [HNn.out]; exact Nat.le_refl _)
      rw [hfull] at OR
      obtain ⟨Sl, HSl⟩ : ∃ z, Hid (K.map (fun p : Pr => aloneP p.1) = z) := ⟨_, rfl⟩
      rw [HSl.out] at OR HSP
      have hsl : Sl.length = i := by rw [← HSl.out, List.length_map]; exact HNn.out
      have CI := hide (inOrder_any OR.out (by rw [hsl]; exact hn0))
      have HOB : Hid (∀ b, (Value.slice a i c).ownBlock = some b → M1 ≤ b) := (show _ from fun b e => (OR.out.block e).1)
      clear hfull hsl
      go_wp2_with (first
        | (go_at_call 26; refine CI.out.mono ?_; rintro e w3 ⟨rfl, t3, c3⟩; have T3 := hide t3; have l3 : Hid (Below w1.heap.size w1 w3) := (show Below _ _ _ from LR.out.trans (c3.below LR.out.size (fun k hk e => by have := HOB.out k e; have := HM1.out; omega))); clear t3 c3)
        | (go_at_call 32; refine (indexR_any T3.out (HL.out.kept l3.out)).mono ?_; rintro e w4 ⟨rfl, hb4⟩; rw [← HSP.out]; have l4 : Hid (Below w1.heap.size w1 w4) := (show Below _ _ _ from l3.out.trans (hb4.mono l3.out.size)); clear hb4)
        | fail)
      go_ret
      exact ⟨rfl, l1.out.trans (l4.out.mono l1.out.size)⟩
#print axioms clashV_any
set_option maxHeartbeats 2000000 in
set_option maxRecDepth 100000 in
theorem staleV_any {w : World} {r : Rc} {vl : Value} {L : List Rc} (hr : ROk w r) (hk : KOk r) (hl : RdR9 w vl L) : Calls Try.prog 20 #[.agg (RC r).toArray, vl] w fun e w' => e = .returned (.int .i64 (staleP r L)) ∧ Below w.heap.size w w' := by
  obtain ⟨la, lc, rfl⟩ := hl.rd.slice
  obtain ⟨ln, HLN⟩ : ∃ n, Hid (L.length = n) := ⟨_, rfl⟩
  rw [HLN.out] at hl ⊢
  obtain ⟨N, HN⟩ : ∃ N, Hid (w.heap.size = N) := ⟨_, rfl⟩
  obtain ⟨w1, hw1⟩ : ∃ y, y = w.alloc (.cells (RC r).toArray 25 (0, 0)) := ⟨_, rfl⟩
  obtain ⟨b1, l1⟩ := newB HN hw1
  have d9 := b1.out.rrs
  have HL := hide (hl.kept l1.out)
  have HW := hide hw1
  obtain ⟨K, HK⟩ : ∃ K, Hid (r.rs = K) := ⟨_, rfl⟩
  have HR : Hid (RdG XE w1 (.slice r.ra r.rs.length r.rc) r.rs) := (show RdG _ _ _ _ from (hr.rs.rd).kept l1.out)
  have HKK : Hid (∀ p ∈ r.rs, p.k.size < 9223372036854775807) := (show _ from hk.rk)
  have hn0 := hk.rl
  have HSP : Hid (staleP r L = fstI (hitP (r.rs.map (fun p : Rz => reachP p))) L 0) := (show _ = _ from rfl)
  obtain ⟨u, HU⟩ : ∃ u, Hid (staleP r L = u) := ⟨_, rfl⟩
  rw [HU.out] at HSP ⊢
  unfold rv at d9
  rw [HK.out] at d9 HR HKK hn0 HSP
  obtain ⟨n, HNn⟩ : ∃ n, Hid (K.length = n) := ⟨_, rfl⟩
  rw [HNn.out] at d9 HR hn0
  obtain ⟨ya, HYA⟩ : ∃ y, Hid (r.ra = y) := ⟨_, rfl⟩
  obtain ⟨yc, HYC⟩ : ∃ y, Hid (r.rc = y) := ⟨_, rfl⟩
  rw [HYA.out, HYC.out] at d9 HR
  have hz := zeroS
  have hmf := mk_fn
  have hzp := zeroX
  clear hr hk hl hw1
  go_enter Try.func20, Try.ntmps20
  go_upto_region 1 with fail
  change Code.wp _ _ _ _ (w.alloc (.cells (RC r).toArray 25 (0, 0)))
  rw [← HW.out, HN.out]
  obtain ⟨M1, HM1⟩ : ∃ M1, Hid (w1.heap.size = M1) := ⟨_, rfl⟩
  have O0 : Hid (OwnG SE w1 M1 51 (.slice none 0 0) ((K.take 0).map (fun p : Rz => reachP p))) := (show OwnG _ _ _ _ _ _ from ownG_nil _ _ _)
  have R0 : Hid (Below w1.heap.size w1 w1) := Below.refl _ _
  go_wp2_with fail
  go_loopg [5, 11] (n + 1) (fun g x z wr => ∃ (i : Nat) (a : Option Addr) (c : Nat), i ≤ n ∧ g + i = n + 1 ∧ x = .slice a i c ∧ z = .int .i64 (i : Int) ∧ Hid (OwnG SE wr M1 51 (.slice a i c) ((K.take i).map (fun p : Rz => reachP p))) ∧ Hid (Below w1.heap.size w1 wr))
  case atStart => exact ⟨0, none, 0, Nat.zero_le _, by omega, rfl, rfl, O0, R0⟩
  case round =>
    clear O0 R0 b1
    obtain ⟨i, a, c, hi, hg, rfl, rfl, OR, LR⟩ := hrel
    have hNr : M1 ≤ wr.heap.size := by rw [← HM1.out]; exact LR.out.size
    by_cases hlt : i < n
    · have hlt2 : i < K.length := by rw [HNn.out]; exact hlt
      have hlt' : (i : Int) < (n : Int) := by omega
      obtain ⟨bb, off, rfl, hb1, hx⟩ := (HR.out.kept LR.out).nth (by omega)
      have hrow : wr.rangeAt bb (off + i * 4) (XC K[i]) := hx i hlt2
      have hk9 := HKK.out K[i] (List.getElem_mem hlt2)
      have HTK : Hid (K.take (i + 1) = K.take i ++ [K[i]]) := (show _ = _ from List.take_succ_eq_append_getElem hlt2)
      generalize K[i] = p at hrow hk9 HTK
      have HCA := hide (fun W => reach_any p hk9 W)
      obtain ⟨s, HS⟩ : ∃ s, Hid (reachP p = s) := ⟨_, rfl⟩
      rw [HS.out] at HCA
      have hml : ((K.take i).map (fun p : Rz => reachP p)).length = i := by rw [List.length_map, List.length_take]; omega
      obtain ⟨acc, HACC⟩ : ∃ acc, Hid ((K.take i).map (fun p : Rz => reachP p) = acc) := ⟨_, rfl⟩
      rw [HACC.out] at OR hml
      have HL9 : Hid (acc.length + [s].length ≤ 10000000) := (show _ ≤ _ by rw [List.length_singleton]; omega)
      obtain ⟨E, HE⟩ : ∃ E, Hid (wr.heap.size = E) := ⟨_, rfl⟩
      obtain ⟨w2, hw2⟩ : ∃ y, y = wr.alloc (.cells (XC p).toArray 27 (0, 0)) := ⟨_, rfl⟩
      obtain ⟨b2, l2⟩ := newB HE hw2
      have HW2 := hide hw2
      have HAC : Hid ((K.take (i + 1)).map (fun p : Rz => reachP p) = acc ++ [s]) := (show _ = _ by rw [HTK.out, List.map_append, HACC.out, List.map_singleton, HS.out])
      clear hx hk9 hw2 hml HTK HACC
      go_wp2_with (first
        | (refine wpList_load_mid rfl 27 _ rfl bb (off + i * 4) rfl (XC p) _ hrow Try.underlying27 rfl Try.size27 ?_)
        | (refine wpList_store_new rfl 27 _ _ rfl wr _ (XC p).toArray _ rfl rfl rfl Try.size27 rfl (all_one (XC_one p)) ?_; rw [← HW2.out, HE.out])
        | (refine wpList_load_mid rfl 27 _ rfl E 0 rfl (XC p) _ b2.out.range0 Try.underlying27 rfl Try.size27 ?_)
        | (go_at_call 29; refine (HCA.out _).mono ?_; rintro e w3 ⟨rfl, hb3⟩; have l3 : Hid (Below wr.heap.size wr w3) := (show Below _ _ _ from l2.out.trans (hb3.mono l2.out.size)); have O3 := hide (OR.out.kept l3.out); have HL8 : Hid (M1 ≤ (w3.alloc (.cells (SC s).toArray 51 (0, 0))).heap.size) := (show _ ≤ _ by have := l3.out.size; simp; omega); clear hb3)
        | (refine wpList_build1E (E := SE) build_span1 rfl _ rfl s rfl ?_)
        | (refine wpList_append_E (E := SE) Try.underlying47 infoS (by decide) rfl (.tmp 15) (.tmp 18) rfl M1 (.slice a i c) acc rfl (O3.out.kept ((Below.refl _ _).alloc (Nat.le_refl _) _)) (.slice (some ⟨w3.heap.size, 0, none⟩) 1 1) [s] rfl (rdG_one (E := SE) w3 51 s) HL9.out HL8.out ?_; intro v9 w9 o9 g9 q9)
        | fail)
      obtain ⟨p9, c9, hv9⟩ := o9.form
      have hn9 : (acc ++ [s]).length = i + 1 := by rw [← HAC.out, List.length_map, List.length_take]; omega
      rw [hn9] at hv9
      subst hv9
      have O9 : Hid (OwnG SE w9 M1 51 (.slice p9 (i + 1) c9) ((K.take (i + 1)).map (fun p : Rz => reachP p))) := (show OwnG _ _ _ _ _ _ by rw [HAC.out]; exact o9)
      have L9 : Hid (Below w1.heap.size w1 w9) := (show Below _ _ _ from by
        have hG : Chg (fun b => (Value.slice a i c).ownBlock = some b) w3 w9 := (Chg.alloc _ w3 (.cells (SC s).toArray 51 (0, 0))).trans (Chg.of_grown g9 (fun k e _ => e))
        have h3 : Below w1.heap.size w1 w3 := LR.out.trans (l3.out.mono LR.out.size)
        exact h3.trans (hG.below h3.size (fun k hk e => by have := (O3.out.block e).1; have := HM1.out; omega)))
      clear o9 g9 q9 hn9
      go_roundg (n - i)
      case measure => omega
      case rel => exact ⟨i + 1, p9, c9, by omega, by omega, rfl, by go_num, O9, L9⟩
    · obtain rfl : i = n := by omega
      have hlt' : ¬ (i : Int) < (i : Int) := by omega
      have hfull : K.take i = K := List.take_of_length_le (by rw [HNn.out]; exact Nat.le_refl _)
      rw [hfull] at OR
      obtain ⟨Sl, HSl⟩ : ∃ z, Hid (K.map (fun p : Rz => reachP p) = z) := ⟨_, rfl⟩
      rw [HSl.out] at OR HSP
      have hsl : Sl.length = i := by rw [← HSl.out, List.length_map]; exact HNn.out
      have CI := hide (inOrder_any OR.out (by rw [hsl]; exact hn0))
      have HOB : Hid (∀ b, (Value.slice a i c).ownBlock = some b → M1 ≤ b) := (show _ from fun b e => (OR.out.block e).1)
      clear hfull hsl
      go_wp2_with (first
        | (go_at_call 26; refine CI.out.mono ?_; rintro e w3 ⟨rfl, t3, c3⟩; have T3 := hide t3; have l3 : Hid (Below w1.heap.size w1 w3) := (show Below _ _ _ from LR.out.trans (c3.below LR.out.size (fun k hk e => by have := HOB.out k e; have := HM1.out; omega))); clear t3 c3)
        | (go_at_call 32; refine (indexR_any T3.out (HL.out.kept l3.out)).mono ?_; rintro e w4 ⟨rfl, hb4⟩; rw [← HSP.out]; have l4 : Hid (Below w1.heap.size w1 w4) := (show Below _ _ _ from l3.out.trans (hb4.mono l3.out.size)); clear hb4)
        | fail)
      go_ret
      exact ⟨rfl, l1.out.trans (l4.out.mono l1.out.size)⟩
#print axioms staleV_any
end Go.Proofs.Ythniaoacanabdaa
