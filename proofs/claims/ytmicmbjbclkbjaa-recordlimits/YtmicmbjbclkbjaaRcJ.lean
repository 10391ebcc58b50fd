/-
  What a record may be: isNoRead, keysApart, areReads, areWrites: what the calls do.
-/
import Derived.Test.YtmicmbjbclkbjaaRcI
import Derived.Test.YtmicmbjbclkbjaaCtL
import Derived.Maps.OwnSet
namespace Go.Proofs.Ytmicmbjbclkbjaa
open Go.RowKit
/-- Is there a read of that key? -/
def seenK (R : List Rp) (k : ByteArray) : Bool := R.any fun x => !x.1 && (x.2.1.toList == k.toList)
theorem seenK_snoc (R : List Rp) (x : Rp) (k : ByteArray) : seenK (R ++ [x]) k = (seenK R k || (!x.1 && (x.2.1.toList == k.toList))) := by
  simp [seenK]
/-- Block M is the set of the keys that were read. -/
def SetS (w : World) (M : Nat) (R : List Rp) : Prop :=
  ∃ (D : DataW Unit) (n : Nat), w.ownsMap Try.prog 9 unitElem M n D ∧ n ≤ R.length ∧ ∀ k : ByteArray, Maps.has D (kS k) = seenK R k
theorem SetS.made (w : World) : SetS (w.alloc (.map #[] 0)) w.heap.size [] := ⟨.map [], 0, World.ownsMap_made w _ _ _, Nat.le_refl _, fun _ => rfl⟩
theorem SetS.chg {w w' : World} {M : Nat} {R : List Rp} (h : SetS w M R) {F : Nat → Prop} (hc : Chg F w w') (hF : ¬ F M) : SetS w' M R := by
  obtain ⟨D, n, ⟨es, clock, hb, r⟩, h2⟩ := h
  exact ⟨D, n, ⟨es, clock, (hc.block M (Array.getElem?_eq_some_iff.1 hb).1 hF).trans hb, r⟩, h2⟩
theorem SetS.block {w : World} {M : Nat} {R : List Rp} (h : SetS w M R) : ∃ es clock, w.heap[M]? = some (.map es clock) := by
  obtain ⟨D, n, ⟨es, clock, hb, r⟩, h2⟩ := h
  exact ⟨es, clock, hb⟩
theorem SetS.lt {w : World} {M : Nat} {R : List Rp} (h : SetS w M R) : M < w.heap.size := by
  obtain ⟨es, clock, hb⟩ := h.block
  exact (Array.getElem?_eq_some_iff.1 hb).1
theorem zeroU (W : World) : (zeroValue 100).run Try.prog W = .ok (.agg #[]) W := by kernel_rfl
theorem SetS.look {w : World} {M : Nat} {R : List Rp} (h : SetS w M R) (k : ByteArray) (hk : k.size ≤ maxLen) :
    (Instr.lookup 99 (.map (some M)) (.string k) true).run Try.prog w = .ok (.tuple #[.agg #[], .bool (seenK R k)]) w := by
  obtain ⟨D, n, h1, h2, h3⟩ := h
  obtain ⟨v, ps, hrun, hv⟩ := h1.look_ok (t := 99) (e := 100) keyed9 Try.underlying99 (zeroU w) unitElem_mk (key := .string k) (kl := kS k) (Go.WideMaps.keyOf_string_mk Try.underlying9 hk)
  obtain ⟨rfl, _⟩ := unitElem_inv hv
  rw [hrun, h3 k]
theorem SetS.put {w : World} {M : Nat} {R : List Rp} (h : SetS w M R) (hN : R.length ≤ 1000000) (k : ByteArray) (hk : k.size ≤ maxLen) (ps : List Pr) :
    ∃ w', (Instr.mapUpdate 99 (.map (some M)) (.string k) (.agg #[])).run Try.prog w = .ok () w' ∧ SetS w' M (R ++ [(false, k, em, ps)]) ∧ w.mapTurned w' M := by
  obtain ⟨D, n, h1, h2, h3⟩ := h
  obtain ⟨w', hrun, ho, ht⟩ := h1.store (t := 99) (e := 100) keyed9 Try.underlying99 (by unfold maxLen; omega) (key := .string k) (kl := kS k) (Go.WideMaps.keyOf_string_mk Try.underlying9 hk) unitElem_mk
  have htd := h1.tidy keyed9
  refine ⟨w', hrun, ⟨D.put (kS k) (.agg []), n + 1, ho, by rw [List.length_append, List.length_singleton]; omega, fun j => ?_⟩, ht⟩
  rw [seenK_snoc]
  by_cases e : k = j
  · subst e
    rw [Maps.has_put_same htd.isMap (kS_key _)]
    simp
  · rw [Maps.has_put_other (kS_ne (fun h => e h.symm)), h3 j]
    have : (k.toList == j.toList) = false := by
      rw [Bool.eq_false_iff]
      intro h9
      rw [beq_iff_eq] at h9
      exact e (ba_inj.1 h9)
    simp [this]
theorem SetS.scan {w : World} {M : Nat} {R : List Rp} (h : SetS w M R) (a b : ByteArray) (ps : List Pr) : SetS w M (R ++ [(true, a, b, ps)]) := by
  obtain ⟨D, n, h1, h2, h3⟩ := h
  exact ⟨D, n, h1, by rw [List.length_append]; omega, fun k => by rw [h3 k, seenK_snoc]; simp⟩
set_option maxHeartbeats 2000000 in
set_option maxRecDepth 100000 in
theorem isNoRead_any {w : World} {x : Rz} (hr : XOk w x) : Calls Try.prog 61 #[.agg (XC x).toArray] w fun e w' => e = .returned (.bool (noRd (plR x))) ∧ Below w.heap.size w w' := by
  obtain ⟨N, HN⟩ : ∃ N, Hid (w.heap.size = N) := ⟨_, rfl⟩
  obtain ⟨w1, hw1⟩ : ∃ y, y = w.alloc (.cells (XC x).toArray 39 (0, 0)) := ⟨_, rfl⟩
  obtain ⟨b1, l1⟩ := newB HN hw1
  have HW := hide hw1
  have d0 := b1.out.xsc
  have d1 := b1.out.xk
  have d2 := b1.out.xt
  have d3 := b1.out.xp
  have mf := mk_fn
  have HND : Hid (noRd (plR x) = if x.sc = true then decide (64 < x.k.size) || (decide (64 < x.t.size) || !thereP (plR x) 200) else decide (x.k.size < 1) || (decide (64 < x.k.size) || (!x.t.toList.isEmpty || !thereP (plR x) 1))) := (show _ = _ from rfl)
  obtain ⟨u, HU⟩ : ∃ u, Hid (noRd (plR x) = u) := ⟨_, rfl⟩
  rw [HU.out] at HND ⊢
  obtain ⟨xs, HXs⟩ : ∃ z, x.sc = z := ⟨_, rfl⟩
  have CW := fun m => wereThere_any b1.out (RdG.kept hr l1.out) m
  rw [HXs] at CW d0 HND
  obtain ⟨ks, HKS⟩ : ∃ z, Hid (x.k.size = z) := ⟨_, rfl⟩
  obtain ⟨ts, HTS⟩ : ∃ z, Hid (x.t.size = z) := ⟨_, rfl⟩
  have r1 := len_run x.k ks HKS.out
  have r2 := len_run x.t ts HTS.out
  rw [HKS.out, HTS.out] at HND
  obtain ⟨xk, HXk⟩ : ∃ z, Hid (x.k = z) := ⟨_, rfl⟩
  obtain ⟨xt, HXt⟩ : ∃ z, Hid (x.t = z) := ⟨_, rfl⟩
  rw [HXk.out] at d1 r1
  rw [HXt.out] at d2 r2 HND
  unfold xv at d3 CW
  obtain ⟨n, Hn⟩ : ∃ z, Hid (x.ps.length = z) := ⟨_, rfl⟩
  rw [Hn.out] at d3 CW
  cases xs with
  | true =>
    have CS : Hid (Calls Try.prog 74 #[.slice x.ha n x.hc, .int .i64 200, .func (.func 73) #[] #[PT N]] w1 fun e w' => e = .returned (.bool (thereP (plR x) 200)) ∧ Below w1.heap.size w1 w') := (show Calls _ _ _ _ _ from CW 200)
    obtain ⟨q, HQ⟩ : ∃ z, Hid (thereP (plR x) 200 = z) := ⟨_, rfl⟩
    rw [HQ.out] at CS HND
    clear CW hr hw1 HXs
    by_cases h1 : 64 < ks
    · have q1 : decide ((64 : Int) < (ks : Int)) = true := by simp; omega
      go_enter Try.func61, Try.ntmps61
      go_upto_region 1 with fail
      change Code.wp _ _ _ _ (w.alloc (.cells (XC x).toArray 39 (0, 0)))
      rw [← HW.out, HN.out]
      go_wp2_with fail
      go_ret
      exact ⟨by rw [HND.out]; simp [h1], l1.out⟩
    · have q1 : decide ((64 : Int) < (ks : Int)) = false := by simp; omega
      by_cases h2 : 64 < ts
      · have q2 : decide ((64 : Int) < (ts : Int)) = true := by simp; omega
        go_enter Try.func61, Try.ntmps61
        go_upto_region 1 with fail
        change Code.wp _ _ _ _ (w.alloc (.cells (XC x).toArray 39 (0, 0)))
        rw [← HW.out, HN.out]
        go_wp2_with fail
        go_ret
        exact ⟨by rw [HND.out]; simp [h1, h2], l1.out⟩
      · have q2 : decide ((64 : Int) < (ts : Int)) = false := by simp; omega
        go_enter Try.func61, Try.ntmps61
        go_upto_region 1 with fail
        change Code.wp _ _ _ _ (w.alloc (.cells (XC x).toArray 39 (0, 0)))
        rw [← HW.out, HN.out]
        go_wp2_with fail
        refine CS.out.mono ?_
        rintro e w2 ⟨rfl, hb2⟩
        have L2 : Hid (Below w.heap.size w w2) := (show Below _ _ _ from l1.out.trans (hb2.mono l1.out.size))
        clear hb2 CS
        go_wp2_with fail
        go_ret
        exact ⟨by rw [HND.out]; simp [h1, h2], L2.out⟩
  | false =>
    have CS : Hid (Calls Try.prog 74 #[.slice x.ha n x.hc, .int .i64 1, .func (.func 75) #[] #[PT N]] w1 fun e w' => e = .returned (.bool (thereP (plR x) 1)) ∧ Below w1.heap.size w1 w') := (show Calls _ _ _ _ _ from CW 1)
    obtain ⟨q, HQ⟩ : ∃ z, Hid (thereP (plR x) 1 = z) := ⟨_, rfl⟩
    rw [HQ.out] at CS HND
    clear CW hr hw1 HXs
    by_cases h0 : ks < 1
    · have q0 : decide ((ks : Int) < 1) = true := by simp; omega
      go_enter Try.func61, Try.ntmps61
      go_upto_region 1 with fail
      change Code.wp _ _ _ _ (w.alloc (.cells (XC x).toArray 39 (0, 0)))
      rw [← HW.out, HN.out]
      go_wp2_with fail
      go_ret
      exact ⟨by rw [HND.out]; simp [h0], l1.out⟩
    · have q0 : decide ((ks : Int) < 1) = false := by simp; omega
      by_cases h1 : 64 < ks
      · have q1 : decide ((64 : Int) < (ks : Int)) = true := by simp; omega
        go_enter Try.func61, Try.ntmps61
        go_upto_region 1 with fail
        change Code.wp _ _ _ _ (w.alloc (.cells (XC x).toArray 39 (0, 0)))
        rw [← HW.out, HN.out]
        go_wp2_with fail
        go_ret
        exact ⟨by rw [HND.out]; simp [h0, h1], l1.out⟩
      · have q1 : decide ((64 : Int) < (ks : Int)) = false := by simp; omega
        cases h2 : xt.toList.isEmpty with
        | false =>
          have HH := hide h2
          go_enter Try.func61, Try.ntmps61
          go_upto_region 1 with fail
          change Code.wp _ _ _ _ (w.alloc (.cells (XC x).toArray 39 (0, 0)))
          rw [← HW.out, HN.out]
          go_wp2_with fail
          go_ret
          exact ⟨by rw [HND.out, HH.out]; simp [h0, h1], l1.out⟩
        | true =>
          have HH := hide h2
          go_enter Try.func61, Try.ntmps61
          go_upto_region 1 with fail
          change Code.wp _ _ _ _ (w.alloc (.cells (XC x).toArray 39 (0, 0)))
          rw [← HW.out, HN.out]
          go_wp2_with fail
          refine CS.out.mono ?_
          rintro e w2 ⟨rfl, hb2⟩
          have L2 : Hid (Below w.heap.size w w2) := (show Below _ _ _ from l1.out.trans (hb2.mono l1.out.size))
          clear hb2 CS
          go_wp2_with fail
          go_ret
          exact ⟨by rw [HND.out, HH.out]; simp [h0, h1], L2.out⟩
#print axioms isNoRead_any
set_option maxHeartbeats 1000000 in
set_option maxRecDepth 100000 in
theorem indexN_any {w : World} {vp : Value} {L : List Rz} (h : RdX w vp L) :
    Calls Try.prog 72 #[vp, .func (.func 61) #[] #[]] w fun e w' => e = .returned (.int .i64 (fstI (fun y => noRd (plR y)) L 0)) ∧ Below w.heap.size w w' := by
  have HX := hide h
  have HR := hide h.rd
  have hr := h.rd
  obtain ⟨x, c, rfl⟩ := hr.slice
  obtain ⟨n, HN⟩ : ∃ n, Hid (L.length = n) := ⟨_, rfl⟩
  rw [HN.out] at HR ⊢
  have hm := Nat.le_trans HR.out.cap HR.out.max
  obtain ⟨f, HF⟩ : ∃ f : Rz → Bool, Hid ((fun y => noRd (plR y)) = f) := ⟨_, rfl⟩
  have HF' : Hid (∀ p : Rz, noRd (plR p) = f p) := (show _ from fun p => by rw [← HF.out])
  rw [HF.out]
  obtain ⟨u, HU⟩ : ∃ u, Hid (fstI f L 0 = u) := ⟨_, rfl⟩
  rw [HU.out]
  clear h hr
  go_enter Try.func72, Try.ntmps72
  go_wp2_with fail
  go_loopg [8] (n + 1) (fun g z wr => ∃ i : Nat, i ≤ n ∧ g + i = n + 1 ∧ z = .int .i64 (i : Int) ∧ Hid (∀ j (hj : j < L.length), j < i → f L[j] = false) ∧ Hid (Below w.heap.size w wr))
  case atStart => exact ⟨0, Nat.zero_le _, by omega, rfl, (show ∀ j (hj : j < L.length), _ from fun j hj h => by omega), Below.refl _ _⟩
  case round =>
    obtain ⟨i, hi, hg, rfl, HT, BL⟩ := hrel
    by_cases hlt : i < n
    · have hlt2 : i < L.length := by rw [HN.out]; exact hlt
      obtain ⟨bb, off, rfl, hb1, hx⟩ := (HR.out.kept BL.out).nth (by omega)
      have hrow : wr.rangeAt bb (off + i * 4) (XC L[i]) := hx i hlt2
      have CO := hide (isNoRead_any ((HX.out.kept BL.out).ps L[i] (List.getElem_mem hlt2)))
      rw [HF'.out] at CO
      obtain ⟨p, HP⟩ : ∃ p, Hid (L[i] = p) := ⟨L[i], (show L[i] = L[i] from rfl)⟩
      rw [HP.out] at hrow CO
      obtain ⟨o, HO⟩ : ∃ o, Hid (f p = o) := ⟨_, rfl⟩
      rw [HO.out] at CO
      have hlt' : (i : Int) < (n : Int) := by omega
      clear hx
      go_wp2_with (first
        | (refine wpList_load_mid rfl 39 _ rfl bb (off + i * 4) rfl (XC p) _ hrow Try.underlying39 rfl Try.size39 ?_)
        | fail)
      refine CO.out.mono ?_
      rintro e w2 ⟨rfl, hb2⟩
      have L2 : Hid (Below w.heap.size w w2) := (show _ from BL.out.trans (hb2.mono BL.out.size))
      clear hb2 CO hrow
      cases o with
      | false =>
        go_wp2_with fail
        go_roundg (n - i)
        case measure => omega
        case rel => exact ⟨i + 1, by omega, by omega, by go_num, (show ∀ j (hj : j < L.length), _ from fun j hj hji => by
          by_cases e : j = i
          · subst e
            rw [HP.out]
            exact HO.out
          · exact HT.out j hj (by omega)), L2⟩
      | true =>
        have hu : u = (i : Int) := by
          rw [← HU.out, fst_hit (f := f) (k := i) hlt2 (by rw [HP.out]; exact HO.out) HT.out]
          simp
        subst hu
        go_wp2_with fail
        go_ret
        exact ⟨rfl, L2.out⟩
    · obtain rfl : i = n := by omega
      have hlt' : ¬ (i : Int) < i := by omega
      have hu : u = -1 := by
        rw [← HU.out]
        refine fst_none fun p hp => ?_
        obtain ⟨j, hj, e⟩ := List.getElem_of_mem hp
        rw [← e]
        exact HT.out j hj (by rw [← HN.out]; exact hj)
      subst hu
      go_wp2_with fail
      go_ret
      exact ⟨rfl, BL.out⟩
set_option maxRecDepth 100000 in
theorem containsN_any {w : World} {vp : Value} {L : List Rz} (h : RdX w vp L) :
    Calls Try.prog 60 #[vp, .func (.func 61) #[] #[]] w fun e w' => e = .returned (.bool (L.any fun y => noRd (plR y))) ∧ Below w.heap.size w w' := by
  have CI := hide (indexN_any h)
  have hr := h.rd
  obtain ⟨x, c, rfl⟩ := hr.slice
  have HA : Hid (decide (0 ≤ fstI (fun y => noRd (plR y)) L 0) = (L.any fun y => noRd (plR y))) := (show _ = _ from fst_any)
  obtain ⟨u, HU⟩ : ∃ u, Hid (fstI (fun y => noRd (plR y)) L 0 = u) := ⟨_, rfl⟩
  rw [HU.out] at CI HA
  obtain ⟨q, HQ⟩ : ∃ q, Hid ((L.any fun y => noRd (plR y)) = q) := ⟨_, rfl⟩
  rw [HQ.out] at HA ⊢
  obtain ⟨n, HN⟩ : ∃ n, Hid (L.length = n) := ⟨_, rfl⟩
  rw [HN.out] at CI ⊢
  have hq := HA.out
  clear h hr
  go_enter Try.func60, Try.ntmps60
  go_wp2_with fail
  refine CI.out.mono ?_
  rintro e w5 ⟨rfl, hb5⟩
  have L5 := hide hb5
  clear hb5 CI
  subst hq
  go_wp2_with fail
  go_ret
  exact ⟨by simp, L5.out⟩
/-- Of several reads without a range no two have one key: R: those ahead. -/
def apK : List Rp → List Rp → Bool
  | _, [] => true
  | R, x :: l => (x.1 || !seenK R x.2.1) && apK (R ++ [x]) l
theorem build_unit : ∀ W : World, (Instr.build 100 #[]).run Try.prog W = .ok (.agg #[]) W := fun W => by kernel_rfl
set_option maxHeartbeats 2000000 in
set_option maxRecDepth 100000 in
theorem keysApart_any {w : World} {v : Value} {L : List Rz} (h : RdX w v L) (hl : L.length ≤ 1000000) (hk : ∀ x ∈ L, x.k.size ≤ 1000000) : Calls Try.prog 62 #[v] w fun e w' => e = .returned (.bool (apK [] (L.map plR))) ∧ Below w.heap.size w w' := by
  have HX := hide h
  obtain ⟨a, cp, rfl⟩ := h.rd.slice
  obtain ⟨n, HN⟩ : ∃ n, Hid (L.length = n) := ⟨_, rfl⟩
  have HKS : Hid (∀ x ∈ L, x.k.size ≤ 1000000) := hk
  rw [HN.out] at HX hl ⊢
  obtain ⟨u, HU⟩ : ∃ u, Hid (apK [] (L.map plR) = u) := ⟨_, rfl⟩
  rw [HU.out]
  obtain ⟨M, HM⟩ : ∃ N, Hid (w.heap.size = N) := ⟨_, rfl⟩
  obtain ⟨w1, hw1⟩ : ∃ y, y = w.alloc (.map #[] 0) := ⟨_, rfl⟩
  have S1 : Hid (SetS w1 M []) := (show SetS _ _ _ by rw [hw1, ← HM.out]; exact SetS.made w)
  have l1 : Hid (Below w.heap.size w w1) := (show Below _ _ _ by rw [hw1]; exact (Below.refl _ _).alloc (Nat.le_refl _) _)
  have HW := hide hw1
  have hzu := zeroU
  have hbu := build_unit
  have hmm := @run_makeMap Try.prog
  have hzx := zeroX
  clear h hk hw1
  go_enter Try.func62, Try.ntmps62
  go_upto_region 2 with fail
  change Code.wp _ _ _ _ (w.alloc (.map #[] 0))
  rw [← HW.out, HM.out]
  go_wp2_with fail
  have S0 : Hid (SetS w1 M ((L.take 0).map plR)) := (show SetS _ _ _ by simpa using S1.out)
  have A0 : Hid (apK ((L.take 0).map plR) ((L.drop 0).map plR) = u) := (show _ = _ by simpa using HU.out)
  have L0 := l1
  have hn := hl
  go_loopg [11] (n + 1) (fun g z wr => ∃ i : Nat, i ≤ n ∧ g + i = n + 1 ∧ z = .int .i64 (i : Int) ∧ Hid (SetS wr M ((L.take i).map plR)) ∧ Hid (apK ((L.take i).map plR) ((L.drop i).map plR) = u) ∧ Hid (Below w.heap.size w wr))
  case atStart => exact ⟨0, Nat.zero_le _, by omega, rfl, S0, A0, L0⟩
  case round =>
    clear S0 A0 L0 S1
    obtain ⟨i, hi, hg, rfl, SR, AR, LR⟩ := hrel
    by_cases hlt : i < n
    · have hlt' : (i : Int) < (n : Int) := by omega
      have hlt2 : i < L.length := by rw [HN.out]; exact hlt
      have RB := HX.out.kept LR.out
      obtain ⟨bb, off, rfl, hb3, hx⟩ := RB.rd.nth (by omega)
      have hrow : wr.rangeAt bb (off + i * 4) (XC L[i]) := hx i hlt2
      have hks := HKS.out L[i] (List.getElem_mem hlt2)
      have HT : Hid ((L.take (i + 1)).map plR = (L.take i).map plR ++ [plR L[i]]) := (show _ = _ by rw [List.take_succ_eq_append_getElem hlt2, List.map_append, List.map_singleton])
      have HDr : Hid ((L.drop i).map plR = plR L[i] :: (L.drop (i + 1)).map plR) := (show _ = _ by rw [List.drop_eq_getElem_cons hlt2, List.map_cons])
      have HTL : Hid (((L.take i).map plR).length ≤ 1000000) := (show _ ≤ _ by rw [List.length_map, List.length_take]; omega)
      obtain ⟨x, HXx⟩ : ∃ p, Hid (L[i] = p) := ⟨L[i], (show L[i] = L[i] from rfl)⟩
      rw [HXx.out] at hrow hks HT HDr
      obtain ⟨R, HR⟩ : ∃ z, Hid ((L.take i).map plR = z) := ⟨_, rfl⟩
      rw [HR.out] at SR AR HT HTL
      rw [HDr.out] at AR
      have HA : Hid (((x.sc || !seenK R x.k) && apK (R ++ [plR x]) ((L.drop (i + 1)).map plR)) = u) := (show _ = _ from AR.out)
      obtain ⟨E, HE⟩ : ∃ E, Hid (wr.heap.size = E) := ⟨_, rfl⟩
      obtain ⟨w3, hw3⟩ : ∃ y, y = wr.alloc (.cells (XC x).toArray 39 (0, 0)) := ⟨_, rfl⟩
      obtain ⟨b3, l3⟩ := newB HE hw3
      have HW3 := hide hw3
      have S3 := hide (SR.out.chg (F := fun _ => False) (Chg.of_below l3.out) id)
      have L3 : Hid (Below w.heap.size w w3) := (show Below _ _ _ from LR.out.trans (l3.out.mono LR.out.size))
      have d0 := b3.out.xsc
      have d1 := b3.out.xk
      obtain ⟨xs, HXs⟩ : ∃ z, Hid (x.sc = z) := ⟨_, rfl⟩
      obtain ⟨xk, HXk⟩ : ∃ z, Hid (x.k = z) := ⟨_, rfl⟩
      rw [HXs.out] at d0 HA
      rw [HXk.out] at d1 HA hks
      obtain ⟨xt, HXt⟩ : ∃ z, Hid (x.t = z) := ⟨_, rfl⟩
      obtain ⟨xp, HXp⟩ : ∃ z, Hid (x.ps = z) := ⟨_, rfl⟩
      have HPL : Hid (plR x = (xs, xk, xt, xp)) := (show _ = _ by unfold plR; rw [HXs.out, HXk.out, HXt.out, HXp.out])
      have hm9 : xk.size ≤ maxLen := by unfold maxLen; omega
      obtain ⟨q, HQ⟩ : ∃ z, Hid (seenK R xk = z) := ⟨_, rfl⟩
      rw [HQ.out] at HA
      have hlk := S3.out.look xk hm9
      rw [HQ.out] at hlk
      clear hx hw3 RB SR AR
      go_upto_region 5 with (first
        | (refine wpList_load_mid rfl 39 _ rfl bb (off + i * 4) rfl (XC x) _ hrow Try.underlying39 rfl Try.size39 ?_)
        | (refine wpList_store_new rfl 39 _ _ rfl wr _ (XC x).toArray _ rfl rfl rfl Try.size39 rfl (all_one (XC_one x)) ?_; rw [← HW3.out, HE.out])
        | fail)
      try simp only [Act.put]
      clear hrow
      cases xs with
      | true =>
        have S4 : Hid (SetS w3 M ((L.take (i + 1)).map plR)) := (show SetS _ _ _ by rw [HT.out, HPL.out]; exact S3.out.scan xk xt xp)
        have A4 : Hid (apK ((L.take (i + 1)).map plR) ((L.drop (i + 1)).map plR) = u) := (show _ = _ by rw [HT.out]; have := HA.out; simpa using this)
        clear hlk
        go_wp2_with fail
        go_roundg (n - i)
        case measure => omega
        case rel => exact ⟨i + 1, by omega, by omega, by go_num, S4, A4, L3⟩
      | false =>
        obtain ⟨E4, HE4⟩ : ∃ E, Hid (w3.heap.size = E) := ⟨_, rfl⟩
        obtain ⟨w4, hw4⟩ : ∃ y, y = w3.alloc (.cells ([] : List Value).toArray 100 (0, 0)) := ⟨_, rfl⟩
        obtain ⟨b4, l4⟩ := newB HE4 hw4
        have HW4 := hide hw4
        have S4 := hide (S3.out.chg (F := fun _ => False) (Chg.of_below l4.out) id)
        have L4 : Hid (Below w.heap.size w w4) := (show Below _ _ _ from L3.out.trans (l4.out.mono L3.out.size))
        have d2 := (b3.out.kept l4.out).xk
        rw [HXk.out] at d2
        clear hw4
        go_upto_region 7 with (first
          | (refine wpList_store_new rfl 100 _ _ rfl w3 _ #[] _ rfl rfl rfl (by kernel_rfl) rfl rfl ?_)
          | fail)
        change Code.wp _ _ _ _ (w3.alloc (.cells ([] : List Value).toArray 100 (0, 0)))
        rw [← HW4.out]
        clear hlk d0 d1
        cases q with
        | true =>
          have hu : u = false := by rw [← HA.out]; rfl
          subst hu
          go_wp2_with fail
          go_ret
          exact ⟨rfl, L4.out⟩
        | false =>
          obtain ⟨w5, hup, s5, ht5⟩ := S4.out.put HTL.out xk hm9 xp
          have S5 : Hid (SetS w5 M ((L.take (i + 1)).map plR)) := (show SetS _ _ _ by
            rw [HT.out, HPL.out]
            obtain ⟨D9, n9, g1, g2, g3⟩ := s5
            refine ⟨D9, n9, g1, by simpa using g2, fun k9 => ?_⟩
            rw [g3 k9, seenK_snoc, seenK_snoc])
          have A5 : Hid (apK ((L.take (i + 1)).map plR) ((L.drop (i + 1)).map plR) = u) := (show _ = _ by rw [HT.out]; have := HA.out; simpa using this)
          have L5 : Hid (Below w.heap.size w w5) := (show Below _ _ _ from L4.out.trans ((Chg.turned (F := fun k => k = M) ht5 rfl).below L4.out.size (fun k hk e => by have := HM.out; omega)))
          clear s5 ht5
          go_wp2_with fail
          go_roundg (n - i)
          case measure => omega
          case rel => exact ⟨i + 1, by omega, by omega, by go_num, S5, A5, L5⟩
    · obtain rfl : i = n := by omega
      have hlt' : ¬ (i : Int) < i := by omega
      have hu : u = true := by
        rw [← AR.out, List.drop_of_length_le (by rw [HN.out]; exact Nat.le_refl _)]
        rfl
      subst hu
      go_wp2_with fail
      go_ret
      exact ⟨rfl, LR.out⟩
#print axioms keysApart_any
end Go.Proofs.Ytmicmbjbclkbjaa
