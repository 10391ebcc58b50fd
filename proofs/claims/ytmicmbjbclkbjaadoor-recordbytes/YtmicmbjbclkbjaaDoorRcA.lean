/-
  What is got: lists of pairs, of writes: what the calls do.
-/
import Derived.Test.YtmicmbjbclkbjaaDoorRcZ
import Derived.Test.YtmicmbjbclkbjaaDoorRcK
namespace Go.Proofs.YtmicmbjbclkbjaaDoor
open Go.RowKit
theorem got_le (m : Nat) (s : Option (List UInt8)) : got (pN m) 0 s ≤ m := by
  cases s with
  | none => exact Nat.zero_le _
  | some l =>
    cases h : pN m l with
    | none => rw [got_no h]; exact Nat.zero_le _
    | some q =>
      obtain ⟨n, z⟩ := q
      rw [got_some h]
      exact (pN_ok h).2
theorem pK_aft {α : Type} (p : Pa α) (j : Nat) (s : Option (List UInt8)) : aft (pK p (j + 1)) s = aft (pK p j) (aft p s) := by
  cases s with
  | none => rfl
  | some l =>
    cases h : p l with
    | none => rw [aft_no h, aft_no (by simp [pK, h])]; rfl
    | some q =>
      obtain ⟨x, z⟩ := q
      rw [aft_some h]
      unfold aft
      simp only [Option.bind_some, pK, h]
      cases pK p j z <;> rfl
theorem pK_val {α : Type} {p : Pa α} {j : Nat} {s : Option (List UInt8)} {ys : List α} {z : List UInt8} (h : s.bind (pK p (j + 1)) = some (ys, z)) : ∃ x xs z1, ys = x :: xs ∧ s.bind p = some (x, z1) ∧ (aft p s).bind (pK p j) = some (xs, z) := by
  cases s with
  | none => cases h
  | some l =>
    simp only [Option.bind_some, pK] at h
    cases hp : p l with
    | none => rw [hp] at h; cases h
    | some q =>
      obtain ⟨x, z1⟩ := q
      rw [hp] at h
      simp only [Option.bind_some, Option.map_eq_some_iff, Prod.mk.injEq] at h
      obtain ⟨t, h1, h2, h3⟩ := h
      refine ⟨x, t.1, z1, h2.symm, by simp [hp], ?_⟩
      rw [aft_some hp, ← h3]
      exact h1
theorem pL_aft {α : Type} (m : Nat) (p : Pa α) (s : Option (List UInt8)) : aft (pL m p) s = aft (pK p (got (pN m) 0 s)) (aft (pN m) s) := aft_bind (p := pN m) (f := pK p) (fun _ => rfl) 0 s
theorem pL_val {α : Type} {m : Nat} {p : Pa α} {s : Option (List UInt8)} {ys : List α} {z : List UInt8} (h : s.bind (pL m p) = some (ys, z)) : (aft (pN m) s).bind (pK p (got (pN m) 0 s)) = some (ys, z) := val_bind (p := pN m) (f := pK p) (fun _ => rfl) 0 h
theorem pK_zero {α : Type} {p : Pa α} (s : Option (List UInt8)) : aft (pK p 0) s = s := by cases s <;> rfl
theorem pK_nil {α : Type} {p : Pa α} {s : Option (List UInt8)} {xs : List α} {z : List UInt8} (h : s.bind (pK p 0) = some (xs, z)) : xs = [] := by
  cases s with
  | none => cases h
  | some l =>
    simp only [Option.bind_some, pK, Option.some.injEq, Prod.mk.injEq] at h
    exact h.1.symm
theorem SrcAt.grow {α : Type} {E : Enc α} {w0 w w' : World} {Bb Br Bt B : Nat} {s : Option (List UInt8)} {T : TypeId} {v : Value} {L : List α} (h : SrcAt w0 w Bb Br Bt s) (hc : Chg (fun j => v.ownBlock = some j) w w') (ho : OwnG E w B T v L) (h1 : T ≠ 28) (h2 : T ≠ 4) (h3 : T ≠ 72) (h0 : w0.heap.size ≤ B) : SrcAt w0 w' Bb Br Bt s := by
  cases hv : v.ownBlock with
  | none =>
    rw [hv] at hc
    exact h.kept (hc.below (Nat.le_refl _) fun k _ e => by cases e)
  | some g =>
    obtain ⟨h4, _, cu, h5⟩ := ho.block hv
    rw [hv] at hc
    exact h.other (hc.mono fun k _ e => (Option.some.inj e).symm) (show Blk w g T cu.toList from h5) h1 h2 h3 (Nat.le_trans h0 h4)
/-- What is told of a list of pairs that was got. -/
def LsPost (w0 : World) (Bb Br Bt m : Nat) (p : Pa Pr) (s : Option (List UInt8)) (w : World) (e : Ending) (w' : World) : Prop := ∃ v L, e = .returned v ∧ OwnG PE w' w.heap.size 43 v L ∧ L.length ≤ m ∧ SrcAt w0 w' Bb Br Bt (aft (pL m p) s) ∧ (∀ ys z, s.bind (pL m p) = some (ys, z) → L = ys) ∧ Chg (GF Bb Br) w w'
set_option maxHeartbeats 2000000 in
set_option maxRecDepth 100000 in
theorem slistP_any {w0 w : World} {Bb Br Bt : Nat} {s : Option (List UInt8)} (h : SrcAt w0 w Bb Br Bt s) (m : Nat) (hm : m ≤ 1000) :
    Calls Tryd.prog 57 #[.agg (SC6 Bb Br Bt).toArray, .int .u64 (m : Int), .func (.func 73) #[] #[]] w fun e w' => LsPost w0 Bb Br Bt m pP s w e w' := by
  obtain ⟨M, HM⟩ : ∃ N, Hid (w.heap.size = N) := ⟨_, rfl⟩
  obtain ⟨w1, hw1⟩ : ∃ y, y = w.alloc (.cells (SC6 Bb Br Bt).toArray 55 (0, 0)) := ⟨_, rfl⟩
  obtain ⟨bn, l1⟩ := newB (A := SC6 Bb Br Bt) HM hw1
  have HW := hide hw1
  have S1 := hide (h.kept l1.out)
  have HLT : Hid (Bb < M ∧ Br < M) := (show _ ∧ _ by rw [← HM.out]; exact h.lt)
  have h0M : Hid (w0.heap.size ≤ M) := (show _ ≤ _ by rw [← HM.out]; exact h.base.size)
  have HS1 : Hid (w1.heap.size = M + 1) := (show _ = _ by rw [hw1, World.size_alloc, HM.out])
  have hM1 : Hid (M ≤ w1.heap.size) := (show _ ≤ _ from Nat.le_of_lt bn.out.lt)
  have HNE := hide (S1.out.neT bn.out (by decide) (by decide))
  obtain ⟨n, Hn⟩ : ∃ z, Hid (got (pN m) 0 s = z) := ⟨_, rfl⟩
  obtain ⟨s1, Hs1⟩ : ∃ z, Hid (aft (pN m) s = z) := ⟨_, rfl⟩
  have hnm : n ≤ m := by rw [← Hn.out]; exact got_le m s
  have CN := hide (snum_any S1.out m (by omega))
  rw [Hn.out, Hs1.out] at CN
  have HPA : Hid (aft (pK pP n) s1 = aft (pL m pP) s) := (show _ = _ by rw [pL_aft, Hn.out, Hs1.out])
  have HPV : Hid (∀ ys z, s.bind (pL m pP) = some (ys, z) → s1.bind (pK pP n) = some (ys, z)) := (show ∀ ys z, _ from fun ys z hy => by have := pL_val hy; rwa [Hn.out, Hs1.out] at this)
  have d0 := bn.out.cell (j := 0) rfl
  clear h hw1
  go_enter Tryd.func57, Tryd.ntmps57
  go_upto_region 1 with fail
  change Code.wp _ _ _ _ (w.alloc (.cells (SC6 Bb Br Bt).toArray 55 (0, 0)))
  rw [← HW.out, HM.out]
  go_wp2_with fail
  refine CN.out.mono ?_
  rintro e w2 ⟨rfl, s2, c2⟩
  have S0 : Hid (SrcAt w0 w2 Bb Br Bt s1) := (show SrcAt _ _ _ _ _ _ from s2)
  have C0 : Hid (Chg (GF Bb Br) w1 w2) := (show Chg _ _ _ from c2)
  have O0 : Hid (OwnG PE w2 M 43 (.slice none 0 0) []) := (show _ from ownG_nil _ _ _)
  have A0 : Hid (aft (pK pP (n - 0)) s1 = aft (pL m pP) s) := (show _ = _ from HPA.out)
  have V0 : Hid (∀ ys z, s.bind (pL m pP) = some (ys, z) → ∃ xs, ys = ([] : List Pr) ++ xs ∧ s1.bind (pK pP (n - 0)) = some (xs, z)) := (show ∀ ys z, _ from fun ys z hy => ⟨ys, rfl, HPV.out ys z hy⟩)
  clear s2 c2 CN d0
  go_wp2_with fail
  go_loopg [7, 12] (n + 1) (fun g x z wr => ∃ (i : Nat) (L : List Pr) (a : Option Addr) (q c : Nat) (si : Option (List UInt8)), i ≤ n ∧ g + i = n + 1 ∧ x = .slice a q c ∧ z = .int .i64 (i : Int) ∧ Hid (L.length = q) ∧ q ≤ i ∧ Hid (OwnG PE wr M 43 (.slice a q c) L) ∧ Hid (SrcAt w0 wr Bb Br Bt si) ∧ Hid (aft (pK pP (n - i)) si = aft (pL m pP) s) ∧ Hid (∀ ys z, s.bind (pL m pP) = some (ys, z) → ∃ xs, ys = L ++ xs ∧ si.bind (pK pP (n - i)) = some (xs, z)) ∧ Hid (Chg (GF Bb Br) w1 wr))
  case atStart => exact ⟨0, [], none, 0, 0, s1, Nat.zero_le _, by omega, rfl, rfl, (show _ = _ from rfl), Nat.le_refl _, O0, S0, A0, V0, C0⟩
  case round =>
    clear S0 C0 O0 A0 V0 HPA HPV
    obtain ⟨i, L, a, q, c, si, hi, hg, rfl, rfl, HQ, hqi, OR, SR, AR, VR, CR⟩ := hrel
    by_cases hlt : i < n
    · have hlt' : (i : Int) < (n : Int) := by omega
      have CG := hide (spair_any SR.out)
      have rk := (bn.out.chg CR.out HNE.out).range0
      obtain ⟨W, HWr⟩ : ∃ z, Hid (wr.heap.size = z) := ⟨_, rfl⟩
      have hMW : M ≤ W := by have h1 := CR.out.size; have h2 := hM1.out; have h3 := HWr.out; omega
      have HGK : Hid (∀ k, M ≤ k → ¬ GF Bb Br k) := (show ∀ k, _ from fun k hk e => by have := HLT.out; rcases e with e | e <;> omega)
      go_wp2_with (first
        | (refine wpList_load_mid rfl 55 _ rfl M 0 rfl (SC6 Bb Br Bt) _ rk Tryd.underlying55 rfl Tryd.size55 ?_)
        | fail)
      refine CG.out.mono ?_
      rintro e w3 ⟨x, rfl, S3, V3, C3⟩
      have S3 := hide S3
      have V3 := hide V3
      have C3 := hide C3
      obtain ⟨s3, Hs3⟩ : ∃ z, Hid (aft pP si = z) := ⟨_, rfl⟩
      rw [Hs3.out] at S3
      have hWs : wr.heap.size ≤ w3.heap.size := C3.out.size
      have O3 : Hid (OwnG PE w3 M 43 (.slice a q c) L) := (show _ from OR.out.chg C3.out (fun k hk e => HGK.out k (OR.out.block hk).1 e))
      obtain ⟨w4, hw4⟩ : ∃ y, y = w3.alloc (.cells (PE.c x).toArray 43 (0, 0)) := ⟨_, rfl⟩
      have l4 : Hid (Below w3.heap.size w3 w4) := (show Below _ _ _ by rw [hw4]; exact (Below.refl _ _).alloc (Nat.le_refl _) _)
      have R4 : Hid (RdG PE w4 (.slice (some ⟨w3.heap.size, 0, none⟩) 1 1) [x]) := (show RdG _ _ _ _ by rw [hw4]; exact rdG_one (E := PE) w3 43 x)
      have O4 : Hid (OwnG PE w4 M 43 (.slice a q c) L) := (show OwnG _ _ _ _ _ _ from O3.out.kept l4.out)
      have HL9 : Hid (L.length + [x].length ≤ 10000000) := (show _ ≤ _ by rw [List.length_singleton, HQ.out]; omega)
      have HL8 : Hid (M ≤ w4.heap.size) := (show _ ≤ _ by have h1 := l4.out.size; have h2 := HWr.out; omega)
      have HW4 := hide hw4
      clear hw4 CG rk
      go_wp2_with (first
        | (refine wpList_build1E (E := PE) build_pairs1 rfl _ rfl x rfl ?_; change wpList _ _ _ _ _ (w3.alloc (.cells (PE.c x).toArray 43 (0, 0))); rw [← HW4.out])
        | (refine wpList_append_E (E := PE) Tryd.underlying23 infoP9 (by decide) rfl (.tmp 14) (.tmp 18) rfl M (.slice a q c) L rfl O4.out (.slice (some ⟨w3.heap.size, 0, none⟩) 1 1) [x] rfl R4.out HL9.out HL8.out ?_; intro v9 w9 o9 g9 q9; obtain ⟨p9, c9, hv9⟩ := o9.form; have hn9 : (L ++ [x]).length = q + 1 := (by rw [List.length_append, List.length_singleton, HQ.out]); rw [hn9] at hv9; subst hv9; have O9 := hide o9; have G9 := hide g9; have HN9 := hide hn9; clear o9 g9 q9 hn9; have K9 : Hid (Chg (fun b => (Value.slice a q c).ownBlock = some b) w3 w9) := (show Chg _ _ _ from (Chg.of_below l4.out).trans (Chg.of_grown G9.out (fun k e _ => e))); have S9 := hide (S3.out.grow K9.out O3.out (by decide) (by decide) (by decide) h0M.out); have B9 : Hid (Blk w9 M 55 (SC6 Bb Br Bt)) := (show Blk _ _ _ _ from ((bn.out.chg CR.out HNE.out).chg C3.out HNE.out).chg K9.out (fun e => by obtain ⟨_, _, cu, h5⟩ := O3.out.block e; exact cells_ne h5 ((bn.out.chg CR.out HNE.out).chg C3.out HNE.out) (by decide) rfl)); have d3 := B9.out.cell (j := 3) rfl; have CO := hide (sover_any S9.out))
        | fail)
      refine CO.out.mono ?_
      rintro e w_ ⟨rfl, hw_⟩
      subst w_
      have C9 : Hid (Chg (GF Bb Br) w1 w9) := (show Chg _ _ _ from (CR.out.trans C3.out).then K9.out (fun k hk e => by
        obtain ⟨h1, _, cu, h5⟩ := O3.out.block e
        obtain rfl : k = M := by have := HS1.out; omega
        exact absurd rfl (cells_ne h5 ((bn.out.chg CR.out HNE.out).chg C3.out HNE.out) (by decide))))
      have ON : Hid (OwnG PE w9 M 43 (.slice p9 (q + 1) c9) (L ++ [x])) := (show _ from O9.out)
      obtain ⟨j, Hj⟩ : ∃ j, Hid (n - i = j + 1) := ⟨n - i - 1, (show _ = _ by omega)⟩
      have hj2 : n - (i + 1) = j := by have := Hj.out; omega
      have AN : Hid (aft (pK pP (n - (i + 1))) s3 = aft (pL m pP) s) := (show _ = _ by rw [hj2, ← AR.out, Hj.out, pK_aft, Hs3.out])
      have VN : Hid (∀ ys z, s.bind (pL m pP) = some (ys, z) → ∃ xs, ys = (L ++ [x]) ++ xs ∧ s3.bind (pK pP (n - (i + 1))) = some (xs, z)) := (show ∀ ys z, _ from fun ys z hy => by
        obtain ⟨xs, h1, h2⟩ := VR.out ys z hy
        rw [Hj.out] at h2
        obtain ⟨x0, xs0, z1, h3, h4, h5⟩ := pK_val h2
        rw [Hs3.out] at h5
        refine ⟨xs0, ?_, by rw [hj2]; exact h5⟩
        rw [h1, h3, ← V3.out x0 z1 h4]
        simp)
      obtain ⟨ov, Hov⟩ : ∃ z, Hid ((!s3.isSome) = z) := ⟨_, rfl⟩
      rw [Hov.out]
      clear CO d3
      cases ov with
      | true =>
        have h3n : s3 = none := by
          have := Hov.out
          cases s3 with
          | none => rfl
          | some z => cases this
        subst h3n
        have PN : Hid (LsPost w0 Bb Br Bt m pP s w (.returned (.slice p9 (q + 1) c9)) w9) := (show _ from ⟨_, L ++ [x], rfl, (show _ by rw [HM.out]; exact ON.out), by have := HN9.out; omega, by rw [← AN.out, aft_none]; exact S9.out, (fun ys z hy => by
          obtain ⟨xs, -, h2⟩ := VN.out ys z hy
          cases h2), (Chg.of_below l1.out).trans C9.out⟩)
        go_wp2_with fail
        go_ret
        exact PN.out
      | false =>
        go_wp2_with fail
        go_roundg (n - i)
        case measure => omega
        case rel => exact ⟨i + 1, L ++ [x], p9, q + 1, c9, s3, by omega, by omega, rfl, by go_num, HN9, by omega, ON, S9, AN, VN, C9⟩
    · obtain rfl : i = n := by omega
      have hlt' : ¬ (i : Int) < i := by omega
      have PN : Hid (LsPost w0 Bb Br Bt m pP s w (.returned (.slice a q c)) wr) := (show _ from ⟨_, L, rfl, (show _ by rw [HM.out]; exact OR.out), by have := HQ.out; omega, by
        rw [← AR.out, Nat.sub_self, show aft (pK pP 0) si = si from pK_zero si]
        exact SR.out, fun ys z hy => by
        obtain ⟨xs, h1, h2⟩ := VR.out ys z hy
        rw [Nat.sub_self] at h2
        rw [h1, pK_nil h2, List.append_nil], (Chg.of_below l1.out).trans CR.out⟩)
      go_wp2_with fail
      go_ret
      exact PN.out
#print axioms slistP_any
set_option maxHeartbeats 2000000 in
set_option maxRecDepth 100000 in
theorem slistW_any {w0 w : World} {Bb Br Bt : Nat} {s : Option (List UInt8)} (h : SrcAt w0 w Bb Br Bt s) (m : Nat) (hm : m ≤ 1000) :
    Calls Tryd.prog 57 #[.agg (SC6 Bb Br Bt).toArray, .int .u64 (m : Int), .func (.func 58) #[] #[]] w fun e w' => LsPost w0 Bb Br Bt m pW s w e w' := by
  obtain ⟨M, HM⟩ : ∃ N, Hid (w.heap.size = N) := ⟨_, rfl⟩
  obtain ⟨w1, hw1⟩ : ∃ y, y = w.alloc (.cells (SC6 Bb Br Bt).toArray 55 (0, 0)) := ⟨_, rfl⟩
  obtain ⟨bn, l1⟩ := newB (A := SC6 Bb Br Bt) HM hw1
  have HW := hide hw1
  have S1 := hide (h.kept l1.out)
  have HLT : Hid (Bb < M ∧ Br < M) := (show _ ∧ _ by rw [← HM.out]; exact h.lt)
  have h0M : Hid (w0.heap.size ≤ M) := (show _ ≤ _ by rw [← HM.out]; exact h.base.size)
  have HS1 : Hid (w1.heap.size = M + 1) := (show _ = _ by rw [hw1, World.size_alloc, HM.out])
  have hM1 : Hid (M ≤ w1.heap.size) := (show _ ≤ _ from Nat.le_of_lt bn.out.lt)
  have HNE := hide (S1.out.neT bn.out (by decide) (by decide))
  obtain ⟨n, Hn⟩ : ∃ z, Hid (got (pN m) 0 s = z) := ⟨_, rfl⟩
  obtain ⟨s1, Hs1⟩ : ∃ z, Hid (aft (pN m) s = z) := ⟨_, rfl⟩
  have hnm : n ≤ m := by rw [← Hn.out]; exact got_le m s
  have CN := hide (snum_any S1.out m (by omega))
  rw [Hn.out, Hs1.out] at CN
  have HPA : Hid (aft (pK pW n) s1 = aft (pL m pW) s) := (show _ = _ by rw [pL_aft, Hn.out, Hs1.out])
  have HPV : Hid (∀ ys z, s.bind (pL m pW) = some (ys, z) → s1.bind (pK pW n) = some (ys, z)) := (show ∀ ys z, _ from fun ys z hy => by have := pL_val hy; rwa [Hn.out, Hs1.out] at this)
  have d0 := bn.out.cell (j := 0) rfl
  clear h hw1
  go_enter Tryd.func57, Tryd.ntmps57
  go_upto_region 1 with fail
  change Code.wp _ _ _ _ (w.alloc (.cells (SC6 Bb Br Bt).toArray 55 (0, 0)))
  rw [← HW.out, HM.out]
  go_wp2_with fail
  refine CN.out.mono ?_
  rintro e w2 ⟨rfl, s2, c2⟩
  have S0 : Hid (SrcAt w0 w2 Bb Br Bt s1) := (show SrcAt _ _ _ _ _ _ from s2)
  have C0 : Hid (Chg (GF Bb Br) w1 w2) := (show Chg _ _ _ from c2)
  have O0 : Hid (OwnG PE w2 M 43 (.slice none 0 0) []) := (show _ from ownG_nil _ _ _)
  have A0 : Hid (aft (pK pW (n - 0)) s1 = aft (pL m pW) s) := (show _ = _ from HPA.out)
  have V0 : Hid (∀ ys z, s.bind (pL m pW) = some (ys, z) → ∃ xs, ys = ([] : List Pr) ++ xs ∧ s1.bind (pK pW (n - 0)) = some (xs, z)) := (show ∀ ys z, _ from fun ys z hy => ⟨ys, rfl, HPV.out ys z hy⟩)
  clear s2 c2 CN d0
  go_wp2_with fail
  go_loopg [7, 12] (n + 1) (fun g x z wr => ∃ (i : Nat) (L : List Pr) (a : Option Addr) (q c : Nat) (si : Option (List UInt8)), i ≤ n ∧ g + i = n + 1 ∧ x = .slice a q c ∧ z = .int .i64 (i : Int) ∧ Hid (L.length = q) ∧ q ≤ i ∧ Hid (OwnG PE wr M 43 (.slice a q c) L) ∧ Hid (SrcAt w0 wr Bb Br Bt si) ∧ Hid (aft (pK pW (n - i)) si = aft (pL m pW) s) ∧ Hid (∀ ys z, s.bind (pL m pW) = some (ys, z) → ∃ xs, ys = L ++ xs ∧ si.bind (pK pW (n - i)) = some (xs, z)) ∧ Hid (Chg (GF Bb Br) w1 wr))
  case atStart => exact ⟨0, [], none, 0, 0, s1, Nat.zero_le _, by omega, rfl, rfl, (show _ = _ from rfl), Nat.le_refl _, O0, S0, A0, V0, C0⟩
  case round =>
    clear S0 C0 O0 A0 V0 HPA HPV
    obtain ⟨i, L, a, q, c, si, hi, hg, rfl, rfl, HQ, hqi, OR, SR, AR, VR, CR⟩ := hrel
    by_cases hlt : i < n
    · have hlt' : (i : Int) < (n : Int) := by omega
      have CG := hide (swrite_any SR.out)
      have rk := (bn.out.chg CR.out HNE.out).range0
      obtain ⟨W, HWr⟩ : ∃ z, Hid (wr.heap.size = z) := ⟨_, rfl⟩
      have hMW : M ≤ W := by have h1 := CR.out.size; have h2 := hM1.out; have h3 := HWr.out; omega
      have HGK : Hid (∀ k, M ≤ k → ¬ GF Bb Br k) := (show ∀ k, _ from fun k hk e => by have := HLT.out; rcases e with e | e <;> omega)
      go_wp2_with (first
        | (refine wpList_load_mid rfl 55 _ rfl M 0 rfl (SC6 Bb Br Bt) _ rk Tryd.underlying55 rfl Tryd.size55 ?_)
        | fail)
      refine CG.out.mono ?_
      rintro e w3 ⟨x, rfl, S3, V3, C3⟩
      have S3 := hide S3
      have V3 := hide V3
      have C3 := hide C3
      obtain ⟨s3, Hs3⟩ : ∃ z, Hid (aft pW si = z) := ⟨_, rfl⟩
      rw [Hs3.out] at S3
      have hWs : wr.heap.size ≤ w3.heap.size := C3.out.size
      have O3 : Hid (OwnG PE w3 M 43 (.slice a q c) L) := (show _ from OR.out.chg C3.out (fun k hk e => HGK.out k (OR.out.block hk).1 e))
      obtain ⟨w4, hw4⟩ : ∃ y, y = w3.alloc (.cells (PE.c x).toArray 43 (0, 0)) := ⟨_, rfl⟩
      have l4 : Hid (Below w3.heap.size w3 w4) := (show Below _ _ _ by rw [hw4]; exact (Below.refl _ _).alloc (Nat.le_refl _) _)
      have R4 : Hid (RdG PE w4 (.slice (some ⟨w3.heap.size, 0, none⟩) 1 1) [x]) := (show RdG _ _ _ _ by rw [hw4]; exact rdG_one (E := PE) w3 43 x)
      have O4 : Hid (OwnG PE w4 M 43 (.slice a q c) L) := (show OwnG _ _ _ _ _ _ from O3.out.kept l4.out)
      have HL9 : Hid (L.length + [x].length ≤ 10000000) := (show _ ≤ _ by rw [List.length_singleton, HQ.out]; omega)
      have HL8 : Hid (M ≤ w4.heap.size) := (show _ ≤ _ by have h1 := l4.out.size; have h2 := HWr.out; omega)
      have HW4 := hide hw4
      clear hw4 CG rk
      go_wp2_with (first
        | (refine wpList_build1E (E := PE) build_pairs1 rfl _ rfl x rfl ?_; change wpList _ _ _ _ _ (w3.alloc (.cells (PE.c x).toArray 43 (0, 0))); rw [← HW4.out])
        | (refine wpList_append_E (E := PE) Tryd.underlying23 infoP9 (by decide) rfl (.tmp 14) (.tmp 18) rfl M (.slice a q c) L rfl O4.out (.slice (some ⟨w3.heap.size, 0, none⟩) 1 1) [x] rfl R4.out HL9.out HL8.out ?_; intro v9 w9 o9 g9 q9; obtain ⟨p9, c9, hv9⟩ := o9.form; have hn9 : (L ++ [x]).length = q + 1 := (by rw [List.length_append, List.length_singleton, HQ.out]); rw [hn9] at hv9; subst hv9; have O9 := hide o9; have G9 := hide g9; have HN9 := hide hn9; clear o9 g9 q9 hn9; have K9 : Hid (Chg (fun b => (Value.slice a q c).ownBlock = some b) w3 w9) := (show Chg _ _ _ from (Chg.of_below l4.out).trans (Chg.of_grown G9.out (fun k e _ => e))); have S9 := hide (S3.out.grow K9.out O3.out (by decide) (by decide) (by decide) h0M.out); have B9 : Hid (Blk w9 M 55 (SC6 Bb Br Bt)) := (show Blk _ _ _ _ from ((bn.out.chg CR.out HNE.out).chg C3.out HNE.out).chg K9.out (fun e => by obtain ⟨_, _, cu, h5⟩ := O3.out.block e; exact cells_ne h5 ((bn.out.chg CR.out HNE.out).chg C3.out HNE.out) (by decide) rfl)); have d3 := B9.out.cell (j := 3) rfl; have CO := hide (sover_any S9.out))
        | fail)
      refine CO.out.mono ?_
      rintro e w_ ⟨rfl, hw_⟩
      subst w_
      have C9 : Hid (Chg (GF Bb Br) w1 w9) := (show Chg _ _ _ from (CR.out.trans C3.out).then K9.out (fun k hk e => by
        obtain ⟨h1, _, cu, h5⟩ := O3.out.block e
        obtain rfl : k = M := by have := HS1.out; omega
        exact absurd rfl (cells_ne h5 ((bn.out.chg CR.out HNE.out).chg C3.out HNE.out) (by decide))))
      have ON : Hid (OwnG PE w9 M 43 (.slice p9 (q + 1) c9) (L ++ [x])) := (show _ from O9.out)
      obtain ⟨j, Hj⟩ : ∃ j, Hid (n - i = j + 1) := ⟨n - i - 1, (show _ = _ by omega)⟩
      have hj2 : n - (i + 1) = j := by have := Hj.out; omega
      have AN : Hid (aft (pK pW (n - (i + 1))) s3 = aft (pL m pW) s) := (show _ = _ by rw [hj2, ← AR.out, Hj.out, pK_aft, Hs3.out])
      have VN : Hid (∀ ys z, s.bind (pL m pW) = some (ys, z) → ∃ xs, ys = (L ++ [x]) ++ xs ∧ s3.bind (pK pW (n - (i + 1))) = some (xs, z)) := (show ∀ ys z, _ from fun ys z hy => by
        obtain ⟨xs, h1, h2⟩ := VR.out ys z hy
        rw [Hj.out] at h2
        obtain ⟨x0, xs0, z1, h3, h4, h5⟩ := pK_val h2
        rw [Hs3.out] at h5
        refine ⟨xs0, ?_, by rw [hj2]; exact h5⟩
        rw [h1, h3, ← V3.out x0 z1 h4]
        simp)
      obtain ⟨ov, Hov⟩ : ∃ z, Hid ((!s3.isSome) = z) := ⟨_, rfl⟩
      rw [Hov.out]
      clear CO d3
      cases ov with
      | true =>
        have h3n : s3 = none := by
          have := Hov.out
          cases s3 with
          | none => rfl
          | some z => cases this
        subst h3n
        have PN : Hid (LsPost w0 Bb Br Bt m pW s w (.returned (.slice p9 (q + 1) c9)) w9) := (show _ from ⟨_, L ++ [x], rfl, (show _ by rw [HM.out]; exact ON.out), by have := HN9.out; omega, by rw [← AN.out, aft_none]; exact S9.out, (fun ys z hy => by
          obtain ⟨xs, -, h2⟩ := VN.out ys z hy
          cases h2), (Chg.of_below l1.out).trans C9.out⟩)
        go_wp2_with fail
        go_ret
        exact PN.out
      | false =>
        go_wp2_with fail
        go_roundg (n - i)
        case measure => omega
        case rel => exact ⟨i + 1, L ++ [x], p9, q + 1, c9, s3, by omega, by omega, rfl, by go_num, HN9, by omega, ON, S9, AN, VN, C9⟩
    · obtain rfl : i = n := by omega
      have hlt' : ¬ (i : Int) < i := by omega
      have PN : Hid (LsPost w0 Bb Br Bt m pW s w (.returned (.slice a q c)) wr) := (show _ from ⟨_, L, rfl, (show _ by rw [HM.out]; exact OR.out), by have := HQ.out; omega, by
        rw [← AR.out, Nat.sub_self, show aft (pK pW 0) si = si from pK_zero si]
        exact SR.out, fun ys z hy => by
        obtain ⟨xs, h1, h2⟩ := VR.out ys z hy
        rw [Nat.sub_self] at h2
        rw [h1, pK_nil h2, List.append_nil], (Chg.of_below l1.out).trans CR.out⟩)
      go_wp2_with fail
      go_ret
      exact PN.out
#print axioms slistW_any
end Go.Proofs.YtmicmbjbclkbjaaDoor
