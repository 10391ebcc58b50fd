/-
  package session: slices.Clone over reads, copied: what the calls do.
-/
import Derived.Test.YtcicekggeampcaaSeS
namespace Go.Proofs.Ytcicekggeampcaa
open Go.RowKit
theorem cs_set1 {α : Type} {E : Enc α} {R : List α} {i j : Nat} (h : i < R.length) (hj : j < E.n) {u : Value} {y : α} (hy : (E.c R[i]).set j u = E.c y) : (E.cs R).set (i * E.n + j) u = E.cs (R.set i y) := by
  have e : E.cs R = E.cs (R.take i) ++ (E.c R[i] ++ E.cs (R.drop (i + 1))) := by rw [← Enc.cs_cons, ← Enc.cs_append, ← List.drop_eq_getElem_cons h, List.take_append_drop]
  have hl : (E.cs (R.take i)).length = i * E.n := by rw [Enc.cs_length, List.length_take, Nat.min_eq_left (by omega)]
  rw [e, List.set_append_right _ _ (by rw [hl]; omega), hl, Nat.add_sub_cancel_left, List.set_append_left _ _ (by rw [E.len]; exact hj), hy, List.set_eq_take_append_cons_drop, if_pos h, Enc.cs_append, Enc.cs_cons]
set_option maxHeartbeats 1000000 in
set_option maxRecDepth 100000 in
theorem cloneR_any {w : World} {v : Value} {l : List Rz} (h : RdG XE w v l) (hl : l.length ≤ 1000000) :
    Calls Try.prog 64 #[v] w fun e w' => ∃ v', e = .returned v' ∧ OwnG XE w' w.heap.size 64 v' l ∧ Below w.heap.size w w' := by
  have HR := hide h
  obtain ⟨a, cap, rfl, h1, h2, h3, h4⟩ := h
  clear h4
  have hq := fun W => Lib.run_eql_slice_nil (P := Try.prog) W 51 64 a l.length cap 0 0 Try.underlying51
  obtain ⟨n, HN⟩ : ∃ n, Hid (l.length = n) := ⟨_, rfl⟩
  rw [HN.out] at HR h1 hl hq ⊢
  go_enter Try.func64, Try.ntmps64
  cases a with
  | none =>
    have hc0 := h3 rfl
    have hl0 : l = [] := List.eq_nil_of_length_eq_zero (by rw [HN.out]; omega)
    obtain rfl : n = 0 := by omega
    subst hl0 hc0
    simp only [Option.isNone_none] at hq ⊢
    go_wp2
    go_ret
    exact ⟨_, rfl, ownG_nil _ _ _, Below.refl _ _⟩
  | some x =>
    simp only [Option.isNone_some] at hq
    have A1 : Hid (Below w.heap.size w (w.alloc (.cells #[] 64 (0, 0)))) := (Below.refl _ _).alloc (Nat.le_refl _) _
    have O1 : Hid (OwnG XE (w.alloc (.cells #[] 64 (0, 0))) w.heap.size 64 (.slice (some ⟨w.heap.size, 0, none⟩) 0 0) []) := own_empty w w.heap.size 64 (Nat.le_refl _)
    have R1 := hide (HR.out.kept A1.out)
    have hb1 : Hid (([] : List Rz).length + l.length ≤ 10000000) := (show 0 + l.length ≤ 10000000 by rw [HN.out]; omega)
    go_wp2_with (first
      | (refine wpList_append_E (E := XE) Try.underlying51 infoX (by decide) rfl (.tmp 5) (.tmp 6) rfl w.heap.size (.slice (some ⟨w.heap.size, 0, none⟩) 0 0) [] rfl O1.out _ l rfl R1.out hb1.out A1.out.size ?_; intro v9 w9 o9 g9 q9; have O9 := hide o9; have G9 := hide g9; clear o9 g9 q9; obtain ⟨p9, c9, hv9⟩ := O9.out.form; obtain ⟨n2, hn2⟩ : ∃ k, ([] ++ l : List Rz).length = k := ⟨_, rfl⟩; rw [hn2] at hv9; subst hv9)
      | fail)
    go_ret
    refine ⟨_, rfl, O9.out, A1.out.trans ((Chg.of_grown (F := fun k => k = w.heap.size) G9.out (fun k e _ => by simpa [Value.ownBlock] using e.symm)).below A1.out.size (fun k hk e => by omega))⟩
/-- A read with its pairs elsewhere. -/
def Rz.at (x : Rz) (a : Option Addr) (c : Nat) : Rz := ⟨x.sc, x.k, x.t, x.ps, a, c⟩
theorem szs : ∀ W : World, (sizeOf 29).run Try.prog W = .ok 1 W := fun W => by kernel_rfl
/-- What copied has made so far: its own row, in which the first reads have pairs of their own. -/
structure CopX (w : World) (B : Nat) (v : Value) (Q L : List Rz) (i : Nat) : Prop where
  row : OwnG XE w B 64 v L
  pl : L.map plR = Q.map plR
  rest : L.drop i = Q.drop i
  own : ∀ y ∈ L.take i, OwnG PE w B 48 (xv y) y.ps
theorem CopX.step {w w1 w2 : World} {B g n cap i : Nat} {Q L : List Rz} {x : Rz} {p : Option Addr} {c : Nat} (h : CopX w B (.slice (some ⟨g, 0, none⟩) n cap) Q L i) (hi : i < L.length) (hx : L[i] = x) (hb : Below w.heap.size w w1) (ho : OwnG PE w1 w.heap.size 48 (.slice p x.ps.length c) x.ps) (hB : B ≤ w.heap.size)
    {cur : List Value} (hcur : Blk w1 g 64 cur) (htk : cur.take (L.length * 4) = XE.cs L) (hcl : cur.length = cap * 4) (hg : B ≤ g ∧ n ≤ cap ∧ cap ≤ maxLen) (h2 : Blk w2 g 64 (cur.set (i * 4 + 3) (.slice p x.ps.length c))) (hu : But g w1 w2) :
    CopX w2 B (.slice (some ⟨g, 0, none⟩) n cap) Q (L.set i (x.at p c)) (i + 1) := by
  have hln : L.length = n := h.row.rd.len
  have hC : Chg (fun k => k = g) w1 w2 := Chg.of_but hu rfl
  have hne : ∀ {w' : World} {B' : Nat} {v : Value} {l : List Pr}, OwnG PE w' B' 48 v l → Blk w' g 64 cur → ∀ k, v.ownBlock = some k → ¬ k = g := fun h hc k hk e => by
    obtain ⟨_, _, cu, h5⟩ := h.block hk
    exact cells_ne h5 hc (by decide) e
  have hpl : plR (x.at p c) = plR x := rfl
  refine ⟨?_, ?_, ?_, fun y hy => ?_⟩
  · have hs : (XE.c L[i]).set 3 (.slice p x.ps.length c) = XE.c (x.at p c) := by rw [hx]; rfl
    have e := cs_set1 (E := XE) hi (by decide : 3 < XE.n) hs
    have hfin := OwnG.of_blk (E := XE) (B := B) (cap := cap) (L := L.set i (x.at p c)) h2 hg.1 (by
      rw [List.length_set, show XE.n = 4 from rfl, List.take_set, htk]
      exact e) (by rw [List.length_set]; exact hcl) (by rw [List.length_set, hln]; exact hg.2.1) hg.2.2
    rw [List.length_set, hln] at hfin
    exact hfin
  · rw [← h.pl, List.map_set, hpl, ← hx]
    exact List.ext_getElem (by simp) (fun j h1 h3 => by
      rw [List.getElem_set]
      split
      · rename_i e
        subst e
        simp
      · rfl)
  · rw [List.drop_set_of_lt (by omega)]
    have h1 := congrArg (List.drop 1) h.rest
    rw [List.drop_drop, List.drop_drop] at h1
    exact h1
  · have hlt : i < (L.set i (x.at p c)).length := by rw [List.length_set]; exact hi
    rw [List.take_succ_eq_append_getElem hlt, List.getElem_set_self, List.take_set_of_le (Nat.le_refl i)] at hy
    rcases List.mem_append.1 hy with hy | hy
    · have h1 := (h.own y hy).kept hb
      exact h1.chg hC (hne h1 hcur)
    · rw [List.mem_singleton] at hy
      subst hy
      exact (ho.chg hC (hne ho hcur)).mono hB
set_option maxHeartbeats 4000000 in
set_option maxRecDepth 100000 in
theorem zCopied_any {w : World} {v : Value} {Q : List Rz} (h : RdX w v Q) (hl : Q.length ≤ 1000000) (hp : ∀ x ∈ Q, x.ps.length ≤ 1000000) :
    Calls Try.prog 48 #[v] w fun e w' => ∃ v' L, e = .returned v' ∧ OwnR9 w' w.heap.size v' L ∧ L.map plR = Q.map plR ∧ Below w.heap.size w w' := by
  have HR := hide h
  have HPL := hide hp
  have CC := hide (cloneR_any h.rd hl)
  obtain ⟨n, HN⟩ : ∃ n, Hid (Q.length = n) := ⟨_, rfl⟩
  obtain ⟨N, HNw⟩ : ∃ N, Hid (w.heap.size = N) := ⟨_, rfl⟩
  rw [HNw.out] at CC ⊢
  clear h hp hl
  go_enter Try.func48, Try.ntmps48
  go_wp2_with fail
  refine CC.out.mono ?_
  rintro e w1 ⟨v1, rfl, ho, hb⟩
  have O1 := hide ho
  have L1 : Hid (Below N w w1) := hb
  obtain ⟨pa, cap, rfl⟩ := ho.form
  rw [HN.out] at O1 ⊢
  have hnm := Nat.le_trans O1.out.rd.cap O1.out.rd.max
  have X1 : Hid (CopX w1 N (.slice pa n cap) Q Q 0) := (show CopX _ _ _ _ _ _ from ⟨O1.out, rfl, rfl, fun y hy => by simp at hy⟩)
  clear ho hb CC
  go_wp2_with fail
  go_loopg [9] (n + 1) (fun g z wr => ∃ (i : Nat) (L : List Rz), i ≤ n ∧ g + i = n + 1 ∧ z = .int .i64 (i : Int) ∧ Hid (CopX wr N (.slice pa n cap) Q L i) ∧ Hid (Below N w wr))
  case atStart => exact ⟨0, Q, Nat.zero_le _, by omega, rfl, X1, L1⟩
  case round =>
    clear X1 L1 O1
    obtain ⟨i, L, hi, hg, rfl, XR, LR⟩ := hrel
    by_cases hlt : i < n
    · have hlt' : (i : Int) < (n : Int) := by omega
      have hLl : L.length = n := XR.out.row.rd.len
      have hiL : i < L.length := by omega
      have hiQ : i < Q.length := by rw [HN.out]; exact hlt
      have HLQ : Hid (L[i] = Q[i]) := (show L[i] = Q[i] by
        have h1 := XR.out.rest
        rw [List.drop_eq_getElem_cons hiL, List.drop_eq_getElem_cons hiQ] at h1
        exact (List.cons.inj h1).1)
      obtain ⟨g', cap', cur, hv, hBg, hB, htk, hcl, hlc, hcm⟩ := XR.out.row.blk (by omega)
      simp only [Value.slice.injEq] at hv
      obtain ⟨rfl, -, rfl⟩ := hv
      obtain ⟨x, HX⟩ : ∃ x, Hid (Q[i] = x) := ⟨Q[i], (show Q[i] = Q[i] from rfl)⟩
      have hXO := HR.out.ps _ (List.getElem_mem hiQ)
      have hXP := HPL.out _ (List.getElem_mem hiQ)
      rw [HX.out] at hXO hXP HLQ
      have bw : Below w.heap.size w wr := by rw [HNw.out]; exact LR.out
      have CP := hide (cloneP_any (RdG.kept hXO bw) hXP)
      have cc : wr.cell? ⟨g', i * 4 + 3, none⟩ = some (xv x) := by
        refine hB.cell ?_
        have h1 : (XE.cs L)[i * 4 + 3]? = some (xv x) := Enc.cs_get (E := XE) hiL (by rw [HLQ.out]; rfl)
        rw [← htk] at h1
        rw [List.getElem?_take] at h1
        split at h1
        · exact h1
        · cases h1
      have HB := hide hB
      have HTK := hide htk
      have HCL := hide hcl
      have HF : Hid (N ≤ g' ∧ n ≤ cap ∧ cap ≤ maxLen) := (show _ ∧ _ ∧ _ from ⟨hBg, by omega, hcm⟩)
      have HLL := hide hLl
      obtain ⟨M, HM⟩ : ∃ M, Hid (wr.heap.size = M) := ⟨_, rfl⟩
      rw [HM.out] at CP
      clear hXO hXP bw hB htk hcl hBg hlc hcm hLl
      go_wp2_with fail
      refine CP.out.mono ?_
      rintro e w2 ⟨v2, rfl, ho, hb⟩
      obtain ⟨p2, c2, rfl⟩ := ho.form
      have O2 := hide ho
      have L2 : Hid (Below M wr w2) := (show Below _ _ _ from hb)
      obtain ⟨m, HMm⟩ : ∃ m, Hid (x.ps.length = m) := ⟨_, rfl⟩
      rw [HMm.out] at O2 ⊢
      have B2 : Hid (Blk w2 g' 64 cur) := (show Blk _ _ _ _ from HB.out.kept (hb.mono (Nat.le_of_eq HM.out)))
      have hcl2 : i * 4 + 3 < cur.length := by have h1 := HCL.out; have h2 := HF.out; simp only [show XE.n = 4 from rfl] at h1; omega
      clear ho hb cc CP
      go_wp2_with (first
        | (refine wpList_store_sl rfl 29 szs _ _ rfl g' (i * 4 + 3) 64 cur _ _ _ rfl rfl B2.out hcl2 ?_; intro w3 hb3 hu3)
        | fail)
      have HML : M ≤ wr.heap.size := Nat.le_of_eq HM.out.symm
      have hNM : N ≤ wr.heap.size := by have := LR.out.size; have := HNw.out; omega
      have X3 : Hid (CopX w3 N (.slice (some ⟨g', 0, none⟩) n cap) Q (L.set i (x.at p2 c2)) (i + 1)) := (show CopX _ _ _ _ _ _ from
        XR.out.step hiL HLQ.out (by rw [HM.out]; exact L2.out) (by rw [HM.out, HMm.out]; exact O2.out) hNM B2.out (by have := HTK.out; exact this) HCL.out HF.out (by rw [HMm.out]; exact hb3) hu3)
      have L3 : Hid (Below N w w3) := (show Below _ _ _ from (LR.out.trans (L2.out.mono (by rw [← HM.out]; exact hNM))).trans (hu3.below HF.out.1 (by have := L2.out.size; omega)))
      clear hb3 hu3 hcl2
      go_roundg (n - i)
      case measure => omega
      case rel => exact ⟨i + 1, L.set i (x.at p2 c2), by omega, by omega, by go_num, X3, L3⟩
    · obtain rfl : i = n := by omega
      have hlt' : ¬ (i : Int) < i := by omega
      go_wp2_with fail
      go_ret
      refine ⟨_, rfl, L, ⟨XR.out.row, fun y hy => ?_⟩, XR.out.pl, LR.out⟩
      have hLl : L.length = i := XR.out.row.rd.len
      exact XR.out.own y (by rw [List.take_of_length_le (by omega)]; exact hy)
#print axioms zCopied_any
end Go.Proofs.Ytcicekggeampcaa
