/-
  The reference's log: what its calls do; that what its disk tells is new memory.
-/
import Derived.Test.YtgdhjgfoalianaaDoorGRb
import Derived.Test.YtgdhjgfoalianaaDoorQSame
import Derived.Test.YtgdhjgfoalianaaDoorGWb
namespace Go.Proofs.YtgdhjgfoalianaaDoor
open Go.RowKit
open Pd (DM)
set_option maxHeartbeats 2000000 in
set_option maxRecDepth 100000 in
theorem rReadN_any {w : World} {c : Nat → Nat} {i R n : Nat} {m : DM} (h : IsR w c i R n m) (p k : Int) (hpw : (Lit.int .i64 p).wf = true) (hkw : (Lit.int .i64 k).wf = true) : Calls Tryd.prog 56 #[.pointer (some ⟨R, 0, none⟩), .int .i64 p, .int .i64 k] w fun e w' => ∃ v, e = .returned (.tuple #[v, .int .i64 ((Pd.read m p k).2 : Int)]) ∧ Rd w' v (Pd.read m p k).1 ∧ (∀ x, InB v x → w.heap.size ≤ x) ∧ Below w.heap.size w w' := by
  obtain ⟨vn, vs, vd, vk, hA, hO, hn, -⟩ := h
  have HA : Hid (RAt w R vn vs vd vk m) := hA
  have hnow := hO.now
  obtain ⟨g, cap, hvn, hcap⟩ := Own.some hA.now (by omega)
  have c3 := hA.blk.cell (j := 3) rfl
  have c0 := hA.blk.cell (j := 0) rfl
  have bp := bounds_i64 hpw
  have bk := bounds_i64 hkw
  clear hA
  subst hvn
  obtain ⟨L, HL⟩ : ∃ L, Hid (m.now.length = L) := ⟨_, rfl⟩
  rw [HL.out] at c0 hnow hcap HA
  have HLn : Hid (L = 32 * n ∧ n ≤ 4096) := (show _ from ⟨hnow, hn.2.2⟩)
  have hL : L ≤ 131072 := by omega
  clear hn hO hnow
  go_enter Tryd.func56, Tryd.ntmps56
  cases ho : m.off with
  | true =>
    rw [ho] at c3
    have HE : Hid (Pd.read m p k = ([], 7)) := (show _ = _ by unfold Pd.read; rw [ho]; rfl)
    go_wp2
    go_ret2
    rw [HE.out]
    exact ⟨_, rfl, Rd_nil _, fun x hx => (by obtain ⟨_, _, _, e, _⟩ := hx; cases e), Below.refl _ _⟩
  | false =>
    rw [ho] at c3
    by_cases h1 : p < 0 ∨ k < 0 ∨ (L : Int) < p ∨ (L : Int) - p < k
    · have HE : Hid (Pd.read m p k = ([], 2)) := (show _ = _ by unfold Pd.read; rw [ho, if_neg (by simp), HL.out, if_pos h1])
      by_cases q1 : p < 0
      · have q1' : decide (p < 0) = true := by simpa using q1
        go_wp2
        go_ret2
        rw [HE.out]
        exact ⟨_, rfl, Rd_nil _, fun x hx => (by obtain ⟨_, _, _, e, _⟩ := hx; cases e), Below.refl _ _⟩
      have q1' : decide (p < 0) = false := by simpa using q1
      by_cases q2 : k < 0
      · have q2' : decide (k < 0) = true := by simpa using q2
        go_wp2
        go_ret2
        rw [HE.out]
        exact ⟨_, rfl, Rd_nil _, fun x hx => (by obtain ⟨_, _, _, e, _⟩ := hx; cases e), Below.refl _ _⟩
      have q2' : decide (k < 0) = false := by simpa using q2
      by_cases q3 : (L : Int) < p
      · have q3' : decide ((L : Int) < p) = true := by simpa using q3
        go_wp2
        go_ret2
        rw [HE.out]
        exact ⟨_, rfl, Rd_nil _, fun x hx => (by obtain ⟨_, _, _, e, _⟩ := hx; cases e), Below.refl _ _⟩
      have q3' : decide ((L : Int) < p) = false := by simpa using q3
      have q4 : (L : Int) - p < k := by omega
      have w4 : IntKind.i64.wrap ((L : Int) - p) = (L : Int) - p := wr64 (by omega) (by omega)
      have q4' : decide ((L : Int) - p < k) = true := by simpa using q4
      clear h1
      go_wp2
      go_ret2
      rw [HE.out]
      exact ⟨_, rfl, Rd_nil _, fun x hx => (by obtain ⟨_, _, _, e, _⟩ := hx; cases e), Below.refl _ _⟩
    · have HE : Hid (Pd.read m p k = ((m.now.drop p.toNat).take k.toNat, 0)) := (show _ = _ by unfold Pd.read; rw [ho, if_neg (by simp), HL.out, if_neg h1])
      obtain ⟨p', rfl⟩ : ∃ p' : Nat, p = (p' : Int) := ⟨p.toNat, by omega⟩
      obtain ⟨k', rfl⟩ : ∃ k' : Nat, k = (k' : Int) := ⟨k.toNat, by omega⟩
      have hpk : p' + k' ≤ L := by omega
      have q1' : decide ((p' : Int) < 0) = false := by simp
      have q2' : decide ((k' : Int) < 0) = false := by simp
      have q3' : decide ((L : Int) < (p' : Int)) = false := by simp; omega
      have w4 : IntKind.i64.wrap ((L : Int) - (p' : Int)) = (L : Int) - (p' : Int) := wr64 (by omega) (by omega)
      have q4' : decide ((L : Int) - (p' : Int) < (k' : Int)) = false := by simp; omega
      obtain ⟨e', HE'⟩ : ∃ e', Hid (p' + k' = e') := ⟨_, rfl⟩
      have w5 : IntKind.i64.wrap ((p' : Int) + (k' : Int)) = (e' : Int) := (wr64 (by omega) (by omega)).trans (by have := HE'.out; omega)
      have c0' := (HA.out.blk.alloc (.cells #[] 5 (0, 0))).cell (j := 0) rfl
      have HRn : Hid (Rd w (.slice (some ⟨g, 0, none⟩) L cap) m.now) := HA.out.now.rd
      obtain ⟨off, hsl, hpart⟩ := slice_part g L cap p' e' (by have := HE'.out; omega) (by have := HE'.out; omega) hcap
      have HR : Hid (Rd (w.alloc (.cells #[] 5 (0, 0))) (.slice (some ⟨g, off, none⟩) (e' - p') (cap - p')) ((m.now.drop p').take (e' - p'))) := (hpart w _ HRn.out).kept ((Below.refl _ _).alloc (Nat.le_refl _) _)
      have HLM : Hid (((m.now.drop p').take (e' - p')).length ≤ 131072) := (show _ ≤ _ by have := HL.out; have := HE'.out; simp; omega)
      obtain ⟨X, HX⟩ : ∃ X, Hid ((m.now.drop p').take (e' - p') = X) := ⟨_, rfl⟩
      rw [HX.out] at HR HLM
      have hX := HLM.out
      obtain ⟨i0, hi0, hz0, hz1, hz2⟩ := info_parts Tryd.info5
      clear h1 hpart
      go_wp2_with (first
        | (at_builtin; refine wpList_append_bytes _ rfl _ _ 33 33 rfl w.heap.size i0 Tryd.underlying33 hi0 hz0 hz1 hz2 _ [] rfl (own_none w _ (Nat.le_refl _)) _ X rfl (HR.out.src 33 Tryd.underlying33) (by simp; omega) (by simp) ?_; intro v1 w1 ho1 hb1; have HO1 : Hid (Own w1 w.heap.size v1 ([] ++ X)) := ho1; have HB1 : Hid (Below w.heap.size (w.alloc (.cells #[] 5 (0, 0))) w1) := hb1; clear ho1 hb1)
        | fail)
      go_ret2
      rw [HE.out]
      refine ⟨v1, rfl, ?_, fun x hx => HO1.out.inB hx, ((Below.refl _ _).alloc (Nat.le_refl _) _).trans HB1.out⟩
      have := Own.rd HO1.out
      rw [List.nil_append, ← HX.out, ← HE'.out] at this
      simpa using this


set_option maxRecDepth 100000 in
set_option maxHeartbeats 1000000 in
theorem padded_any (v : Value) (l : List UInt8) (w : World) (hr : Rd w v l) (hl : l.length ≤ 8192) :
    Calls Tryd.prog 38 #[v] w fun e w' => ∃ v', e = .returned v' ∧ Own w' w.heap.size v' (pad l) ∧ Below w.heap.size w w' := by
  obtain ⟨i0, hi, hz0, hz1, hz2⟩ := info_parts Tryd.info5
  have HR := hide hr
  obtain ⟨F, hF⟩ : ∃ F, F = framed l := ⟨_, rfl⟩
  have HF := hide hF
  have hFl : F.length ≤ 8300 := by rw [hF, framed_length]; have := enc_length l.length; omega
  obtain ⟨N, hN⟩ : ∃ N, N = ru F.length := ⟨_, rfl⟩
  have HN := hide hN
  have hN1 : F.length ≤ N := by rw [hN]; exact ru_ge _
  have hN2 : N < F.length + 32 := by rw [hN]; exact ru_lt _
  have hN3 : N % 32 = 0 := by rw [hN]; exact ru_mod _
  have HP : Hid (pad l = F ++ List.replicate (N - F.length) 0) := by rw [hN, hF]; rfl
  clear hF hN hr
  go_enter Tryd.func38, Tryd.ntmps38
  go_wp2_with fail
  refine (refFrame_any v l w HR.out hl).mono ?_
  rw [← HF.out]
  rintro e w1 ⟨v1, rfl, ho1, hb1⟩
  have HO1 : Hid (Own w1 w.heap.size v1 (F ++ List.replicate 0 0)) := (show Own _ _ _ _ by simpa using ho1)
  have HB1 := hide hb1
  clear ho1 hb1
  go_wp2_with fail
  go_loopg [3] (N - F.length) (fun g x wr => ∃ j : Nat, g + j = N - F.length ∧ Hid (Own wr w.heap.size x (F ++ List.replicate j 0)) ∧ Hid (Below w.heap.size w wr))
  case atStart => exact ⟨0, rfl, HO1, HB1⟩
  case round =>
    obtain ⟨j, hg, HO, HB⟩ := hrel
    obtain ⟨a, cap, hx⟩ := HO.out.form
    subst hx
    have hle : (F ++ List.replicate j (0 : UInt8)).length = F.length + j := by simp
    obtain ⟨E, hE⟩ : ∃ E, E = F.length + j := ⟨_, rfl⟩
    rw [hle, ← hE] at HO ⊢
    cases gk with
    | zero =>
      have q1 : (E : Int) % 32 = 0 := by omega
      have q2 : (E : Int).tmod 32 = 0 := by rw [Int.tmod_eq_emod_of_nonneg (by omega)]; exact q1
      have HJ : Hid (j = N - F.length) := (show _ = _ by omega)
      have q3 : ((E : Int) % 32 != 0) = false := by simpa using q1
      clear hg hE hle q1
      go_wp2_with fail
      go_ret
      refine ⟨_, rfl, ?_, HB.out⟩
      rw [HP.out, ← HJ.out]
      exact HO.out
    | succ g =>
      have q1 : ¬ (E : Int) % 32 = 0 := by omega
      have q2 : ¬ (E : Int).tmod 32 = 0 := by rw [Int.tmod_eq_emod_of_nonneg (by omega)]; exact q1
      have hE9 : E ≤ 8400 := by omega
      have hj9 : j ≤ 100 := by omega
      have HG : Hid (g + (j + 1) = N - F.length) := (show _ = _ by omega)
      have HL : Hid ((F ++ List.replicate j (0 : UInt8)).length = E) := (show _ = _ by omega)
      have hbs := HB.out.size
      have ha : Below wr.heap.size wr (wr.alloc (.cells #[.int .u8 0] 5 (0, 0))) := (Below.refl _ _).alloc (Nat.le_refl _) _
      have HA := hide ha
      have q3 : ((E : Int) % 32 != 0) = true := by simpa using q1
      clear hg hE hle q1 ha
      go_wp2_with (first
        | (at_builtin; refine wpList_append_bytes _ rfl _ _ 33 33 rfl w.heap.size i0 Tryd.underlying33 hi hz0 hz1 hz2 (.slice a E cap) (F ++ List.replicate j 0) rfl (HO.out.kept HA.out) _ [0] rfl (by exact (own_oneS' _ _ (Nat.le_refl _) (0 : UInt8) 0 rfl).rd.src 33 Tryd.underlying33) (by simp; omega) (by simp; omega) ?_; intro v2 w2 ho2 hb2)
        | fail)
      have HO2 : Hid (Own w2 w.heap.size v2 (F ++ List.replicate (j + 1) 0)) := by rw [List.replicate_succ', ← List.append_assoc]; exact ho2
      have HB2 : Hid (Below w.heap.size w w2) := (HB.out.trans (HA.out.mono hbs)).trans hb2
      clear ho2 hb2
      go_roundg g
      case measure => omega
      case rel => exact ⟨j + 1, HG.out, HO2, HB2⟩
#print axioms padded_any

/-- The reference's log in memory. -/
def QLogB (w : World) (M R E C Y : Nat) : Prop := Blk w M 47 [.pointer (some ⟨R, 0, none⟩), .int .i64 (E : Int), .int .i64 (C : Int), .int .i64 (Y : Int)]
theorem QLogB.step {w w' : World} {L D E C Y i : Nat} {c c' : Nat → Nat} (h : QLogB w L D E C Y) (hs : Step c i w c' w') (hL : c L ≠ i) : QLogB w' L D E C Y := Blk.chg h hs.chg hL
theorem QLogB.kept {w w' : World} {L D E C Y : Nat} (h : QLogB w L D E C Y) (hb : Below w.heap.size w w') : QLogB w' L D E C Y := Blk.kept h hb
theorem QLogB.lt {w : World} {L D E C Y : Nat} (h : QLogB w L D E C Y) : L < w.heap.size := Blk.lt h
theorem IsR.logged {w : World} {c : Nat → Nat} {i D n L : Nat} {m : DM} (h : IsR w c i D n m) (hL : c L = 9) (hi : i ≠ 9) (j : Nat) (v : Value) : IsR (w.setCell ⟨L, j, none⟩ v) c i D n m :=
  h.chg (F := fun k => k = L) (Chg.setCell (F := fun k => k = L) w rfl j v) (fun k _ hk e => by subst e; omega) (fun _ _ => rfl)

set_option maxRecDepth 100000 in
set_option maxHeartbeats 1000000 in
theorem qSync_any {w : World} {c : Nat → Nat} {i D n L E C Y : Nat} {m : DM} (h : IsR w c i D n m) (hc : ∀ k, w.heap.size ≤ k → c k = 0) (hL : QLogB w L D E C Y) (hL9 : c L = 9) (hi9 : i ≠ 9) :
    Calls Tryd.prog 17 #[.pointer (some ⟨L, 0, none⟩)] w fun e w' => e = .returned (.int .i64 ((Pd.sync m).1 : Int)) ∧ ∃ c', IsR w' c' i D n (Pd.sync m).2 ∧ StepL c i L w c' w' ∧ QLogB w' L D E C (if (Pd.sync m).1 = 0 then C else Y) := by
  have H := hide (rSync_any h hc)
  have HL := hide hL
  have HL9 := hide hL9
  have HI9 := hide hi9
  have c0 := Blk.cell hL (j := 0) rfl
  clear h hc hL hL9 hi9
  generalize Pd.sync m = z at H ⊢
  obtain ⟨er, m1⟩ := z
  go_enter Tryd.func17, Tryd.ntmps17
  go_wp2_with fail
  refine H.out.mono ?_
  rintro e w1 ⟨rfl, c1, hd1, hs1⟩
  have HD1 : Hid (IsR w1 c1 i D n m1) := hd1
  have HS1 := hide hs1
  have HL1 : Hid (QLogB w1 L D E C Y) := HL.out.step hs1 (by have := HL9.out; have := HI9.out; omega)
  have H91 : Hid (c1 L = 9) := (hs1.ext L HL.out.lt).trans HL9.out
  have c2 := Blk.cell HL1.out (j := 2) rfl
  have c3 := Blk.cell HL1.out (j := 3) rfl
  have f3 := Blk.frozen HL1.out 3
  clear hd1 hs1 c0
  by_cases he : er = 0
  · subst he
    go_wp2_with fail
    go_ret
    exact ⟨rfl, c1, HD1.out.logged H91.out HI9.out 3 _, ⟨(HS1.out.log L).chg.trans (Chg.setCell _ (.inr rfl) _ _), HS1.out.ext, fun k hk => HS1.out.norm k (by simpa using hk)⟩, Blk.set HL1.out 3 _⟩
  · have he' : ¬ (er : Int) = 0 := by omega
    go_wp2_with fail
    go_ret
    exact ⟨rfl, c1, HD1.out, HS1.out.log L, HL1.out⟩

set_option maxRecDepth 100000 in
set_option maxHeartbeats 1000000 in
theorem qAppend_any {w : World} {c : Nat → Nat} {i D n L E C Y : Nat} {m : DM} (h : IsR w c i D n m) (hc : ∀ k, w.heap.size ≤ k → c k = 0) (hL : QLogB w L D E C Y) (hL9 : c L = 9) (hi9 : i ≠ 9)
    (v : Value) (l : List UInt8) (hr : Rd w v l) (hE : E ≤ 1000000) (hC : C ≤ 1000000) :
    Calls Tryd.prog 15 #[.pointer (some ⟨L, 0, none⟩), v] w fun e w' => e = .returned (.int .i64 ((appD m E l).1 : Int)) ∧ ∃ c', IsR w' c' i D n (appD m E l).2 ∧ StepL c i L w c' w' ∧
      QLogB w' L D (if (appD m E l).1 = 0 then E + (pad l).length else E) (if (appD m E l).1 = 0 then C + 1 else C) Y := by
  obtain ⟨a, cap, hv⟩ := hr.slice
  subst hv
  have H := hide h
  have HN := hide hc
  have HL := hide hL
  have HL9 := hide hL9
  have HI9 := hide hi9
  have HR := hide hr
  clear h hc hL hL9 hi9 hr
  by_cases hl : 8192 < l.length
  · have q1 : (8192 : Int) < (l.length : Int) := by omega
    have HA : Hid (appD m E l = (12, m)) := if_pos hl
    rw [HA.out]
    clear hl
    go_enter Tryd.func15, Tryd.ntmps15
    go_wp2_with fail
    go_ret
    exact ⟨rfl, c, H.out, ⟨Chg.refl _ _, fun _ _ => rfl, HN.out⟩, HL.out⟩
  · have q1 : ¬ (8192 : Int) < (l.length : Int) := by omega
    have HA : Hid (appD m E l = Pd.write m (E : Int) (pad l)) := if_neg hl
    rw [HA.out]
    have hl8 : l.length ≤ 8192 := by omega
    have hP : (pad l).length ≤ 8400 := by rw [pad_length]; have := ru_lt (framed l).length; have := framed_length l; have := enc_length l.length; omega
    clear hl
    obtain ⟨P, hPP⟩ : ∃ P, P = pad l := ⟨_, rfl⟩
    rw [← hPP] at hP ⊢
    have HP := hide hPP
    clear hPP
    obtain ⟨er, m2, hz⟩ : ∃ er m2, Pd.write m (E : Int) P = (er, m2) := ⟨_, _, rfl⟩
    rw [hz]
    have HZ := hide hz
    clear hz
    go_enter Tryd.func15, Tryd.ntmps15
    go_wp2_with fail
    refine (padded_any _ l _ HR.out hl8).mono ?_
    rw [← HP.out]
    rintro e w1 ⟨v1, rfl, ho1, hb1⟩
    obtain ⟨a1, cap1, hv1⟩ := ho1.form
    subst hv1
    have HO1 := hide ho1
    have HB1 := hide hb1
    have HL1 : Hid (QLogB w1 L D E C Y) := HL.out.kept hb1
    have HD1 : Hid (IsR w1 c i D n m) := H.out.kept hb1 (fun _ _ => rfl)
    clear ho1 hb1
    have HD2 : Hid (IsR w1.drew c i D n m) := HD1.out.kept ⟨rfl, rfl, rfl, Nat.le_refl _, fun _ _ => rfl⟩ (fun _ _ => rfl)
    have HN2 : Hid (∀ k, w1.drew.heap.size ≤ k → c k = 0) := fun k hk => HN.out k (Nat.le_trans HB1.out.size hk)
    have HR2 : Hid (Rd w1.drew (.slice a1 P.length cap1) P) := HO1.out.rd.kept ⟨rfl, rfl, rfl, Nat.le_refl _, fun _ _ => rfl⟩
    have HV2 : Hid (Cool c (.slice a1 P.length cap1)) := fun x hx => HN.out x (HO1.out.inB hx)
    have hw := rWrite_any HD2.out HN2.out (E : Int) (wf_nat (by omega)) _ P HR2.out HV2.out (by omega)
    rw [HZ.out] at hw
    have HW := hide hw
    clear hw
    have c0 := (Blk.drew HL1.out).cell (j := 0) rfl
    have c1 := (Blk.drew HL1.out).cell (j := 1) rfl
    go_upto_region 4 with fail
    refine wp_region_still_tail 9 Tryd.mixed (by kernel_rfl) ?_
    simp only [List.take_succ_cons, List.take_zero, List.drop_succ_cons, List.drop_zero]
    iterate 9 still_step
    refine wpStill_nil ?_
    clear c0 c1
    go_wp2_with fail
    refine HW.out.mono ?_
    rintro e w3 ⟨rfl, c3, hd3, hs3⟩
    have HD3 : Hid (IsR w3 c3 i D n m2) := hd3
    have HS3 : Hid (Step c i w c3 w3) := (Step.keptS (w' := w1.drew) HN.out (HB1.out.trans ⟨rfl, rfl, rfl, Nat.le_refl _, fun _ _ => rfl⟩)).thenS hs3
    have H93 : Hid (c3 L = 9) := (HS3.out.ext L HL.out.lt).trans HL9.out
    have HL3 : Hid (QLogB w3 L D E C Y) := QLogB.step (w := w1.drew) (Blk.drew HL1.out) hs3 (by have := HL9.out; have := HI9.out; omega)
    have c0 := Blk.cell HL3.out (j := 1) rfl
    have f0 := Blk.frozen HL3.out 1
    have HL4 := hide (Blk.set HL3.out 1 (.int .i64 ((E : Int) + (P.length : Int))))
    have c1 := HL4.out.cell (j := 2) rfl
    have f1 := HL4.out.frozen 2
    clear hd3 hs3
    by_cases he : er = 0
    · subst he
      go_wp2_with fail
      go_ret
      refine ⟨rfl, c3, (HD3.out.logged H93.out HI9.out 1 _).logged H93.out HI9.out 2 _, ⟨?_, HS3.out.ext, fun k hk => HS3.out.norm k (by simpa using hk)⟩, ?_⟩
      · exact ((HS3.out.log L).chg.trans (Chg.setCell _ (.inr rfl) _ _)).trans (Chg.setCell _ (.inr rfl) _ _)
      · have := Blk.set HL4.out 2 (.int .i64 ((C : Int) + 1))
        simpa [QLogB] using this
    · have he' : ¬ (er : Int) = 0 := by omega
      go_wp2_with fail
      go_ret
      exact ⟨rfl, c3, HD3.out, HS3.out.log L, HL3.out⟩
#print axioms qAppend_any
end Go.Proofs.YtgdhjgfoalianaaDoor
