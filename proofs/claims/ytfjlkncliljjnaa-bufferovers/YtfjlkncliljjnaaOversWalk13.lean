/-
  BufferOvers: what the call does.
-/
import Derived.Test.YtfjlkncliljjnaaBfF
import Derived.Test.YtfjlkncliljjnaaBfSm
import Derived.Test.YtfjlkncliljjnaaBfI
import Derived.Test.YtfjlkncliljjnaaBfY
import Derived.Test.YtfjlkncliljjnaaBfU
import Derived.Test.YtfjlkncliljjnaaRegion7
namespace Go.Proofs.Ytfjlkncliljjnaa
open Go.RowKit
theorem run_step {A : List Pr} {i : Nat} (hi : i < A.length) : runB (A.take (i + 1)) = wrB (runB (A.take i)) (actP A[i]) := by rw [List.take_succ_eq_append_getElem hi, runB_snoc]
/-- A Buffer and the document's, with the same pairs. -/
structure BB (w : World) (D M R : Nat) (L : List Pr) : Prop where
  b : BAt w D M L
  r : ∃ vr, RBf w R vr L
theorem BB.kept {w w' : World} {D M R : Nat} {L : List Pr} (h : BB w D M R L) (hb : Below w.heap.size w w') : BB w' D M R L := ⟨h.b.kept hb, by obtain ⟨vr, hr⟩ := h.r; exact ⟨vr, hr.kept hb⟩⟩
theorem BB.ne {w : World} {D M R : Nat} {L : List Pr} (h : BB w D M R L) : D ≠ R ∧ M ≠ R := by
  obtain ⟨vr, hr⟩ := h.r
  refine ⟨fun e => ?_, fun e => ?_⟩
  · have := hr.d
    rw [← e] at this
    have := h.b.d.symm.trans this
    simp at this
  · obtain ⟨es, c, hm⟩ := h.b.mp.block
    rw [e] at hm
    have := hr.d.symm.trans hm
    cases this
/-- Behind a write to the one. -/
theorem RBf.past {w w' : World} {D M R : Nat} {vr : Value} {L K : List Pr} (h : RBf w R vr L) (hb : BAt w D M K) (hc : Chg (fun b => b = M) w w') : RBf w' R vr L := by
  refine h.chg hc (fun e => ?_) (fun b hv e => (hb.apart h.own hv).2 e)
  obtain ⟨es, c, hm⟩ := hb.mp.block
  rw [← e] at hm
  have := h.d.symm.trans hm
  cases this
/-- Behind a write to the other. -/
theorem BAt.past {w w' : World} {D M R : Nat} {vr : Value} {L K : List Pr} (hb : BAt w D M K) (h : RBf w R vr L) (hc : Chg (fun b => b = R) w w') : BAt w' D M K := by
  refine hb.chg hc (fun e => ?_) (fun e => ?_)
  · have h1 := h.d
    rw [← e] at h1
    have := hb.d.symm.trans h1
    simp at this
  · obtain ⟨es, c, hm⟩ := hb.mp.block
    rw [e] at hm
    have := h.d.symm.trans hm
    cases this
theorem wpSeqW_value {P : Program} {ops : Array Oper} {o : Oper} {r : List Oper} {a : Act} {w : World} {Q : Exit → Act → World → Prop} (hw : Region.wanted o (yielded ops a.tmps) = true) (v : Value) (hrun : (execOp a.eval o).run P w = .ok (.value v) w)
    (h : wpSeqW P ops Q r (a.put o.dst v) w) : wpSeqW P ops Q (o :: r) a w := by
  refine ⟨hw, ?_⟩
  unfold Oper.wp
  rw [hrun]
  exact ⟨v, rfl, h⟩
set_option maxHeartbeats 8000000 in
set_option maxRecDepth 100000 in
theorem bufferOvers_any {w : World} {va : Value} {A : List Pr} (ha : RdG PE w va A) (oa : ∀ x ∈ A, PrOk x) {vl : Value} {l : List Pr} (hl : RdG PE w vl l) (ol : ∀ x ∈ l, PrOk x) {x : Rg} (ox : RgOk x) :
    Calls Try.prog 4 #[va, vl, .agg (RGC x).toArray] w fun e w' => e = .returned (.bool true) ∧ Below w.heap.size w w' := by
  have za := Zact
  have zp' := Zpair
  have HA := hide ha
  have HLl := hide hl
  have OA := hide oa
  have OL := hide ol
  have OX := hide ox
  obtain ⟨a, c, rfl⟩ := ha.slice
  obtain ⟨al, cl, rfl⟩ := hl.slice
  have hm := Nat.le_trans ha.cap ha.max
  obtain ⟨n, HN⟩ : ∃ n, Hid (A.length = n) := ⟨_, rfl⟩
  obtain ⟨nl, HNl⟩ : ∃ n, Hid (l.length = n) := ⟨_, rfl⟩
  obtain ⟨N, HNw⟩ : ∃ N, Hid (w.heap.size = N) := ⟨_, rfl⟩
  obtain ⟨fs, HFS⟩ : ∃ N, Hid (x.1.size = N) := ⟨_, rfl⟩
  obtain ⟨ts, HTS⟩ : ∃ N, Hid (x.2.1.size = N) := ⟨_, rfl⟩
  have hfs : fs ≤ 140737488355328 := by rw [← HFS.out]; exact ox.1
  have hts : ts ≤ 140737488355328 := by rw [← HTS.out]; exact ox.2
  have lf := len_run x.1 fs HFS.out
  have lt' := len_run x.2.1 ts HTS.out
  rw [HN.out] at HA hm ⊢
  rw [HNl.out] at HLl ⊢
  rw [HNw.out]
  clear ha oa hl ol ox
  obtain ⟨w0, hw0⟩ : ∃ z, z = w.alloc (.cells (RGC x).toArray 46 (0, 0)) := ⟨_, rfl⟩
  have B0 : Hid (Blk w0 N 46 (RGC x)) := (show Blk _ _ _ _ by rw [hw0, ← HNw.out]; exact Blk.new w 46 (RGC x))
  have hb0 : Below w.heap.size w w0 := by rw [hw0]; exact (Below.refl _ _).alloc (Nat.le_refl _) _
  have L0 : Hid (Below N w w0) := (show _ from hb0.mono (Nat.le_of_eq HNw.out.symm))
  have HLI := light_any (HA.out.kept hb0) (HLl.out.kept hb0) OA.out OL.out
  rw [HN.out, HNl.out] at HLI
  have HLI := hide HLI
  have HW0 := hide hw0
  clear hb0 hw0
  go_enter Try.func4, Try.ntmps4
  go_upto_region 1 with fail
  change Code.wp _ _ _ _ (w.alloc (.cells (RGC x).toArray 46 (0, 0)))
  rw [← HW0.out, HNw.out]
  go_wp2_with fail
  refine HLI.out.mono ?_
  rintro e w1 ⟨b, rfl, hb1, hb2⟩
  have hN0 : Hid (N ≤ w0.heap.size) := (show _ ≤ _ from Nat.le_of_lt B0.out.lt)
  have L1 : Hid (Below N w w1) := (show _ from L0.out.trans (hb1.mono hN0.out))
  have B1 := hide (B0.out.kept hb1)
  have CLV := hide (lives_any w1)
  have LV : Hid (∀ w2, Below w1.heap.size w1 w2 → Below N w w2) := (show ∀ w2, Below w1.heap.size w1 w2 → Below N w w2 from fun w2 h => L1.out.trans (h.mono (by have := L1.out.size; have := HNw.out; omega)))
  clear HLI hb1 B0 L0 HW0 hN0
  cases b with
  | false =>
    go_wp2_with fail
    refine CLV.out.mono ?_
    rintro e w9 ⟨rfl, hb9⟩
    have HB9 := hide hb9
    clear hb9
    go_wp2_with fail
    go_ret
    exact ⟨rfl, LV.out _ HB9.out⟩
  | true =>
    have hnl : nl ≤ 150 := (hb2 rfl).2
    have CR := hide (rises_any (HLl.out.kept (L1.out.mono (Nat.le_of_eq HNw.out))))
    clear hb2 CLV
    go_wp2_with fail
    refine CR.out.mono ?_
    rintro e w2 ⟨br, rfl, hb2, hrs⟩
    have L2 : Hid (Below N w w2) := (show _ from LV.out _ hb2)
    have B2 := hide (B1.out.kept hb2)
    have CLV := hide (lives_any w2)
    clear hb2 CR LV L1 hrs B1
    have LV : Hid (∀ w3, Below w2.heap.size w2 w3 → Below N w w3) := (show ∀ w3, Below w2.heap.size w2 w3 → Below N w w3 from fun w3 h => L2.out.trans (h.mono (by have := L2.out.size; have := HNw.out; omega)))
    cases br with
    | false =>
      go_wp2_with fail
      refine CLV.out.mono ?_
      rintro e w9 ⟨rfl, hb9⟩
      have HB9 := hide hb9
      clear hb9
      go_wp2_with fail
      go_ret
      exact ⟨rfl, LV.out _ HB9.out⟩
    | true =>
      have c0 : w2.cell? ⟨N, 0, none⟩ = some (.string x.1) := B2.out.cell (j := 0) rfl
      have c1 : w2.cell? ⟨N, 1, none⟩ = some (.string x.2.1) := B2.out.cell (j := 1) rfl
      by_cases h300 : 300 < fs + ts
      · have q1 : decide (300 < (fs : Int) + (ts : Int)) = true := by simp; omega
        go_wp2_with fail
        refine CLV.out.mono ?_
        rintro e w9 ⟨rfl, hb9⟩
        have HB9 := hide hb9
        clear hb9
        go_wp2_with fail
        go_ret
        exact ⟨rfl, LV.out _ HB9.out⟩
      · have q1 : decide (300 < (fs : Int) + (ts : Int)) = false := by simp; omega
        have q2 : decide (300 < (fs : Int)) = false := by simp; omega
        have CN := hide (bNew_any w2)
        clear CLV
        go_wp2_with fail
        refine CN.out.mono ?_
        rintro e w3 ⟨D, M, rfl, h3, hD, hM, hb3⟩
        obtain ⟨R, HE⟩ : ∃ E, Hid (w3.heap.size = E) := ⟨_, rfl⟩
        obtain ⟨w4, hw4⟩ : ∃ y, y = w3.alloc (.cells #[.slice none 0 0] 30 (0, 0)) := ⟨_, rfl⟩
        have hb4 : Below w3.heap.size w3 w4 := by rw [hw4]; exact (Below.refl _ _).alloc (Nat.le_refl _) _
        have H4 : Hid (BB w4 D M R []) := (show BB _ _ _ _ _ from ⟨h3.kept hb4, _, ⟨by rw [hw4, ← HE.out]; exact Blk.new w3 30 [.slice none 0 0], ownG_nil _ _ _⟩⟩)
        have L3 : Hid (Below N w w3) := (show _ from LV.out _ hb3)
        have L4 : Hid (Below N w w4) := (show _ from L3.out.trans (hb4.mono (by have := L3.out.size; have := HNw.out; omega)))
        have X4 := hide ((B2.out.kept hb3).kept hb4)
        have HAP : Hid (N < D ∧ N < M ∧ N < R) := (show N < D ∧ N < M ∧ N < R from by
          have h0 := B2.out.lt
          have h4 := h3.d.lt
          have h5 := HE.out
          omega)
        have zr : ∀ W : World, (Instr.build 30 #[]).run Try.prog W = .ok (.agg #[.slice none 0 0]) W := fun W => by kernel_rfl
        have HW4 := hide hw4
        clear h3 hD hM hb3 hb4 hw4 CN LV L2 L3 B2 c0 c1 lf lt'
        go_upto_region 4 with fail
        rw [← HW4.out, HE.out]
        go_wp2_with fail
        clear HW4 HE zr
        go_loopg [42] (n + 1) (fun g z wr => ∃ (i : Nat), i ≤ n ∧ g + i = n + 1 ∧ z = .int .i64 (i : Int) ∧ Hid (BB wr D M R (runB (A.take i))) ∧ Hid (Blk wr N 46 (RGC x)) ∧ Hid (Below N w wr))
        case atStart => exact ⟨0, Nat.zero_le _, by omega, rfl, H4, X4, L4⟩
        case round =>
          obtain ⟨i, hi, hg, rfl, HB, HX, BL⟩ := hrel
          clear H4 L4 X4
          by_cases hlt : i < n
          · have hlt' : (i : Int) < (n : Int) := by omega
            have hlt2 : i < A.length := by rw [HN.out]; exact hlt
            have bw : Below w.heap.size w wr := BL.out.mono (Nat.le_of_eq HNw.out)
            obtain ⟨bb, off, rfl, hb1, hx⟩ := (HA.out.kept bw).nth (by omega)
            have hrow : wr.rangeAt bb (off + i * 3) (PC A[i]) := hx i hlt2
            have hok := OA.out A[i] (List.getElem_mem hlt2)
            have hst := run_step hlt2
            obtain ⟨p, HP⟩ : ∃ p, Hid (A[i] = p) := ⟨A[i], (show A[i] = A[i] from rfl)⟩
            rw [HP.out] at hrow hok hst
            have HOK : Hid (p.1.size ≤ maxLen) := (show _ ≤ _ by have := hok.1; simp only [maxLen]; omega)
            obtain ⟨L, HL⟩ : ∃ L, Hid (runB (A.take i) = L) := ⟨_, rfl⟩
            rw [HL.out] at HB hst
            have HST := hide hst
            have HSrt := hide HB.out.b.srt
            have HLen := hide HB.out.b.len
            obtain ⟨w3, hw3⟩ : ∃ y, y = wr.alloc (.cells (PC p).toArray 32 (0, 0)) := ⟨_, rfl⟩
            obtain ⟨E3, HE3⟩ : ∃ E, Hid (wr.heap.size = E) := ⟨_, rfl⟩
            have B3 : Blk w3 E3 32 (PC p) := by rw [hw3, ← HE3.out]; exact Blk.new wr 32 (PC p)
            have hb3 : Below wr.heap.size wr w3 := by rw [hw3]; exact (Below.refl _ _).alloc (Nat.le_refl _) _
            have L3 : Hid (Below N w w3) := (show _ from BL.out.trans (hb3.mono (by have := BL.out.size; have := HNw.out; omega)))
            have H3 := hide (HB.out.kept hb3)
            have HBk3 := hide B3
            have HAE : Hid (D < E3 ∧ M < E3 ∧ R < E3 ∧ N ≤ E3) := (show D < E3 ∧ M < E3 ∧ R < E3 ∧ N ≤ E3 from by
              have h3 := HB.out.b.d.lt
              have h4 := HB.out.b.mp.lt
              have h5 : R < wr.heap.size := by obtain ⟨vr, hr⟩ := HB.out.r; exact hr.d.lt
              have h6 := HE3.out
              have h7 := BL.out.size
              have h8 := HNw.out
              omega)
            have X3 := hide (HX.out.kept hb3)
            obtain ⟨rr, HR⟩ : ∃ r, Hid (wrE L (actP p) = r) := ⟨_, rfl⟩
            have CD := do_any H3.out.b p HOK.out
            rw [HR.out] at CD
            have HCD := hide CD
            have HW3 := hide hw3
            clear hx hb3 hw3 bw B3 hok hst CD
            go_wp2_with (first
              | (refine wpList_load_mid rfl 32 _ rfl bb (off + i * 3) rfl (PC p) _ hrow Try.underlying32 rfl Try.size32 ?_)
              | (refine wpList_store_new rfl 32 _ _ rfl wr _ (PC p).toArray _ rfl rfl rfl Try.size32 rfl (all_one (PC_one p)) ?_; rw [← HW3.out, HE3.out])
              | (refine wpList_load_mid rfl 32 _ rfl E3 0 rfl (PC p) _ HBk3.out.range0 Try.underlying32 rfl Try.size32 ?_)
              | fail)
            refine HCD.out.mono ?_
            rintro e w4 ⟨rfl, h4, c4⟩
            have HB4 := hide h4
            obtain ⟨vr, hr3⟩ := H3.out.r
            have HR4 := hide (hr3.past H3.out.b c4)
            have HBk4 := hide (HBk3.out.chg c4 (fun e => by have := HAE.out.2.1; omega))
            have L4 : Hid (Below N w w4) := (show _ from L3.out.trans (c4.below (by have := L3.out.size; have := HNw.out; omega) (fun k hk e => by have := HAP.out.2.1; omega)))
            have X4 := hide (X3.out.chg c4 (fun e => by have := HAP.out.2.1; omega))
            have ck := HBk4.out.key
            have cv := HBk4.out.val
            have cd := HBk4.out.dead
            obtain ⟨dd, HD⟩ : ∃ d, Hid (p.2.2 = d) := ⟨_, rfl⟩
            rw [HD.out] at cd
            clear h4 c4 hr3 HB H3 HX X3 HBk3 HW3 HCD L3
            cases dd with
            | true =>
              have HAc : Hid (actP p = (p.1, em, true)) := (show _ = _ by unfold actP; rw [if_pos HD.out])
              rw [HAc.out] at HB4 HR HST
              have CP := rDrop_any HR4.out HSrt.out HLen.out p.1
              rw [HR.out] at CP
              have HCP := hide CP
              clear CP
              go_wp2_with fail
              refine HCP.out.mono ?_
              rintro e w5 ⟨rfl, vr5, h5, c5⟩
              have HB5 := hide (HB4.out.past HR4.out c5)
              have HR5 := hide h5
              have X5 := hide (X4.out.chg c5 (fun e => by have := HAP.out.2.2; omega))
              have L5 : Hid (Below N w w5) := (show _ from L4.out.trans (c5.below (by have := L4.out.size; have := HNw.out; omega) (fun k hk e => by have := HAP.out.2.2; omega)))
              clear h5 c5 ck cv cd HB4 HR4 HBk4 L4 X4 HCP
              go_wp2_with fail
              go_roundg (n - i)
              case measure => omega
              case rel => exact ⟨i + 1, by omega, by omega, by go_num, (show BB _ _ _ _ _ by rw [HST.out]; exact ⟨HB5.out, _, HR5.out⟩), X5, L5⟩
            | false =>
              have HAc : Hid (actP p = (p.1, p.2.1, false)) := (show _ = _ by unfold actP; rw [if_neg (by rw [HD.out]; simp)])
              rw [HAc.out] at HB4 HR HST
              have CP := rPut_any HR4.out HSrt.out HLen.out p.1 p.2.1
              rw [HR.out] at CP
              have HCP := hide CP
              clear CP
              go_wp2_with fail
              refine HCP.out.mono ?_
              rintro e w5 ⟨rfl, vr5, h5, c5⟩
              have HB5 := hide (HB4.out.past HR4.out c5)
              have HR5 := hide h5
              have X5 := hide (X4.out.chg c5 (fun e => by have := HAP.out.2.2; omega))
              have L5 : Hid (Below N w w5) := (show _ from L4.out.trans (c5.below (by have := L4.out.size; have := HNw.out; omega) (fun k hk e => by have := HAP.out.2.2; omega)))
              clear h5 c5 ck cv cd HB4 HR4 HBk4 L4 X4 HCP
              go_wp2_with fail
              go_roundg (n - i)
              case measure => omega
              case rel => exact ⟨i + 1, by omega, by omega, by go_num, (show BB _ _ _ _ _ by rw [HST.out]; exact ⟨HB5.out, _, HR5.out⟩), X5, L5⟩
          · obtain rfl : i = n := by omega
            have hlt' : ¬ (i : Int) < (i : Int) := by omega
            obtain ⟨L, HL⟩ : ∃ L, Hid (runB (A.take i) = L) := ⟨_, rfl⟩
            rw [HL.out] at HB
            have HBb := hide HB.out.b
            obtain ⟨vr, hr⟩ := HB.out.r
            have HRr := hide hr
            obtain ⟨a5, c5, rfl⟩ := hr.own.rd.slice
            obtain ⟨n5, HN5⟩ : ∃ n, Hid (L.length = n) := ⟨_, rfl⟩
            rw [HN5.out] at HRr
            clear hr HB
            go_upto_region 12 with fail
            refine wp_region_tailsW Try.mixed (KS (fun i_ => match i_ with | 0 => .val (.pointer (some ⟨D, 0, none⟩)) | 1 | 10 | 20 | 26 => .val (.slice al nl cl) | 2 | 11 => .val (.pointer (some ⟨N, 0, none⟩)) | 3 | 12 => .val (.string x.1) | 4 | 13 => .val (.pointer (some ⟨N, 1, none⟩)) | 5 | 14 => .val (.string x.2.1) | 6 | 15 => .val (.pointer (some ⟨N, 2, none⟩)) | 7 | 16 => .val (.int .i64 x.2.2) | 8 | 17 => .of (fun W y => RdG PE W y (overB l L x.1 x.2.1 x.2.2)) (fun _ _ _ hg h => RdG.kept h hg) | 9 | 21 | 22 | 23 | 27 | 28 | 29 => .val (.pointer (some ⟨R, 0, none⟩)) | 18 | 19 | 32 | 33 | 34 | 35 => .val (.bool true) | 24 | 30 => .val (.slice a5 n5 c5) | 25 | 31 => .of (fun W y => RdG PE W y (ovl l L)) (fun _ _ _ hg h => RdG.kept h hg) | _ => .free)) 99 rfl (by decide +kernel) 36 (by decide) (by decide +kernel) (KS_mono _) ?_ ?_
            · refine AllFrom.cons (fun a' w' hg hk hd => ?_) (AllFrom.cons (fun a' w' hg hk hd => ?_) (AllFrom.cons (fun a' w' hg hk hd => ?_) (AllFrom.cons (fun a' w' hg hk hd => ?_) (AllFrom.cons (fun a' w' hg hk hd => ?_) (AllFrom.cons (fun a' w' hg hk hd => ?_) (AllFrom.cons (fun a' w' hg hk hd => ?_) (AllFrom.cons (fun a' w' hg hk hd => ?_) (AllFrom.cons (fun a' w' hg hk hd => ?_) (AllFrom.cons (fun a' w' hg hk hd => ?_) (AllFrom.cons (fun a' w' hg hk hd => ?_) (AllFrom.cons (fun a' w' hg hk hd => ?_) (AllFrom.cons (fun a' w' hg hk hd => ?_) (AllFrom.cons (fun a' w' hg hk hd => ?_) (AllFrom.cons (fun a' w' hg hk hd => ?_) (AllFrom.cons (fun a' w' hg hk hd => ?_) (AllFrom.cons (fun a' w' hg hk hd => ?_) (AllFrom.cons (fun a' w' hg hk hd => ?_) (AllFrom.cons (fun a' w' hg hk hd => ?_) (AllFrom.cons (fun a' w' hg hk hd => ?_) (AllFrom.cons (fun a' w' hg hk hd => ?_) (AllFrom.cons (fun a' w' hg hk hd => ?_) (AllFrom.cons (fun a' w' hg hk hd => ?_) (AllFrom.cons (fun a' w' hg hk hd => ?_) (AllFrom.cons (fun a' w' hg hk hd => ?_) (AllFrom.cons (fun a' w' hg hk hd => ?_) (AllFrom.cons (fun a' w' hg hk hd => ?_) (AllFrom.cons (fun a' w' hg hk hd => ?_) (AllFrom.cons (fun a' w' hg hk hd => ?_) (AllFrom.cons (fun a' w' hg hk hd => ?_) (AllFrom.cons (fun a' w' hg hk hd => ?_) (AllFrom.cons (fun a' w' hg hk hd => ?_) (AllFrom.cons (fun a' w' hg hk hd => ?_) (AllFrom.cons (fun a' w' hg hk hd => ?_) (AllFrom.cons (fun a' w' hg hk hd => ?_) (AllFrom.cons (fun a' w' hg hk hd => ?_) AllFrom.nil)))))))))))))))))))))))))))))))))))
              · -- 0: Op.move (Operand.tmp 7)
                have e7 : a'.eval (.tmp 7) = .pointer (some ⟨D, 0, none⟩) := hk.at 7 (by decide +kernel)
                refine ⟨wanted_none rfl, fun Q => ?_⟩
                exact wp_value _ (by simp only [execOp, e7]; rfl) (KS_mkv rfl rfl)
              · -- 1: Op.move (Operand.tmp 1)
                have e1 : a'.eval (.tmp 1) = .slice al nl cl := hk.at 1 (by decide +kernel)
                refine ⟨wanted_none rfl, fun Q => ?_⟩
                exact wp_value _ (by simp only [execOp, e1]; rfl) (KS_mkv rfl rfl)
              · -- 2: Op.fieldAddr 46 (Operand.tmp 5) 0
                have e5 : a'.eval (.tmp 5) = .pointer (some ⟨N, 0, none⟩) := hk.at 5 (by decide +kernel)
                refine ⟨wanted_none rfl, fun Q => ?_⟩
                clear hd hk
                exact wp_value (.pointer (some ⟨N, 0, none⟩)) (by simp only [execOp, e5]; go_simp) (KS_mkv rfl rfl)
              · -- 3: Op.load 9 (Operand.tmp 64)
                have e64 : a'.eval (.tmp 64) = .pointer (some ⟨N, 0, none⟩) := KS_val (Deps.val hd 2 64 (by decide +kernel)) rfl
                refine ⟨wanted_none rfl, fun Q => ?_⟩
                have c_ : w'.cell? ⟨N, 0, none⟩ = some (.string x.1) := (HX.out.kept hg).cell (j := 0) rfl
                clear hd hk
                exact wp_value (.string x.1) (by simp only [execOp, e64]; go_simp) (KS_mkv rfl rfl)
              · -- 4: Op.fieldAddr 46 (Operand.tmp 5) 1
                have e5 : a'.eval (.tmp 5) = .pointer (some ⟨N, 0, none⟩) := hk.at 5 (by decide +kernel)
                refine ⟨wanted_none rfl, fun Q => ?_⟩
                clear hd hk
                exact wp_value (.pointer (some ⟨N, 1, none⟩)) (by simp only [execOp, e5]; go_simp) (KS_mkv rfl rfl)
              · -- 5: Op.load 9 (Operand.tmp 66)
                have e66 : a'.eval (.tmp 66) = .pointer (some ⟨N, 1, none⟩) := KS_val (Deps.val hd 4 66 (by decide +kernel)) rfl
                refine ⟨wanted_none rfl, fun Q => ?_⟩
                have c_ : w'.cell? ⟨N, 1, none⟩ = some (.string x.2.1) := (HX.out.kept hg).cell (j := 1) rfl
                clear hd hk
                exact wp_value (.string x.2.1) (by simp only [execOp, e66]; go_simp) (KS_mkv rfl rfl)
              · -- 6: Op.fieldAddr 46 (Operand.tmp 5) 2
                have e5 : a'.eval (.tmp 5) = .pointer (some ⟨N, 0, none⟩) := hk.at 5 (by decide +kernel)
                refine ⟨wanted_none rfl, fun Q => ?_⟩
                clear hd hk
                exact wp_value (.pointer (some ⟨N, 2, none⟩)) (by simp only [execOp, e5]; go_simp) (KS_mkv rfl rfl)
              · -- 7: Op.load 3 (Operand.tmp 68)
                have e68 : a'.eval (.tmp 68) = .pointer (some ⟨N, 2, none⟩) := KS_val (Deps.val hd 6 68 (by decide +kernel)) rfl
                refine ⟨wanted_none rfl, fun Q => ?_⟩
                have c_ : w'.cell? ⟨N, 2, none⟩ = some (.int .i64 x.2.2) := (HX.out.kept hg).cell (j := 2) rfl
                clear hd hk
                exact wp_value (.int .i64 x.2.2) (by simp only [execOp, e68]; go_simp) (KS_mkv rfl rfl)
              · -- 8: Op.call ( callee := Callee.value (Operand.func 21), args := 
                have e62 : a'.eval (.tmp 62) = .pointer (some ⟨D, 0, none⟩) := KS_val (Deps.val hd 0 62 (by decide +kernel)) rfl
                have e63 : a'.eval (.tmp 63) = .slice al nl cl := KS_val (Deps.val hd 1 63 (by decide +kernel)) rfl
                have e65 : a'.eval (.tmp 65) = .string x.1 := KS_val (Deps.val hd 3 65 (by decide +kernel)) rfl
                have e67 : a'.eval (.tmp 67) = .string x.2.1 := KS_val (Deps.val hd 5 67 (by decide +kernel)) rfl
                have e69 : a'.eval (.tmp 69) = .int .i64 x.2.2 := KS_val (Deps.val hd 7 69 (by decide +kernel)) rfl
                refine ⟨wanted_none rfl, fun Q => ?_⟩
                refine wp_call 21 _ (run_enter 21 _ _ rfl (by kernel_rfl)) ?_
                simp only [List.map_toArray, List.map_nil, List.map_cons, e62, e63, e65, e67, e69]
                refine (over_any (HBb.out.kept hg).ov ((HLl.out.kept (BL.out.mono (Nat.le_of_eq HNw.out))).kept hg) x.1 x.2.1 x.2.2 (by have := HBb.out.len; rw [HNl.out]; omega)).mono ?_
                rintro e_ w_ ⟨v_, rfl, ho_, hb_⟩
                exact ⟨_, rfl, KS_mko rfl ho_.rd, hb_⟩
              · -- 9: Op.move (Operand.tmp 8)
                have e8 : a'.eval (.tmp 8) = .pointer (some ⟨R, 0, none⟩) := hk.at 8 (by decide +kernel)
                refine ⟨wanted_none rfl, fun Q => ?_⟩
                exact wp_value _ (by simp only [execOp, e8]; rfl) (KS_mkv rfl rfl)
              · -- 10: Op.move (Operand.tmp 1)
                have e1 : a'.eval (.tmp 1) = .slice al nl cl := hk.at 1 (by decide +kernel)
                refine ⟨wanted_none rfl, fun Q => ?_⟩
                exact wp_value _ (by simp only [execOp, e1]; rfl) (KS_mkv rfl rfl)
              · -- 11: Op.fieldAddr 46 (Operand.tmp 5) 0
                have e5 : a'.eval (.tmp 5) = .pointer (some ⟨N, 0, none⟩) := hk.at 5 (by decide +kernel)
                refine ⟨wanted_none rfl, fun Q => ?_⟩
                clear hd hk
                exact wp_value (.pointer (some ⟨N, 0, none⟩)) (by simp only [execOp, e5]; go_simp) (KS_mkv rfl rfl)
              · -- 12: Op.load 9 (Operand.tmp 73)
                have e73 : a'.eval (.tmp 73) = .pointer (some ⟨N, 0, none⟩) := KS_val (Deps.val hd 11 73 (by decide +kernel)) rfl
                refine ⟨wanted_none rfl, fun Q => ?_⟩
                have c_ : w'.cell? ⟨N, 0, none⟩ = some (.string x.1) := (HX.out.kept hg).cell (j := 0) rfl
                clear hd hk
                exact wp_value (.string x.1) (by simp only [execOp, e73]; go_simp) (KS_mkv rfl rfl)
              · -- 13: Op.fieldAddr 46 (Operand.tmp 5) 1
                have e5 : a'.eval (.tmp 5) = .pointer (some ⟨N, 0, none⟩) := hk.at 5 (by decide +kernel)
                refine ⟨wanted_none rfl, fun Q => ?_⟩
                clear hd hk
                exact wp_value (.pointer (some ⟨N, 1, none⟩)) (by simp only [execOp, e5]; go_simp) (KS_mkv rfl rfl)
              · -- 14: Op.load 9 (Operand.tmp 75)
                have e75 : a'.eval (.tmp 75) = .pointer (some ⟨N, 1, none⟩) := KS_val (Deps.val hd 13 75 (by decide +kernel)) rfl
                refine ⟨wanted_none rfl, fun Q => ?_⟩
                have c_ : w'.cell? ⟨N, 1, none⟩ = some (.string x.2.1) := (HX.out.kept hg).cell (j := 1) rfl
                clear hd hk
                exact wp_value (.string x.2.1) (by simp only [execOp, e75]; go_simp) (KS_mkv rfl rfl)
              · -- 15: Op.fieldAddr 46 (Operand.tmp 5) 2
                have e5 : a'.eval (.tmp 5) = .pointer (some ⟨N, 0, none⟩) := hk.at 5 (by decide +kernel)
                refine ⟨wanted_none rfl, fun Q => ?_⟩
                clear hd hk
                exact wp_value (.pointer (some ⟨N, 2, none⟩)) (by simp only [execOp, e5]; go_simp) (KS_mkv rfl rfl)
              · -- 16: Op.load 3 (Operand.tmp 77)
                have e77 : a'.eval (.tmp 77) = .pointer (some ⟨N, 2, none⟩) := KS_val (Deps.val hd 15 77 (by decide +kernel)) rfl
                refine ⟨wanted_none rfl, fun Q => ?_⟩
                have c_ : w'.cell? ⟨N, 2, none⟩ = some (.int .i64 x.2.2) := (HX.out.kept hg).cell (j := 2) rfl
                clear hd hk
                exact wp_value (.int .i64 x.2.2) (by simp only [execOp, e77]; go_simp) (KS_mkv rfl rfl)
              · -- 17: Op.call ( callee := Callee.value (Operand.func 22), args := 
                have e71 : a'.eval (.tmp 71) = .pointer (some ⟨R, 0, none⟩) := KS_val (Deps.val hd 9 71 (by decide +kernel)) rfl
                have e72 : a'.eval (.tmp 72) = .slice al nl cl := KS_val (Deps.val hd 10 72 (by decide +kernel)) rfl
                have e74 : a'.eval (.tmp 74) = .string x.1 := KS_val (Deps.val hd 12 74 (by decide +kernel)) rfl
                have e76 : a'.eval (.tmp 76) = .string x.2.1 := KS_val (Deps.val hd 14 76 (by decide +kernel)) rfl
                have e78 : a'.eval (.tmp 78) = .int .i64 x.2.2 := KS_val (Deps.val hd 16 78 (by decide +kernel)) rfl
                refine ⟨wanted_none rfl, fun Q => ?_⟩
                refine wp_call 22 _ (run_enter 22 _ _ rfl (by kernel_rfl)) ?_
                simp only [List.map_toArray, List.map_nil, List.map_cons, e71, e72, e74, e76, e78]
                refine (rOver_any (HRr.out.kept hg) HBb.out.len ((HLl.out.kept (BL.out.mono (Nat.le_of_eq HNw.out))).kept hg) x.1 x.2.1 x.2.2 (by rw [HNl.out]; omega)).mono ?_
                rintro e_ w_ ⟨v_, rfl, ho_, hb_⟩
                exact ⟨_, rfl, KS_mko rfl ho_, hb_⟩
              · -- 18: Op.call ( callee := Callee.value (Operand.func 18), args := 
                have r70 := KS_of (Deps.val hd 8 70 (by decide +kernel)) rfl
                have r79 := KS_of (Deps.val hd 17 79 (by decide +kernel)) rfl
                refine ⟨wanted_none rfl, fun Q => ?_⟩
                refine wp_call 18 _ (run_enter 18 _ _ rfl (by kernel_rfl)) ?_
                simp only [List.map_toArray, List.map_nil, List.map_cons]
                refine (vsame_any r70 r79).mono ?_
                rintro e_ w_ ⟨rfl, hb_⟩
                rw [decide_eq_true rfl]
                exact ⟨_, rfl, KS_mkv rfl rfl, hb_⟩
              · -- 19: Op.move (Operand.tmp 80)
                have e80 : a'.eval (.tmp 80) = .bool true := KS_val (Deps.val hd 18 80 (by decide +kernel)) rfl
                refine ⟨wanted_none rfl, fun Q => ?_⟩
                exact wp_value _ (by simp only [execOp, e80]; rfl) (KS_mkv rfl rfl)
              · -- 20: Op.move (Operand.tmp 1)
                have e1 : a'.eval (.tmp 1) = .slice al nl cl := hk.at 1 (by decide +kernel)
                refine ⟨wanted_some rfl 81 rfl (KS_val (Deps.val hd 19 81 (by decide +kernel)) rfl), fun Q => ?_⟩
                exact wp_value _ (by simp only [execOp, e1]; rfl) (KS_mkv rfl rfl)
              · -- 21: Op.move (Operand.tmp 8)
                have e8 : a'.eval (.tmp 8) = .pointer (some ⟨R, 0, none⟩) := hk.at 8 (by decide +kernel)
                refine ⟨wanted_some rfl 81 rfl (KS_val (Deps.val hd 19 81 (by decide +kernel)) rfl), fun Q => ?_⟩
                exact wp_value _ (by simp only [execOp, e8]; rfl) (KS_mkv rfl rfl)
              · -- 22: Op.nilCheck (Operand.tmp 83)
                have e83 : a'.eval (.tmp 83) = .pointer (some ⟨R, 0, none⟩) := KS_val (Deps.val hd 21 83 (by decide +kernel)) rfl
                refine ⟨wanted_some rfl 81 rfl (KS_val (Deps.val hd 19 81 (by decide +kernel)) rfl), fun Q => ?_⟩
                clear hd hk
                exact wp_value (.pointer (some ⟨R, 0, none⟩)) (by simp only [execOp, e83]; go_simp) (KS_mkv rfl rfl)
              · -- 23: Op.fieldAddr 30 (Operand.tmp 84) 0
                have e84 : a'.eval (.tmp 84) = .pointer (some ⟨R, 0, none⟩) := KS_val (Deps.val hd 22 84 (by decide +kernel)) rfl
                refine ⟨wanted_some rfl 81 rfl (KS_val (Deps.val hd 19 81 (by decide +kernel)) rfl), fun Q => ?_⟩
                clear hd hk
                exact wp_value (.pointer (some ⟨R, 0, none⟩)) (by simp only [execOp, e84]; go_simp) (KS_mkv rfl rfl)
              · -- 24: Op.load 28 (Operand.tmp 85)
                have e85 : a'.eval (.tmp 85) = .pointer (some ⟨R, 0, none⟩) := KS_val (Deps.val hd 23 85 (by decide +kernel)) rfl
                refine ⟨wanted_some rfl 81 rfl (KS_val (Deps.val hd 19 81 (by decide +kernel)) rfl), fun Q => ?_⟩
                have c_ : w'.cell? ⟨R, 0, none⟩ = some (.slice a5 n5 c5) := (HRr.out.d.kept hg).cell (j := 0) rfl
                clear hd hk
                exact wp_value (.slice a5 n5 c5) (by simp only [execOp, e85]; go_simp) (KS_mkv rfl rfl)
              · -- 25: Op.call ( callee := Callee.value (Operand.func 23), args := 
                have e82 : a'.eval (.tmp 82) = .slice al nl cl := KS_val (Deps.val hd 20 82 (by decide +kernel)) rfl
                have e86 : a'.eval (.tmp 86) = .slice a5 n5 c5 := KS_val (Deps.val hd 24 86 (by decide +kernel)) rfl
                refine ⟨wanted_some rfl 81 rfl (KS_val (Deps.val hd 19 81 (by decide +kernel)) rfl), fun Q => ?_⟩
                refine wp_call 23 _ (run_enter 23 _ _ rfl (by kernel_rfl)) ?_
                simp only [List.map_toArray, List.map_nil, List.map_cons, e82, e86]
                refine (overlay_any ((HLl.out.kept (BL.out.mono (Nat.le_of_eq HNw.out))).kept hg) ((HRr.out.kept hg).own.rd) (by have := HBb.out.len; rw [HNl.out]; omega)).mono ?_
                rintro e_ w_ ⟨v_, rfl, ho_, hb_⟩
                exact ⟨_, rfl, KS_mko rfl ho_.rd, hb_⟩
              · -- 26: Op.move (Operand.tmp 1)
                have e1 : a'.eval (.tmp 1) = .slice al nl cl := hk.at 1 (by decide +kernel)
                refine ⟨wanted_some rfl 81 rfl (KS_val (Deps.val hd 19 81 (by decide +kernel)) rfl), fun Q => ?_⟩
                exact wp_value _ (by simp only [execOp, e1]; rfl) (KS_mkv rfl rfl)
              · -- 27: Op.move (Operand.tmp 8)
                have e8 : a'.eval (.tmp 8) = .pointer (some ⟨R, 0, none⟩) := hk.at 8 (by decide +kernel)
                refine ⟨wanted_some rfl 81 rfl (KS_val (Deps.val hd 19 81 (by decide +kernel)) rfl), fun Q => ?_⟩
                exact wp_value _ (by simp only [execOp, e8]; rfl) (KS_mkv rfl rfl)
              · -- 28: Op.nilCheck (Operand.tmp 89)
                have e89 : a'.eval (.tmp 89) = .pointer (some ⟨R, 0, none⟩) := KS_val (Deps.val hd 27 89 (by decide +kernel)) rfl
                refine ⟨wanted_some rfl 81 rfl (KS_val (Deps.val hd 19 81 (by decide +kernel)) rfl), fun Q => ?_⟩
                clear hd hk
                exact wp_value (.pointer (some ⟨R, 0, none⟩)) (by simp only [execOp, e89]; go_simp) (KS_mkv rfl rfl)
              · -- 29: Op.fieldAddr 30 (Operand.tmp 90) 0
                have e90 : a'.eval (.tmp 90) = .pointer (some ⟨R, 0, none⟩) := KS_val (Deps.val hd 28 90 (by decide +kernel)) rfl
                refine ⟨wanted_some rfl 81 rfl (KS_val (Deps.val hd 19 81 (by decide +kernel)) rfl), fun Q => ?_⟩
                clear hd hk
                exact wp_value (.pointer (some ⟨R, 0, none⟩)) (by simp only [execOp, e90]; go_simp) (KS_mkv rfl rfl)
              · -- 30: Op.load 28 (Operand.tmp 91)
                have e91 : a'.eval (.tmp 91) = .pointer (some ⟨R, 0, none⟩) := KS_val (Deps.val hd 29 91 (by decide +kernel)) rfl
                refine ⟨wanted_some rfl 81 rfl (KS_val (Deps.val hd 19 81 (by decide +kernel)) rfl), fun Q => ?_⟩
                have c_ : w'.cell? ⟨R, 0, none⟩ = some (.slice a5 n5 c5) := (HRr.out.d.kept hg).cell (j := 0) rfl
                clear hd hk
                exact wp_value (.slice a5 n5 c5) (by simp only [execOp, e91]; go_simp) (KS_mkv rfl rfl)
              · -- 31: Op.call ( callee := Callee.value (Operand.func 24), args := 
                have e88 : a'.eval (.tmp 88) = .slice al nl cl := KS_val (Deps.val hd 26 88 (by decide +kernel)) rfl
                have e92 : a'.eval (.tmp 92) = .slice a5 n5 c5 := KS_val (Deps.val hd 30 92 (by decide +kernel)) rfl
                refine ⟨wanted_some rfl 81 rfl (KS_val (Deps.val hd 19 81 (by decide +kernel)) rfl), fun Q => ?_⟩
                refine wp_call 24 _ (run_enter 24 _ _ rfl (by kernel_rfl)) ?_
                simp only [List.map_toArray, List.map_nil, List.map_cons, e88, e92]
                refine (rOverlay_any ((HLl.out.kept (BL.out.mono (Nat.le_of_eq HNw.out))).kept hg) ((HRr.out.kept hg).own.rd) (by have := HBb.out.len; rw [HNl.out]; omega)).mono ?_
                rintro e_ w_ ⟨v_, rfl, ho_, hb_⟩
                exact ⟨_, rfl, KS_mko rfl ho_.rd, hb_⟩
              · -- 32: Op.call ( callee := Callee.value (Operand.func 18), args := 
                have r87 := KS_of (Deps.val hd 25 87 (by decide +kernel)) rfl
                have r93 := KS_of (Deps.val hd 31 93 (by decide +kernel)) rfl
                refine ⟨wanted_some rfl 81 rfl (KS_val (Deps.val hd 19 81 (by decide +kernel)) rfl), fun Q => ?_⟩
                refine wp_call 18 _ (run_enter 18 _ _ rfl (by kernel_rfl)) ?_
                simp only [List.map_toArray, List.map_nil, List.map_cons]
                refine (vsame_any r87 r93).mono ?_
                rintro e_ w_ ⟨rfl, hb_⟩
                rw [decide_eq_true rfl]
                exact ⟨_, rfl, KS_mkv rfl rfl, hb_⟩
              · -- 33: Op.pick (Operand.tmp 81) (Operand.tmp 94) (Operand.const (Va
                have e81 : a'.eval (.tmp 81) = .bool true := KS_val (Deps.val hd 19 81 (by decide +kernel)) rfl
                have e94 : a'.eval (.tmp 94) = .bool true := KS_val (Deps.val hd 32 94 (by decide +kernel)) rfl
                refine ⟨wanted_none rfl, fun Q => ?_⟩
                clear hd hk
                exact wp_value (.bool true) (by simp only [execOp, e81, e94]; go_simp) (KS_mkv rfl rfl)
              · -- 34: Op.move (Operand.tmp 95)
                have e95 : a'.eval (.tmp 95) = .bool true := KS_val (Deps.val hd 33 95 (by decide +kernel)) rfl
                refine ⟨wanted_none rfl, fun Q => ?_⟩
                exact wp_value _ (by simp only [execOp, e95]; rfl) (KS_mkv rfl rfl)
              · -- 35: Op.call ( callee := Callee.value (Operand.func 10), args := 
                refine ⟨wanted_some rfl 96 rfl (KS_val (Deps.val hd 34 96 (by decide +kernel)) rfl), fun Q => ?_⟩
                refine wp_call 10 _ (run_enter 10 _ _ rfl (by kernel_rfl)) ?_
                simp only [List.map_toArray, List.map_nil]
                refine (lives_any w').mono ?_
                rintro e_ w_ ⟨rfl, hb_⟩
                exact ⟨_, rfl, KS_mkv rfl rfl, hb_⟩
            · intro a' w10 hsz hdf hk hall hg
              have e62 : a'.eval (.tmp 62) = .pointer (some ⟨D, 0, none⟩) := KS_val (hall 0 _ 62 (by decide) rfl rfl) rfl
              have e63 : a'.eval (.tmp 63) = .slice al nl cl := KS_val (hall 1 _ 63 (by decide) rfl rfl) rfl
              have e64 : a'.eval (.tmp 64) = .pointer (some ⟨N, 0, none⟩) := KS_val (hall 2 _ 64 (by decide) rfl rfl) rfl
              have e65 : a'.eval (.tmp 65) = .string x.1 := KS_val (hall 3 _ 65 (by decide) rfl rfl) rfl
              have e66 : a'.eval (.tmp 66) = .pointer (some ⟨N, 1, none⟩) := KS_val (hall 4 _ 66 (by decide) rfl rfl) rfl
              have e67 : a'.eval (.tmp 67) = .string x.2.1 := KS_val (hall 5 _ 67 (by decide) rfl rfl) rfl
              have e68 : a'.eval (.tmp 68) = .pointer (some ⟨N, 2, none⟩) := KS_val (hall 6 _ 68 (by decide) rfl rfl) rfl
              have e69 : a'.eval (.tmp 69) = .int .i64 x.2.2 := KS_val (hall 7 _ 69 (by decide) rfl rfl) rfl
              have r70 := KS_of (hall 8 _ 70 (by decide) rfl rfl) rfl
              obtain ⟨x70, e70⟩ : ∃ v, a'.eval (.tmp 70) = v := ⟨_, rfl⟩
              rw [e70] at r70
              have e71 : a'.eval (.tmp 71) = .pointer (some ⟨R, 0, none⟩) := KS_val (hall 9 _ 71 (by decide) rfl rfl) rfl
              have e72 : a'.eval (.tmp 72) = .slice al nl cl := KS_val (hall 10 _ 72 (by decide) rfl rfl) rfl
              have e73 : a'.eval (.tmp 73) = .pointer (some ⟨N, 0, none⟩) := KS_val (hall 11 _ 73 (by decide) rfl rfl) rfl
              have e74 : a'.eval (.tmp 74) = .string x.1 := KS_val (hall 12 _ 74 (by decide) rfl rfl) rfl
              have e75 : a'.eval (.tmp 75) = .pointer (some ⟨N, 1, none⟩) := KS_val (hall 13 _ 75 (by decide) rfl rfl) rfl
              have e76 : a'.eval (.tmp 76) = .string x.2.1 := KS_val (hall 14 _ 76 (by decide) rfl rfl) rfl
              have e77 : a'.eval (.tmp 77) = .pointer (some ⟨N, 2, none⟩) := KS_val (hall 15 _ 77 (by decide) rfl rfl) rfl
              have e78 : a'.eval (.tmp 78) = .int .i64 x.2.2 := KS_val (hall 16 _ 78 (by decide) rfl rfl) rfl
              have r79 := KS_of (hall 17 _ 79 (by decide) rfl rfl) rfl
              obtain ⟨x79, e79⟩ : ∃ v, a'.eval (.tmp 79) = v := ⟨_, rfl⟩
              rw [e79] at r79
              have e80 : a'.eval (.tmp 80) = .bool true := KS_val (hall 18 _ 80 (by decide) rfl rfl) rfl
              have e81 : a'.eval (.tmp 81) = .bool true := KS_val (hall 19 _ 81 (by decide) rfl rfl) rfl
              have e82 : a'.eval (.tmp 82) = .slice al nl cl := KS_val (hall 20 _ 82 (by decide) rfl rfl) rfl
              have e83 : a'.eval (.tmp 83) = .pointer (some ⟨R, 0, none⟩) := KS_val (hall 21 _ 83 (by decide) rfl rfl) rfl
              have e84 : a'.eval (.tmp 84) = .pointer (some ⟨R, 0, none⟩) := KS_val (hall 22 _ 84 (by decide) rfl rfl) rfl
              have e85 : a'.eval (.tmp 85) = .pointer (some ⟨R, 0, none⟩) := KS_val (hall 23 _ 85 (by decide) rfl rfl) rfl
              have e86 : a'.eval (.tmp 86) = .slice a5 n5 c5 := KS_val (hall 24 _ 86 (by decide) rfl rfl) rfl
              have r87 := KS_of (hall 25 _ 87 (by decide) rfl rfl) rfl
              obtain ⟨x87, e87⟩ : ∃ v, a'.eval (.tmp 87) = v := ⟨_, rfl⟩
              rw [e87] at r87
              have e88 : a'.eval (.tmp 88) = .slice al nl cl := KS_val (hall 26 _ 88 (by decide) rfl rfl) rfl
              have e89 : a'.eval (.tmp 89) = .pointer (some ⟨R, 0, none⟩) := KS_val (hall 27 _ 89 (by decide) rfl rfl) rfl
              have e90 : a'.eval (.tmp 90) = .pointer (some ⟨R, 0, none⟩) := KS_val (hall 28 _ 90 (by decide) rfl rfl) rfl
              have e91 : a'.eval (.tmp 91) = .pointer (some ⟨R, 0, none⟩) := KS_val (hall 29 _ 91 (by decide) rfl rfl) rfl
              have e92 : a'.eval (.tmp 92) = .slice a5 n5 c5 := KS_val (hall 30 _ 92 (by decide) rfl rfl) rfl
              have r93 := KS_of (hall 31 _ 93 (by decide) rfl rfl) rfl
              obtain ⟨x93, e93⟩ : ∃ v, a'.eval (.tmp 93) = v := ⟨_, rfl⟩
              rw [e93] at r93
              have e94 : a'.eval (.tmp 94) = .bool true := KS_val (hall 32 _ 94 (by decide) rfl rfl) rfl
              have e95 : a'.eval (.tmp 95) = .bool true := KS_val (hall 33 _ 95 (by decide) rfl rfl) rfl
              have e96 : a'.eval (.tmp 96) = .bool true := KS_val (hall 34 _ 96 (by decide) rfl rfl) rfl
              have e97 : a'.eval (.tmp 97) = .bool true := KS_val (hall 35 _ 97 (by decide) rfl rfl) rfl
              obtain ⟨x98, e98⟩ : ∃ v, a'.eval (.tmp 98) = v := ⟨_, rfl⟩
              obtain ⟨x6, e6⟩ : ∃ v, a'.eval (.tmp 6) = v := ⟨_, rfl⟩
              have ha := act_puts 99 rfl hsz hdf hk [62, 63, 64, 65, 66, 67, 68, 69, 70, 71, 72, 73, 74, 75, 76, 77, 78, 79, 80, 81, 82, 83, 84, 85, 86, 87, 88, 89, 90, 91, 92, 93, 94, 95, 96, 97, 98, 6] (by decide +kernel)
              simp only [puts, List.foldl_cons, List.foldl_nil, e62, e63, e64, e65, e66, e67, e68, e69, e70, e71, e72, e73, e74, e75, e76, e77, e78, e79, e80, e81, e82, e83, e84, e85, e86, e87, e88, e89, e90, e91, e92, e93, e94, e95, e96, e97, e98, e6] at ha
              simp only [Act.put, List.setIfInBounds_toArray, List.set_cons_succ, List.set_cons_zero] at ha
              have L10 : Hid (Below N w w10) := (show _ from BL.out.trans (Below.mono hg (by have := BL.out.size; have := HNw.out; omega)))
              clear hall hk hsz hdf hg r70 r79 r87 r93 e62 e63 e64 e65 e66 e67 e68 e69 e70 e71 e72 e73 e74 e75 e76 e77 e78 e79 e80 e81 e82 e83 e84 e85 e86 e87 e88 e89 e90 e91 e92 e93 e94 e95 e96 e97 e98 e6
              subst ha
              refine wpSeqW_value (wanted_none rfl) (.bool true) (by simp only [execOp]; go_simp) ?_
              simp only [Act.put, List.setIfInBounds_toArray, List.set_cons_succ, List.set_cons_zero]
              refine wpSeqW_value (wanted_none rfl) (.bool true) (by simp only [execOp]; go_simp) ?_
              simp only [Act.put, List.setIfInBounds_toArray, List.set_cons_succ, List.set_cons_zero, wpSeqW]
              go_wp2_with fail
              go_ret
              exact ⟨rfl, L10.out⟩
#print axioms bufferOvers_any
end Go.Proofs.Ytfjlkncliljjnaa
