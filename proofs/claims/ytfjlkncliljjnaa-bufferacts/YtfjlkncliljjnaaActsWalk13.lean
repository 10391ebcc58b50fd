/-
  BufferActs: what the call does.
-/
import Derived.Test.YtfjlkncliljjnaaBfF
import Derived.Test.YtfjlkncliljjnaaBfSm
import Derived.Test.YtfjlkncliljjnaaBfI
import Derived.Test.YtfjlkncliljjnaaBfZ
import Derived.Test.YtfjlkncliljjnaaRegion7
namespace Go.Proofs.Ytfjlkncliljjnaa
open Go.RowKit
theorem run_step {A : List Pr} {i : Nat} (hi : i < A.length) : runB (A.take (i + 1)) = wrB (runB (A.take i)) (actP A[i]) := by rw [List.take_succ_eq_append_getElem hi, runB_snoc]
/-- A Buffer and the document's, with the same pairs. -/
structure BB (w : World) (D M R : Nat) (L : List Pr) : Prop where
  b : BAt w D M L
  r : ∃ vr, RBf w R vr L
theorem BB.kept {w w' : World} {D M R : Nat} {L : List Pr} (h : BB w D M R L) (hb : Below w.heap.size w w') : BB w' D M R L := ⟨h.b.kept hb, by obtain ⟨vr, hr⟩ := h.r; exact ⟨vr, hr.kept hb⟩⟩
theorem BB.ne {w : World} {D M R : Nat} {L : List Pr} (h : BB w D M R L) : D ≠ R ∧ M ≠ R := by
  obtain ⟨vr, hr⟩ := h.r
  refine ⟨fun e => ?_, fun e => ?_⟩
  · have := hr.d
    rw [← e] at this
    have := h.b.d.symm.trans this
    simp at this
  · obtain ⟨es, c, hm⟩ := h.b.mp.block
    rw [e] at hm
    have := hr.d.symm.trans hm
    cases this
/-- Behind a write to the one. -/
theorem RBf.past {w w' : World} {D M R : Nat} {vr : Value} {L K : List Pr} (h : RBf w R vr L) (hb : BAt w D M K) (hc : Chg (fun b => b = M) w w') : RBf w' R vr L := by
  refine h.chg hc (fun e => ?_) (fun b hv e => (hb.apart h.own hv).2 e)
  obtain ⟨es, c, hm⟩ := hb.mp.block
  rw [← e] at hm
  have := h.d.symm.trans hm
  cases this
/-- Behind a write to the other. -/
theorem BAt.past {w w' : World} {D M R : Nat} {vr : Value} {L K : List Pr} (hb : BAt w D M K) (h : RBf w R vr L) (hc : Chg (fun b => b = R) w w') : BAt w' D M K := by
  refine hb.chg hc (fun e => ?_) (fun e => ?_)
  · have h1 := h.d
    rw [← e] at h1
    have := hb.d.symm.trans h1
    simp at this
  · obtain ⟨es, c, hm⟩ := hb.mp.block
    rw [e] at hm
    have := h.d.symm.trans hm
    cases this
theorem guardP (op : BinOp) (x y : Operand) (xs ys : Array Value) (W : World) : (eqGuard op 38 x y (.agg xs) (.agg ys)).run Try.prog W = .ok () W :=
  run_eqGuard_agg W op 38 x y xs ys (by kernel_rfl)
set_option maxHeartbeats 8000000 in
set_option maxRecDepth 100000 in
theorem bufferActs_any {w : World} {va : Value} {A : List Pr} (ha : RdG PE w va A) (oa : ∀ x ∈ A, PrOk x) :
    Calls Try.prog 3 #[va] w fun e w' => e = .returned (.bool true) ∧ Below w.heap.size w w' := by
  have za := Zact
  have zp' := Zpair
  have CLi := light_any ha (RdG_nil w) oa (by simp)
  have HA := hide ha
  have OA := hide oa
  obtain ⟨a, c, rfl⟩ := ha.slice
  have hm := Nat.le_trans ha.cap ha.max
  obtain ⟨n, HN⟩ : ∃ n, Hid (A.length = n) := ⟨_, rfl⟩
  obtain ⟨N, HNw⟩ : ∃ N, Hid (w.heap.size = N) := ⟨_, rfl⟩
  rw [HN.out] at HA hm CLi ⊢
  rw [HNw.out] at CLi ⊢
  have HLI := hide CLi
  clear ha oa CLi
  go_enter Try.func3, Try.ntmps3
  go_wp2_with fail
  refine HLI.out.mono ?_
  rintro e w1 ⟨b, rfl, hb1, hb2⟩
  have L1 : Hid (Below N w w1) := (show _ from hb1)
  have CLV := hide (lives_any w1)
  clear HLI hb1
  have LV : Hid (∀ w2, Below w1.heap.size w1 w2 → Below N w w2) := (show ∀ w2, Below w1.heap.size w1 w2 → Below N w w2 from fun w2 h => L1.out.trans (h.mono (by have := L1.out.size; have := HNw.out; omega)))
  cases b with
  | false =>
    go_wp2_with fail
    refine CLV.out.mono ?_
    rintro e w2 ⟨rfl, hb2⟩
    have HB := hide hb2
    clear hb2
    go_wp2_with fail
    go_ret
    exact ⟨rfl, LV.out _ HB.out⟩
  | true =>
    have CN := hide (bNew_any w1)
    clear CLV hb2
    go_wp2_with fail
    refine CN.out.mono ?_
    rintro e w2 ⟨D, M, rfl, h2, hD, hM, hb2⟩
    obtain ⟨R, HE⟩ : ∃ E, Hid (w2.heap.size = E) := ⟨_, rfl⟩
    obtain ⟨w3, hw3⟩ : ∃ y, y = w2.alloc (.cells #[.slice none 0 0] 30 (0, 0)) := ⟨_, rfl⟩
    have hb3 : Below w2.heap.size w2 w3 := by rw [hw3]; exact (Below.refl _ _).alloc (Nat.le_refl _) _
    have H3 : Hid (BB w3 D M R []) := (show BB _ _ _ _ _ from ⟨h2.kept hb3, _, ⟨by rw [hw3, ← HE.out]; exact Blk.new w2 30 [.slice none 0 0], ownG_nil _ _ _⟩⟩)
    have L3 : Hid (Below N w w3) := (show _ from (LV.out _ hb2).trans (hb3.mono (by have := (LV.out _ hb2).size; have := HNw.out; omega)))
    have HAP : Hid (N ≤ D ∧ N ≤ M ∧ N ≤ R) := (show N ≤ D ∧ N ≤ M ∧ N ≤ R from by
      have h0 := L1.out.size
      have h1 := HNw.out
      have h3 := h2.d.lt
      have h5 := HE.out
      omega)
    have zr : ∀ W : World, (Instr.build 30 #[]).run Try.prog W = .ok (.agg #[.slice none 0 0]) W := fun W => by kernel_rfl
    have HW3 := hide hw3
    clear h2 hD hM hb2 hb3 hw3 CN LV L1
    go_upto_region 4 with fail
    rw [← HW3.out, HE.out]
    go_wp2_with fail
    clear HW3 HE zr
    go_loopg [22] (n + 1) (fun g z wr => ∃ (i : Nat), i ≤ n ∧ g + i = n + 1 ∧ z = .int .i64 (i : Int) ∧ Hid (BB wr D M R (runB (A.take i))) ∧ Hid (Below N w wr))
    case atStart => exact ⟨0, Nat.zero_le _, by omega, rfl, H3, L3⟩
    case round =>
      obtain ⟨i, hi, hg, rfl, HB, BL⟩ := hrel
      clear H3 L3
      by_cases hlt : i < n
      · have hlt' : (i : Int) < (n : Int) := by omega
        have hlt2 : i < A.length := by rw [HN.out]; exact hlt
        have bw : Below w.heap.size w wr := BL.out.mono (Nat.le_of_eq HNw.out)
        obtain ⟨bb, off, rfl, hb1, hx⟩ := (HA.out.kept bw).nth (by omega)
        have hrow : wr.rangeAt bb (off + i * 3) (PC A[i]) := hx i hlt2
        have hok := OA.out A[i] (List.getElem_mem hlt2)
        have hst := run_step hlt2
        obtain ⟨p, HP⟩ : ∃ p, Hid (A[i] = p) := ⟨A[i], (show A[i] = A[i] from rfl)⟩
        rw [HP.out] at hrow hok hst
        have HOK : Hid (p.1.size ≤ maxLen) := (show _ ≤ _ by have := hok.1; simp only [maxLen]; omega)
        obtain ⟨L, HL⟩ : ∃ L, Hid (runB (A.take i) = L) := ⟨_, rfl⟩
        rw [HL.out] at HB hst
        have HST := hide hst
        have HSrt := hide HB.out.b.srt
        have HLen := hide HB.out.b.len
        obtain ⟨w3, hw3⟩ : ∃ y, y = wr.alloc (.cells (PC p).toArray 32 (0, 0)) := ⟨_, rfl⟩
        obtain ⟨E3, HE3⟩ : ∃ E, Hid (wr.heap.size = E) := ⟨_, rfl⟩
        have B3 : Blk w3 E3 32 (PC p) := by rw [hw3, ← HE3.out]; exact Blk.new wr 32 (PC p)
        have hb3 : Below wr.heap.size wr w3 := by rw [hw3]; exact (Below.refl _ _).alloc (Nat.le_refl _) _
        have L3 : Hid (Below N w w3) := (show _ from BL.out.trans (hb3.mono (by have := BL.out.size; have := HNw.out; omega)))
        have H3 := hide (HB.out.kept hb3)
        have HBk3 := hide B3
        have HAE : Hid (D < E3 ∧ M < E3 ∧ R < E3 ∧ N ≤ E3) := (show D < E3 ∧ M < E3 ∧ R < E3 ∧ N ≤ E3 from by
          have h3 := HB.out.b.d.lt
          have h4 := HB.out.b.mp.lt
          have h5 : R < wr.heap.size := by obtain ⟨vr, hr⟩ := HB.out.r; exact hr.d.lt
          have h6 := HE3.out
          have h7 := BL.out.size
          have h8 := HNw.out
          omega)
        obtain ⟨rr, HR⟩ : ∃ r, Hid (wrE L (actP p) = r) := ⟨_, rfl⟩
        have CD := do_any H3.out.b p HOK.out
        rw [HR.out] at CD
        have HCD := hide CD
        have HW3 := hide hw3
        clear hx hb3 hw3 bw B3 hok hst CD
        go_wp2_with (first
          | (refine wpList_load_mid rfl 32 _ rfl bb (off + i * 3) rfl (PC p) _ hrow Try.underlying32 rfl Try.size32 ?_)
          | (refine wpList_store_new rfl 32 _ _ rfl wr _ (PC p).toArray _ rfl rfl rfl Try.size32 rfl (all_one (PC_one p)) ?_; rw [← HW3.out, HE3.out])
          | (refine wpList_load_mid rfl 32 _ rfl E3 0 rfl (PC p) _ HBk3.out.range0 Try.underlying32 rfl Try.size32 ?_)
          | fail)
        refine HCD.out.mono ?_
        rintro e w4 ⟨rfl, h4, c4⟩
        have HB4 := hide h4
        obtain ⟨vr, hr3⟩ := H3.out.r
        have HR4 := hide (hr3.past H3.out.b c4)
        have HBk4 := hide (HBk3.out.chg c4 (fun e => by have := HAE.out.2.1; omega))
        have L4 : Hid (Below N w w4) := (show _ from L3.out.trans (c4.below (by have := L3.out.size; have := HNw.out; omega) (fun k hk e => by have := HAP.out.2.1; omega)))
        have ck := HBk4.out.key
        have cv := HBk4.out.val
        have cd := HBk4.out.dead
        obtain ⟨dd, HD⟩ : ∃ d, Hid (p.2.2 = d) := ⟨_, rfl⟩
        rw [HD.out] at cd
        clear h4 c4 hr3 HB H3 HBk3 HW3 HCD L3
        cases dd with
        | true =>
          have HAc : Hid (actP p = (p.1, em, true)) := (show _ = _ by unfold actP; rw [if_pos HD.out])
          rw [HAc.out] at HB4 HR HST
          have CP := rDrop_any HR4.out HSrt.out HLen.out p.1
          rw [HR.out] at CP
          have HCP := hide CP
          clear CP
          go_wp2_with fail
          refine HCP.out.mono ?_
          rintro e w5 ⟨rfl, vr5, h5, c5⟩
          obtain ⟨X5, HL5⟩ : ∃ X, Hid (wrB L (p.1, em, true) = X) := ⟨_, rfl⟩
          rw [HL5.out] at HB4 h5
          have HB5 := hide (HB4.out.past HR4.out c5)
          have HR5 := hide h5
          obtain ⟨a5, c5', rfl⟩ := h5.own.rd.slice
          obtain ⟨n5, HN5⟩ : ∃ n, Hid (X5.length = n) := ⟨_, rfl⟩
          rw [HN5.out] at HR5
          have HBk5 := hide (HBk4.out.chg c5 (fun e => by have := HAE.out.2.2.1; omega))
          have L5' : Hid (Below N w w5) := (show _ from L4.out.trans (c5.below (by have := L4.out.size; have := HNw.out; omega) (fun k hk e => by have := HAP.out.2.2; omega)))
          have hE5 : Hid (N ≤ w5.heap.size) := (show _ ≤ _ by have := L5'.out.size; have := HNw.out; omega)
          have L5 := L5'
          clear h5 c5 ck cv cd HB4 HR4 HBk4 L4 L5' HCP
          have ck := HBk5.out.key
          obtain ⟨q, HQ⟩ : ∃ q, Hid ((getB X5 p.1).getD zp = q) := ⟨_, rfl⟩
          obtain ⟨ok, HO⟩ : ∃ q, Hid ((getB X5 p.1).isSome = q) := ⟨_, rfl⟩
          have CG := bGet_any HB5.out p.1 HOK.out
          rw [HQ.out, HO.out] at CG
          have HCG := hide CG
          clear CG
          go_wp2_with fail
          refine HCG.out.mono ?_
          rintro e w6 ⟨rfl, hb6⟩
          obtain ⟨E9, HE9⟩ : ∃ E, Hid (w6.heap.size = E) := ⟨_, rfl⟩
          obtain ⟨w7, hw7⟩ : ∃ y, y = w6.alloc (.cells (PC q).toArray 38 (0, 0)) := ⟨_, rfl⟩
          have B7 : Hid (Blk w7 E9 38 (PC q)) := (show Blk _ _ _ _ by rw [hw7, ← HE9.out]; exact Blk.new w6 38 (PC q))
          have hb7 : Below w5.heap.size w5 w7 := by rw [hw7]; exact hb6.alloc hb6.size _
          have HB7 := hide (HB5.out.kept hb7)
          have HR7 := hide (HR5.out.kept hb7)
          have HBk7 := hide (HBk5.out.kept hb7)
          have L7 : Hid (Below N w w7) := (show _ from L5.out.trans (hb7.mono hE5.out))
          have hE7 : Hid (N ≤ w7.heap.size) := (show _ ≤ _ by have := L7.out.size; have := HNw.out; omega)
          have HW7 := hide hw7
          clear ck hb6 hb7 hw7 HCG HB5 HR5 HBk5 L5 hE5
          have ck := HBk7.out.key
          have CG := rGet_any HR7.out (HB7.out.len) p.1
          rw [HQ.out, HO.out] at CG
          have HCG := hide CG
          clear CG
          go_upto_region 12 with (first
            | (refine wpList_store_new rfl 38 _ _ rfl w6 _ (PC q).toArray _ rfl rfl rfl Try.size38 rfl (all_one (PC_one q)) ?_; rw [← HW7.out, HE9.out])
            | fail)
          try simp only [Act.put]
          go_wp2_with fail
          refine HCG.out.mono ?_
          rintro e w8 ⟨rfl, hb8⟩
          obtain ⟨E11, HE11⟩ : ∃ E, Hid (w8.heap.size = E) := ⟨_, rfl⟩
          obtain ⟨w9, hw9⟩ : ∃ y, y = w8.alloc (.cells (PC q).toArray 38 (0, 0)) := ⟨_, rfl⟩
          have BS9 : Hid (Blk w9 E11 38 (PC q)) := (show Blk _ _ _ _ by rw [hw9, ← HE11.out]; exact Blk.new w8 38 (PC q))
          have hb9 : Below w7.heap.size w7 w9 := by rw [hw9]; exact hb8.alloc hb8.size _
          have HB9 := hide (HB7.out.kept hb9)
          have HR9 := hide (HR7.out.kept hb9)
          have BQ9 := hide (B7.out.kept hb9)
          have L9 : Hid (Below N w w9) := (show _ from L7.out.trans (hb9.mono hE7.out))
          have HW9 := hide hw9
          clear ck hb8 hb9 hw9 HCG HB7 HR7 HBk7 L7 hE7 B7
          go_upto_region 13 with (first
            | (refine wpList_store_new rfl 38 _ _ rfl w8 _ (PC q).toArray _ rfl rfl rfl Try.size38 rfl (all_one (PC_one q)) ?_; rw [← HW9.out, HE11.out])
            | fail)
          try simp only [Act.put]
          refine wp_region_tailsW Try.mixed (KS (fun i_ => match i_ with | 0 | 1 => .val (.int .i64 rr) | 2 | 3 | 6 | 7 | 8 | 11 | 12 | 13 | 21 | 22 | 23 | 31 => .val (.bool false) | 4 | 5 => .val (.agg (PC q).toArray) | 9 | 10 => .val (.bool ok) | 14 | 24 => .val (.pointer (some ⟨D, 0, none⟩)) | 15 | 20 => .val (.int .i64 (n5 : Int)) | 16 | 17 | 18 | 26 | 27 | 28 => .val (.pointer (some ⟨R, 0, none⟩)) | 19 | 29 => .val (.slice a5 n5 c5') | 25 => .of (fun W x => RdG PE W x X5) (fun _ _ _ hg h => RdG.kept h hg) | 30 => .val (.bool true) | _ => .free)) 90 rfl (by decide +kernel) 32 (by decide) (by decide +kernel) (KS_mono _) ?_ ?_
          · refine AllFrom.cons (fun a' w' hg hk hd => ?_) (AllFrom.cons (fun a' w' hg hk hd => ?_) (AllFrom.cons (fun a' w' hg hk hd => ?_) (AllFrom.cons (fun a' w' hg hk hd => ?_) (AllFrom.cons (fun a' w' hg hk hd => ?_) (AllFrom.cons (fun a' w' hg hk hd => ?_) (AllFrom.cons (fun a' w' hg hk hd => ?_) (AllFrom.cons (fun a' w' hg hk hd => ?_) (AllFrom.cons (fun a' w' hg hk hd => ?_) (AllFrom.cons (fun a' w' hg hk hd => ?_) (AllFrom.cons (fun a' w' hg hk hd => ?_) (AllFrom.cons (fun a' w' hg hk hd => ?_) (AllFrom.cons (fun a' w' hg hk hd => ?_) (AllFrom.cons (fun a' w' hg hk hd => ?_) (AllFrom.cons (fun a' w' hg hk hd => ?_) (AllFrom.cons (fun a' w' hg hk hd => ?_) (AllFrom.cons (fun a' w' hg hk hd => ?_) (AllFrom.cons (fun a' w' hg hk hd => ?_) (AllFrom.cons (fun a' w' hg hk hd => ?_) (AllFrom.cons (fun a' w' hg hk hd => ?_) (AllFrom.cons (fun a' w' hg hk hd => ?_) (AllFrom.cons (fun a' w' hg hk hd => ?_) (AllFrom.cons (fun a' w' hg hk hd => ?_) (AllFrom.cons (fun a' w' hg hk hd => ?_) (AllFrom.cons (fun a' w' hg hk hd => ?_) (AllFrom.cons (fun a' w' hg hk hd => ?_) (AllFrom.cons (fun a' w' hg hk hd => ?_) (AllFrom.cons (fun a' w' hg hk hd => ?_) (AllFrom.cons (fun a' w' hg hk hd => ?_) (AllFrom.cons (fun a' w' hg hk hd => ?_) (AllFrom.cons (fun a' w' hg hk hd => ?_) (AllFrom.cons (fun a' w' hg hk hd => ?_) AllFrom.nil)))))))))))))))))))))))))))))))
            · -- 0: Op.move (Operand.tmp 7)
              have e7 : a'.eval (.tmp 7) = .int .i64 rr := hk.at 7 (by decide +kernel)
              refine ⟨wanted_none rfl, fun Q => ?_⟩
              exact wp_value _ (by simp only [execOp, e7]; rfl) (KS_mkv rfl rfl)
            · -- 1: Op.move (Operand.tmp 8)
              have e8 : a'.eval (.tmp 8) = .int .i64 rr := hk.at 8 (by decide +kernel)
              refine ⟨wanted_none rfl, fun Q => ?_⟩
              exact wp_value _ (by simp only [execOp, e8]; rfl) (KS_mkv rfl rfl)
            · -- 2: Op.binOp BinOp.neq 3 (Operand.tmp 55) (Operand.tmp 56) 3
              have e55 : a'.eval (.tmp 55) = .int .i64 rr := KS_val (Deps.val hd 0 55 (by decide +kernel)) rfl
              have e56 : a'.eval (.tmp 56) = .int .i64 rr := KS_val (Deps.val hd 1 56 (by decide +kernel)) rfl
              refine ⟨wanted_none rfl, fun Q => ?_⟩
              clear hd hk
              exact wp_value (.bool false) (by simp only [execOp, e55, e56]; go_simp) (KS_mkv rfl rfl)
            · -- 3: Op.move (Operand.tmp 57)
              have e57 : a'.eval (.tmp 57) = .bool false := KS_val (Deps.val hd 2 57 (by decide +kernel)) rfl
              refine ⟨wanted_none rfl, fun Q => ?_⟩
              exact wp_value _ (by simp only [execOp, e57]; rfl) (KS_mkv rfl rfl)
            · -- 4: Op.load 38 (Operand.tmp 9)
              have e9 : a'.eval (.tmp 9) = .pointer (some ⟨E9, 0, none⟩) := hk.at 9 (by decide +kernel)
              refine ⟨wanted_some rfl 58 rfl (KS_val (Deps.val hd 3 58 (by decide +kernel)) rfl), fun Q => ?_⟩
              have rg_ := (BQ9.out.kept hg).range0
              clear hd hk
              exact wp_value (.agg (PC q).toArray) (by simp only [execOp, e9, Instr.loadAt, Instr.sureAddr, Sem.run_bind, Sem.run_pure, Result.andThen_ok, run_loadVar_mid w' E9 0 38 (PC q) _ rg_ Try.underlying38 rfl Try.size38]) (KS_mkv rfl rfl)
            · -- 5: Op.load 38 (Operand.tmp 11)
              have e11 : a'.eval (.tmp 11) = .pointer (some ⟨E11, 0, none⟩) := hk.at 11 (by decide +kernel)
              refine ⟨wanted_some rfl 58 rfl (KS_val (Deps.val hd 3 58 (by decide +kernel)) rfl), fun Q => ?_⟩
              have rg_ := (BS9.out.kept hg).range0
              clear hd hk
              exact wp_value (.agg (PC q).toArray) (by simp only [execOp, e11, Instr.loadAt, Instr.sureAddr, Sem.run_bind, Sem.run_pure, Result.andThen_ok, run_loadVar_mid w' E11 0 38 (PC q) _ rg_ Try.underlying38 rfl Try.size38]) (KS_mkv rfl rfl)
            · -- 6: Op.binOp BinOp.neq 38 (Operand.tmp 59) (Operand.tmp 60) 38
              have e59 : a'.eval (.tmp 59) = .agg (PC q).toArray := KS_val (Deps.val hd 4 59 (by decide +kernel)) rfl
              have e60 : a'.eval (.tmp 60) = .agg (PC q).toArray := KS_val (Deps.val hd 5 60 (by decide +kernel)) rfl
              refine ⟨wanted_some rfl 58 rfl (KS_val (Deps.val hd 3 58 (by decide +kernel)) rfl), fun Q => ?_⟩
              have hn_ := ne_pair q q w'
              rw [decide_eq_true rfl] at hn_
              clear hd hk
              exact wp_value (.bool false) (by simp only [execOp, e59, e60, hn_, guardP, Sem.run_bind, Sem.run_pure, Result.andThen_ok, Bool.not_true]) (KS_mkv rfl rfl)
            · -- 7: Op.pick (Operand.tmp 58) (Operand.const (Value.bool true)) (
              have e58 : a'.eval (.tmp 58) = .bool false := KS_val (Deps.val hd 3 58 (by decide +kernel)) rfl
              have e61 : a'.eval (.tmp 61) = .bool false := KS_val (Deps.val hd 6 61 (by decide +kernel)) rfl
              refine ⟨wanted_none rfl, fun Q => ?_⟩
              clear hd hk
              exact wp_value (.bool false) (by simp only [execOp, e58, e61]; go_simp) (KS_mkv rfl rfl)
            · -- 8: Op.move (Operand.tmp 62)
              have e62 : a'.eval (.tmp 62) = .bool false := KS_val (Deps.val hd 7 62 (by decide +kernel)) rfl
              refine ⟨wanted_none rfl, fun Q => ?_⟩
              exact wp_value _ (by simp only [execOp, e62]; rfl) (KS_mkv rfl rfl)
            · -- 9: Op.move (Operand.tmp 10)
              have e10 : a'.eval (.tmp 10) = .bool ok := hk.at 10 (by decide +kernel)
              refine ⟨wanted_some rfl 63 rfl (KS_val (Deps.val hd 8 63 (by decide +kernel)) rfl), fun Q => ?_⟩
              exact wp_value _ (by simp only [execOp, e10]; rfl) (KS_mkv rfl rfl)
            · -- 10: Op.move (Operand.tmp 12)
              have e12 : a'.eval (.tmp 12) = .bool ok := hk.at 12 (by decide +kernel)
              refine ⟨wanted_some rfl 63 rfl (KS_val (Deps.val hd 8 63 (by decide +kernel)) rfl), fun Q => ?_⟩
              exact wp_value _ (by simp only [execOp, e12]; rfl) (KS_mkv rfl rfl)
            · -- 11: Op.binOp BinOp.neq 4 (Operand.tmp 64) (Operand.tmp 65) 4
              have e64 : a'.eval (.tmp 64) = .bool ok := KS_val (Deps.val hd 9 64 (by decide +kernel)) rfl
              have e65 : a'.eval (.tmp 65) = .bool ok := KS_val (Deps.val hd 10 65 (by decide +kernel)) rfl
              refine ⟨wanted_some rfl 63 rfl (KS_val (Deps.val hd 8 63 (by decide +kernel)) rfl), fun Q => ?_⟩
              clear hd hk
              exact wp_value (.bool false) (by simp only [execOp, e64, e65]; cases ok <;> rfl) (KS_mkv rfl rfl)
            · -- 12: Op.pick (Operand.tmp 63) (Operand.const (Value.bool true)) (
              have e63 : a'.eval (.tmp 63) = .bool false := KS_val (Deps.val hd 8 63 (by decide +kernel)) rfl
              have e66 : a'.eval (.tmp 66) = .bool false := KS_val (Deps.val hd 11 66 (by decide +kernel)) rfl
              refine ⟨wanted_none rfl, fun Q => ?_⟩
              clear hd hk
              exact wp_value (.bool false) (by simp only [execOp, e63, e66]; go_simp) (KS_mkv rfl rfl)
            · -- 13: Op.move (Operand.tmp 67)
              have e67 : a'.eval (.tmp 67) = .bool false := KS_val (Deps.val hd 12 67 (by decide +kernel)) rfl
              refine ⟨wanted_none rfl, fun Q => ?_⟩
              exact wp_value _ (by simp only [execOp, e67]; rfl) (KS_mkv rfl rfl)
            · -- 14: Op.move (Operand.tmp 3)
              have e3 : a'.eval (.tmp 3) = .pointer (some ⟨D, 0, none⟩) := hk.at 3 (by decide +kernel)
              refine ⟨wanted_some rfl 68 rfl (KS_val (Deps.val hd 13 68 (by decide +kernel)) rfl), fun Q => ?_⟩
              exact wp_value _ (by simp only [execOp, e3]; rfl) (KS_mkv rfl rfl)
            · -- 15: Op.call ( callee := Callee.value (Operand.func 17), args := 
              have e69 : a'.eval (.tmp 69) = .pointer (some ⟨D, 0, none⟩) := KS_val (Deps.val hd 14 69 (by decide +kernel)) rfl
              refine ⟨wanted_some rfl 68 rfl (KS_val (Deps.val hd 13 68 (by decide +kernel)) rfl), fun Q => ?_⟩
              refine wp_call 17 _ (run_enter 17 _ _ rfl (by kernel_rfl)) ?_
              simp only [List.map_toArray, List.map_nil, List.map_cons, e69]
              refine (bLen_any (HB9.out.kept hg)).mono ?_
              rintro e_ w_ ⟨rfl, rfl⟩
              rw [HN5.out]
              exact ⟨_, rfl, KS_mkv rfl rfl, Below.refl _ _⟩
            · -- 16: Op.move (Operand.tmp 4)
              have e4 : a'.eval (.tmp 4) = .pointer (some ⟨R, 0, none⟩) := hk.at 4 (by decide +kernel)
              refine ⟨wanted_some rfl 68 rfl (KS_val (Deps.val hd 13 68 (by decide +kernel)) rfl), fun Q => ?_⟩
              exact wp_value _ (by simp only [execOp, e4]; rfl) (KS_mkv rfl rfl)
            · -- 17: Op.nilCheck (Operand.tmp 71)
              have e71 : a'.eval (.tmp 71) = .pointer (some ⟨R, 0, none⟩) := KS_val (Deps.val hd 16 71 (by decide +kernel)) rfl
              refine ⟨wanted_some rfl 68 rfl (KS_val (Deps.val hd 13 68 (by decide +kernel)) rfl), fun Q => ?_⟩
              clear hd hk
              exact wp_value (.pointer (some ⟨R, 0, none⟩)) (by simp only [execOp, e71]; go_simp) (KS_mkv rfl rfl)
            · -- 18: Op.fieldAddr 30 (Operand.tmp 72) 0
              have e72 : a'.eval (.tmp 72) = .pointer (some ⟨R, 0, none⟩) := KS_val (Deps.val hd 17 72 (by decide +kernel)) rfl
              refine ⟨wanted_some rfl 68 rfl (KS_val (Deps.val hd 13 68 (by decide +kernel)) rfl), fun Q => ?_⟩
              clear hd hk
              exact wp_value (.pointer (some ⟨R, 0, none⟩)) (by simp only [execOp, e72]; go_simp) (KS_mkv rfl rfl)
            · -- 19: Op.load 28 (Operand.tmp 73)
              have e73 : a'.eval (.tmp 73) = .pointer (some ⟨R, 0, none⟩) := KS_val (Deps.val hd 18 73 (by decide +kernel)) rfl
              refine ⟨wanted_some rfl 68 rfl (KS_val (Deps.val hd 13 68 (by decide +kernel)) rfl), fun Q => ?_⟩
              have c_ : w'.cell? ⟨R, 0, none⟩ = some (.slice a5 n5 c5') := (HR9.out.d.kept hg).cell (j := 0) rfl
              clear hd hk
              exact wp_value (.slice a5 n5 c5') (by simp only [execOp, e73]; go_simp) (KS_mkv rfl rfl)
            · -- 20: Op.call ( callee := Callee.builtin Builtin.len, args := #[Op
              have e74 : a'.eval (.tmp 74) = .slice a5 n5 c5' := KS_val (Deps.val hd 19 74 (by decide +kernel)) rfl
              refine ⟨wanted_some rfl 68 rfl (KS_val (Deps.val hd 13 68 (by decide +kernel)) rfl), fun Q => ?_⟩
              clear hd hk
              exact wp_value (.int .i64 (n5 : Int)) (by simp only [execOp, resolve, invoke, builtin, Sem.run_bind, Sem.run_pure, Result.andThen_ok, List.map_toArray, List.map_cons, List.map_nil, e74]; go_simp) (KS_mkv rfl rfl)
            · -- 21: Op.binOp BinOp.neq 3 (Operand.tmp 70) (Operand.tmp 75) 3
              have e70 : a'.eval (.tmp 70) = .int .i64 (n5 : Int) := KS_val (Deps.val hd 15 70 (by decide +kernel)) rfl
              have e75 : a'.eval (.tmp 75) = .int .i64 (n5 : Int) := KS_val (Deps.val hd 20 75 (by decide +kernel)) rfl
              refine ⟨wanted_some rfl 68 rfl (KS_val (Deps.val hd 13 68 (by decide +kernel)) rfl), fun Q => ?_⟩
              clear hd hk
              exact wp_value (.bool false) (by simp only [execOp, e70, e75]; go_simp) (KS_mkv rfl rfl)
            · -- 22: Op.pick (Operand.tmp 68) (Operand.const (Value.bool true)) (
              have e68 : a'.eval (.tmp 68) = .bool false := KS_val (Deps.val hd 13 68 (by decide +kernel)) rfl
              have e76 : a'.eval (.tmp 76) = .bool false := KS_val (Deps.val hd 21 76 (by decide +kernel)) rfl
              refine ⟨wanted_none rfl, fun Q => ?_⟩
              clear hd hk
              exact wp_value (.bool false) (by simp only [execOp, e68, e76]; go_simp) (KS_mkv rfl rfl)
            · -- 23: Op.move (Operand.tmp 77)
              have e77 : a'.eval (.tmp 77) = .bool false := KS_val (Deps.val hd 22 77 (by decide +kernel)) rfl
              refine ⟨wanted_none rfl, fun Q => ?_⟩
              exact wp_value _ (by simp only [execOp, e77]; rfl) (KS_mkv rfl rfl)
            · -- 24: Op.move (Operand.tmp 3)
              have e3 : a'.eval (.tmp 3) = .pointer (some ⟨D, 0, none⟩) := hk.at 3 (by decide +kernel)
              refine ⟨wanted_some rfl 78 rfl (KS_val (Deps.val hd 23 78 (by decide +kernel)) rfl), fun Q => ?_⟩
              exact wp_value _ (by simp only [execOp, e3]; rfl) (KS_mkv rfl rfl)
            · -- 25: Op.call ( callee := Callee.value (Operand.func 19), args := 
              have e79 : a'.eval (.tmp 79) = .pointer (some ⟨D, 0, none⟩) := KS_val (Deps.val hd 24 79 (by decide +kernel)) rfl
              refine ⟨wanted_some rfl 78 rfl (KS_val (Deps.val hd 23 78 (by decide +kernel)) rfl), fun Q => ?_⟩
              refine wp_call 19 _ (run_enter 19 _ _ rfl (by kernel_rfl)) ?_
              simp only [List.map_toArray, List.map_nil, List.map_cons, e79]
              refine (writes_any (HB9.out.kept hg)).mono ?_
              rintro e_ w_ ⟨v_, rfl, ho_, hb_⟩
              exact ⟨_, rfl, KS_mko rfl ho_.rd, hb_⟩
            · -- 26: Op.move (Operand.tmp 4)
              have e4 : a'.eval (.tmp 4) = .pointer (some ⟨R, 0, none⟩) := hk.at 4 (by decide +kernel)
              refine ⟨wanted_some rfl 78 rfl (KS_val (Deps.val hd 23 78 (by decide +kernel)) rfl), fun Q => ?_⟩
              exact wp_value _ (by simp only [execOp, e4]; rfl) (KS_mkv rfl rfl)
            · -- 27: Op.nilCheck (Operand.tmp 81)
              have e81 : a'.eval (.tmp 81) = .pointer (some ⟨R, 0, none⟩) := KS_val (Deps.val hd 26 81 (by decide +kernel)) rfl
              refine ⟨wanted_some rfl 78 rfl (KS_val (Deps.val hd 23 78 (by decide +kernel)) rfl), fun Q => ?_⟩
              clear hd hk
              exact wp_value (.pointer (some ⟨R, 0, none⟩)) (by simp only [execOp, e81]; go_simp) (KS_mkv rfl rfl)
            · -- 28: Op.fieldAddr 30 (Operand.tmp 82) 0
              have e82 : a'.eval (.tmp 82) = .pointer (some ⟨R, 0, none⟩) := KS_val (Deps.val hd 27 82 (by decide +kernel)) rfl
              refine ⟨wanted_some rfl 78 rfl (KS_val (Deps.val hd 23 78 (by decide +kernel)) rfl), fun Q => ?_⟩
              clear hd hk
              exact wp_value (.pointer (some ⟨R, 0, none⟩)) (by simp only [execOp, e82]; go_simp) (KS_mkv rfl rfl)
            · -- 29: Op.load 28 (Operand.tmp 83)
              have e83 : a'.eval (.tmp 83) = .pointer (some ⟨R, 0, none⟩) := KS_val (Deps.val hd 28 83 (by decide +kernel)) rfl
              refine ⟨wanted_some rfl 78 rfl (KS_val (Deps.val hd 23 78 (by decide +kernel)) rfl), fun Q => ?_⟩
              have c_ : w'.cell? ⟨R, 0, none⟩ = some (.slice a5 n5 c5') := (HR9.out.d.kept hg).cell (j := 0) rfl
              clear hd hk
              exact wp_value (.slice a5 n5 c5') (by simp only [execOp, e83]; go_simp) (KS_mkv rfl rfl)
            · -- 30: Op.call ( callee := Callee.value (Operand.func 18), args := 
              have r80 := KS_of (Deps.val hd 25 80 (by decide +kernel)) rfl
              have e84 : a'.eval (.tmp 84) = .slice a5 n5 c5' := KS_val (Deps.val hd 29 84 (by decide +kernel)) rfl
              refine ⟨wanted_some rfl 78 rfl (KS_val (Deps.val hd 23 78 (by decide +kernel)) rfl), fun Q => ?_⟩
              refine wp_call 18 _ (run_enter 18 _ _ rfl (by kernel_rfl)) ?_
              simp only [List.map_toArray, List.map_nil, List.map_cons, e84]
              refine (vsame_any r80 ((HR9.out.own.rd).kept hg)).mono ?_
              rintro e_ w_ ⟨rfl, hb_⟩
              rw [decide_eq_true rfl]
              exact ⟨_, rfl, KS_mkv rfl rfl, hb_⟩
            · -- 31: Op.unOp UnOp.not 4 (Operand.tmp 85)
              have e85 : a'.eval (.tmp 85) = .bool true := KS_val (Deps.val hd 30 85 (by decide +kernel)) rfl
              refine ⟨wanted_some rfl 78 rfl (KS_val (Deps.val hd 23 78 (by decide +kernel)) rfl), fun Q => ?_⟩
              clear hd hk
              exact wp_value (.bool false) (by simp only [execOp, e85]; go_simp) (KS_mkv rfl rfl)
          · intro a' w10 hsz hdf hk hall hg
            have e55 : a'.eval (.tmp 55) = .int .i64 rr := KS_val (hall 0 _ 55 (by decide) rfl rfl) rfl
            have e56 : a'.eval (.tmp 56) = .int .i64 rr := KS_val (hall 1 _ 56 (by decide) rfl rfl) rfl
            have e57 : a'.eval (.tmp 57) = .bool false := KS_val (hall 2 _ 57 (by decide) rfl rfl) rfl
            have e58 : a'.eval (.tmp 58) = .bool false := KS_val (hall 3 _ 58 (by decide) rfl rfl) rfl
            have e59 : a'.eval (.tmp 59) = .agg (PC q).toArray := KS_val (hall 4 _ 59 (by decide) rfl rfl) rfl
            have e60 : a'.eval (.tmp 60) = .agg (PC q).toArray := KS_val (hall 5 _ 60 (by decide) rfl rfl) rfl
            have e61 : a'.eval (.tmp 61) = .bool false := KS_val (hall 6 _ 61 (by decide) rfl rfl) rfl
            have e62 : a'.eval (.tmp 62) = .bool false := KS_val (hall 7 _ 62 (by decide) rfl rfl) rfl
            have e63 : a'.eval (.tmp 63) = .bool false := KS_val (hall 8 _ 63 (by decide) rfl rfl) rfl
            have e64 : a'.eval (.tmp 64) = .bool ok := KS_val (hall 9 _ 64 (by decide) rfl rfl) rfl
            have e65 : a'.eval (.tmp 65) = .bool ok := KS_val (hall 10 _ 65 (by decide) rfl rfl) rfl
            have e66 : a'.eval (.tmp 66) = .bool false := KS_val (hall 11 _ 66 (by decide) rfl rfl) rfl
            have e67 : a'.eval (.tmp 67) = .bool false := KS_val (hall 12 _ 67 (by decide) rfl rfl) rfl
            have e68 : a'.eval (.tmp 68) = .bool false := KS_val (hall 13 _ 68 (by decide) rfl rfl) rfl
            have e69 : a'.eval (.tmp 69) = .pointer (some ⟨D, 0, none⟩) := KS_val (hall 14 _ 69 (by decide) rfl rfl) rfl
            have e70 : a'.eval (.tmp 70) = .int .i64 (n5 : Int) := KS_val (hall 15 _ 70 (by decide) rfl rfl) rfl
            have e71 : a'.eval (.tmp 71) = .pointer (some ⟨R, 0, none⟩) := KS_val (hall 16 _ 71 (by decide) rfl rfl) rfl
            have e72 : a'.eval (.tmp 72) = .pointer (some ⟨R, 0, none⟩) := KS_val (hall 17 _ 72 (by decide) rfl rfl) rfl
            have e73 : a'.eval (.tmp 73) = .pointer (some ⟨R, 0, none⟩) := KS_val (hall 18 _ 73 (by decide) rfl rfl) rfl
            have e74 : a'.eval (.tmp 74) = .slice a5 n5 c5' := KS_val (hall 19 _ 74 (by decide) rfl rfl) rfl
            have e75 : a'.eval (.tmp 75) = .int .i64 (n5 : Int) := KS_val (hall 20 _ 75 (by decide) rfl rfl) rfl
            have e76 : a'.eval (.tmp 76) = .bool false := KS_val (hall 21 _ 76 (by decide) rfl rfl) rfl
            have e77 : a'.eval (.tmp 77) = .bool false := KS_val (hall 22 _ 77 (by decide) rfl rfl) rfl
            have e78 : a'.eval (.tmp 78) = .bool false := KS_val (hall 23 _ 78 (by decide) rfl rfl) rfl
            have e79 : a'.eval (.tmp 79) = .pointer (some ⟨D, 0, none⟩) := KS_val (hall 24 _ 79 (by decide) rfl rfl) rfl
            have r80 := KS_of (hall 25 _ 80 (by decide) rfl rfl) rfl
            obtain ⟨x80, e80⟩ : ∃ v, a'.eval (.tmp 80) = v := ⟨_, rfl⟩
            rw [e80] at r80
            have e81 : a'.eval (.tmp 81) = .pointer (some ⟨R, 0, none⟩) := KS_val (hall 26 _ 81 (by decide) rfl rfl) rfl
            have e82 : a'.eval (.tmp 82) = .pointer (some ⟨R, 0, none⟩) := KS_val (hall 27 _ 82 (by decide) rfl rfl) rfl
            have e83 : a'.eval (.tmp 83) = .pointer (some ⟨R, 0, none⟩) := KS_val (hall 28 _ 83 (by decide) rfl rfl) rfl
            have e84 : a'.eval (.tmp 84) = .slice a5 n5 c5' := KS_val (hall 29 _ 84 (by decide) rfl rfl) rfl
            have e85 : a'.eval (.tmp 85) = .bool true := KS_val (hall 30 _ 85 (by decide) rfl rfl) rfl
            have e86 : a'.eval (.tmp 86) = .bool false := KS_val (hall 31 _ 86 (by decide) rfl rfl) rfl
            obtain ⟨x87, e87⟩ : ∃ v, a'.eval (.tmp 87) = v := ⟨_, rfl⟩
            refine ⟨wanted_none rfl, ?_⟩
            unfold Oper.wp execOp
            simp only [Sem.run_bind, Sem.run_pure, e78, e86]
            go_simp
            refine ⟨⟨_, rfl⟩, ?_⟩
            show Exit.then _ _ Exit.normal _ _
            have ha := act_puts 90 rfl hsz hdf hk [55, 56, 57, 58, 59, 60, 61, 62, 63, 64, 65, 66, 67, 68, 69, 70, 71, 72, 73, 74, 75, 76, 77, 78, 79, 80, 81, 82, 83, 84, 85, 86, 87] (by decide +kernel)
            simp only [puts, List.foldl_cons, List.foldl_nil, e55, e56, e57, e58, e59, e60, e61, e62, e63, e64, e65, e66, e67, e68, e69, e70, e71, e72, e73, e74, e75, e76, e77, e78, e79, e80, e81, e82, e83, e84, e85, e86, e87] at ha
            simp only [Act.put, List.setIfInBounds_toArray, List.set_cons_succ, List.set_cons_zero] at ha
            have HB10 := hide (HB9.out.kept hg)
            have HR10 := hide (HR9.out.kept hg)
            have L10 : Hid (Below N w w10) := (show _ from L9.out.trans (Below.mono hg (by have := L9.out.size; have := HNw.out; omega)))
            clear hall hk hsz hdf hg r80 e55 e56 e57 e58 e59 e60 e61 e62 e63 e64 e65 e66 e67 e68 e69 e70 e71 e72 e73 e74 e75 e76 e77 e78 e79 e80 e81 e82 e83 e84 e85 e86 e87
            subst ha
            simp only [List.setIfInBounds_toArray, List.set_cons_succ, List.set_cons_zero]
            go_wp2_with fail
            go_roundg (n - i)
            case measure => omega
            case rel => exact ⟨i + 1, by omega, by omega, by go_num, (show BB _ _ _ _ _ by rw [HST.out, HL5.out]; exact ⟨HB10.out, _, HR10.out⟩), L10⟩
        | false =>
          have HAc : Hid (actP p = (p.1, p.2.1, false)) := (show _ = _ by unfold actP; rw [if_neg (by rw [HD.out]; simp)])
          rw [HAc.out] at HB4 HR HST
          have CP := rPut_any HR4.out HSrt.out HLen.out p.1 p.2.1
          rw [HR.out] at CP
          have HCP := hide CP
          clear CP
          go_wp2_with fail
          refine HCP.out.mono ?_
          rintro e w5 ⟨rfl, vr5, h5, c5⟩
          obtain ⟨X5, HL5⟩ : ∃ X, Hid (wrB L (p.1, p.2.1, false) = X) := ⟨_, rfl⟩
          rw [HL5.out] at HB4 h5
          have HB5 := hide (HB4.out.past HR4.out c5)
          have HR5 := hide h5
          obtain ⟨a5, c5', rfl⟩ := h5.own.rd.slice
          obtain ⟨n5, HN5⟩ : ∃ n, Hid (X5.length = n) := ⟨_, rfl⟩
          rw [HN5.out] at HR5
          have HBk5 := hide (HBk4.out.chg c5 (fun e => by have := HAE.out.2.2.1; omega))
          have L5' : Hid (Below N w w5) := (show _ from L4.out.trans (c5.below (by have := L4.out.size; have := HNw.out; omega) (fun k hk e => by have := HAP.out.2.2; omega)))
          have hE5 : Hid (N ≤ w5.heap.size) := (show _ ≤ _ by have := L5'.out.size; have := HNw.out; omega)
          have L5 := L5'
          clear h5 c5 ck cv cd HB4 HR4 HBk4 L4 L5' HCP
          have ck := HBk5.out.key
          obtain ⟨q, HQ⟩ : ∃ q, Hid ((getB X5 p.1).getD zp = q) := ⟨_, rfl⟩
          obtain ⟨ok, HO⟩ : ∃ q, Hid ((getB X5 p.1).isSome = q) := ⟨_, rfl⟩
          have CG := bGet_any HB5.out p.1 HOK.out
          rw [HQ.out, HO.out] at CG
          have HCG := hide CG
          clear CG
          go_wp2_with fail
          refine HCG.out.mono ?_
          rintro e w6 ⟨rfl, hb6⟩
          obtain ⟨E9, HE9⟩ : ∃ E, Hid (w6.heap.size = E) := ⟨_, rfl⟩
          obtain ⟨w7, hw7⟩ : ∃ y, y = w6.alloc (.cells (PC q).toArray 38 (0, 0)) := ⟨_, rfl⟩
          have B7 : Hid (Blk w7 E9 38 (PC q)) := (show Blk _ _ _ _ by rw [hw7, ← HE9.out]; exact Blk.new w6 38 (PC q))
          have hb7 : Below w5.heap.size w5 w7 := by rw [hw7]; exact hb6.alloc hb6.size _
          have HB7 := hide (HB5.out.kept hb7)
          have HR7 := hide (HR5.out.kept hb7)
          have HBk7 := hide (HBk5.out.kept hb7)
          have L7 : Hid (Below N w w7) := (show _ from L5.out.trans (hb7.mono hE5.out))
          have hE7 : Hid (N ≤ w7.heap.size) := (show _ ≤ _ by have := L7.out.size; have := HNw.out; omega)
          have HW7 := hide hw7
          clear ck hb6 hb7 hw7 HCG HB5 HR5 HBk5 L5 hE5
          have ck := HBk7.out.key
          have CG := rGet_any HR7.out (HB7.out.len) p.1
          rw [HQ.out, HO.out] at CG
          have HCG := hide CG
          clear CG
          go_upto_region 12 with (first
            | (refine wpList_store_new rfl 38 _ _ rfl w6 _ (PC q).toArray _ rfl rfl rfl Try.size38 rfl (all_one (PC_one q)) ?_; rw [← HW7.out, HE9.out])
            | fail)
          try simp only [Act.put]
          go_wp2_with fail
          refine HCG.out.mono ?_
          rintro e w8 ⟨rfl, hb8⟩
          obtain ⟨E11, HE11⟩ : ∃ E, Hid (w8.heap.size = E) := ⟨_, rfl⟩
          obtain ⟨w9, hw9⟩ : ∃ y, y = w8.alloc (.cells (PC q).toArray 38 (0, 0)) := ⟨_, rfl⟩
          have BS9 : Hid (Blk w9 E11 38 (PC q)) := (show Blk _ _ _ _ by rw [hw9, ← HE11.out]; exact Blk.new w8 38 (PC q))
          have hb9 : Below w7.heap.size w7 w9 := by rw [hw9]; exact hb8.alloc hb8.size _
          have HB9 := hide (HB7.out.kept hb9)
          have HR9 := hide (HR7.out.kept hb9)
          have BQ9 := hide (B7.out.kept hb9)
          have L9 : Hid (Below N w w9) := (show _ from L7.out.trans (hb9.mono hE7.out))
          have HW9 := hide hw9
          clear ck hb8 hb9 hw9 HCG HB7 HR7 HBk7 L7 hE7 B7
          go_upto_region 13 with (first
            | (refine wpList_store_new rfl 38 _ _ rfl w8 _ (PC q).toArray _ rfl rfl rfl Try.size38 rfl (all_one (PC_one q)) ?_; rw [← HW9.out, HE11.out])
            | fail)
          try simp only [Act.put]
          refine wp_region_tailsW Try.mixed (KS (fun i_ => match i_ with | 0 | 1 => .val (.int .i64 rr) | 2 | 3 | 6 | 7 | 8 | 11 | 12 | 13 | 21 | 22 | 23 | 31 => .val (.bool false) | 4 | 5 => .val (.agg (PC q).toArray) | 9 | 10 => .val (.bool ok) | 14 | 24 => .val (.pointer (some ⟨D, 0, none⟩)) | 15 | 20 => .val (.int .i64 (n5 : Int)) | 16 | 17 | 18 | 26 | 27 | 28 => .val (.pointer (some ⟨R, 0, none⟩)) | 19 | 29 => .val (.slice a5 n5 c5') | 25 => .of (fun W x => RdG PE W x X5) (fun _ _ _ hg h => RdG.kept h hg) | 30 => .val (.bool true) | _ => .free)) 90 rfl (by decide +kernel) 32 (by decide) (by decide +kernel) (KS_mono _) ?_ ?_
          · refine AllFrom.cons (fun a' w' hg hk hd => ?_) (AllFrom.cons (fun a' w' hg hk hd => ?_) (AllFrom.cons (fun a' w' hg hk hd => ?_) (AllFrom.cons (fun a' w' hg hk hd => ?_) (AllFrom.cons (fun a' w' hg hk hd => ?_) (AllFrom.cons (fun a' w' hg hk hd => ?_) (AllFrom.cons (fun a' w' hg hk hd => ?_) (AllFrom.cons (fun a' w' hg hk hd => ?_) (AllFrom.cons (fun a' w' hg hk hd => ?_) (AllFrom.cons (fun a' w' hg hk hd => ?_) (AllFrom.cons (fun a' w' hg hk hd => ?_) (AllFrom.cons (fun a' w' hg hk hd => ?_) (AllFrom.cons (fun a' w' hg hk hd => ?_) (AllFrom.cons (fun a' w' hg hk hd => ?_) (AllFrom.cons (fun a' w' hg hk hd => ?_) (AllFrom.cons (fun a' w' hg hk hd => ?_) (AllFrom.cons (fun a' w' hg hk hd => ?_) (AllFrom.cons (fun a' w' hg hk hd => ?_) (AllFrom.cons (fun a' w' hg hk hd => ?_) (AllFrom.cons (fun a' w' hg hk hd => ?_) (AllFrom.cons (fun a' w' hg hk hd => ?_) (AllFrom.cons (fun a' w' hg hk hd => ?_) (AllFrom.cons (fun a' w' hg hk hd => ?_) (AllFrom.cons (fun a' w' hg hk hd => ?_) (AllFrom.cons (fun a' w' hg hk hd => ?_) (AllFrom.cons (fun a' w' hg hk hd => ?_) (AllFrom.cons (fun a' w' hg hk hd => ?_) (AllFrom.cons (fun a' w' hg hk hd => ?_) (AllFrom.cons (fun a' w' hg hk hd => ?_) (AllFrom.cons (fun a' w' hg hk hd => ?_) (AllFrom.cons (fun a' w' hg hk hd => ?_) (AllFrom.cons (fun a' w' hg hk hd => ?_) AllFrom.nil)))))))))))))))))))))))))))))))
            · -- 0: Op.move (Operand.tmp 7)
              have e7 : a'.eval (.tmp 7) = .int .i64 rr := hk.at 7 (by decide +kernel)
              refine ⟨wanted_none rfl, fun Q => ?_⟩
              exact wp_value _ (by simp only [execOp, e7]; rfl) (KS_mkv rfl rfl)
            · -- 1: Op.move (Operand.tmp 8)
              have e8 : a'.eval (.tmp 8) = .int .i64 rr := hk.at 8 (by decide +kernel)
              refine ⟨wanted_none rfl, fun Q => ?_⟩
              exact wp_value _ (by simp only [execOp, e8]; rfl) (KS_mkv rfl rfl)
            · -- 2: Op.binOp BinOp.neq 3 (Operand.tmp 55) (Operand.tmp 56) 3
              have e55 : a'.eval (.tmp 55) = .int .i64 rr := KS_val (Deps.val hd 0 55 (by decide +kernel)) rfl
              have e56 : a'.eval (.tmp 56) = .int .i64 rr := KS_val (Deps.val hd 1 56 (by decide +kernel)) rfl
              refine ⟨wanted_none rfl, fun Q => ?_⟩
              clear hd hk
              exact wp_value (.bool false) (by simp only [execOp, e55, e56]; go_simp) (KS_mkv rfl rfl)
            · -- 3: Op.move (Operand.tmp 57)
              have e57 : a'.eval (.tmp 57) = .bool false := KS_val (Deps.val hd 2 57 (by decide +kernel)) rfl
              refine ⟨wanted_none rfl, fun Q => ?_⟩
              exact wp_value _ (by simp only [execOp, e57]; rfl) (KS_mkv rfl rfl)
            · -- 4: Op.load 38 (Operand.tmp 9)
              have e9 : a'.eval (.tmp 9) = .pointer (some ⟨E9, 0, none⟩) := hk.at 9 (by decide +kernel)
              refine ⟨wanted_some rfl 58 rfl (KS_val (Deps.val hd 3 58 (by decide +kernel)) rfl), fun Q => ?_⟩
              have rg_ := (BQ9.out.kept hg).range0
              clear hd hk
              exact wp_value (.agg (PC q).toArray) (by simp only [execOp, e9, Instr.loadAt, Instr.sureAddr, Sem.run_bind, Sem.run_pure, Result.andThen_ok, run_loadVar_mid w' E9 0 38 (PC q) _ rg_ Try.underlying38 rfl Try.size38]) (KS_mkv rfl rfl)
            · -- 5: Op.load 38 (Operand.tmp 11)
              have e11 : a'.eval (.tmp 11) = .pointer (some ⟨E11, 0, none⟩) := hk.at 11 (by decide +kernel)
              refine ⟨wanted_some rfl 58 rfl (KS_val (Deps.val hd 3 58 (by decide +kernel)) rfl), fun Q => ?_⟩
              have rg_ := (BS9.out.kept hg).range0
              clear hd hk
              exact wp_value (.agg (PC q).toArray) (by simp only [execOp, e11, Instr.loadAt, Instr.sureAddr, Sem.run_bind, Sem.run_pure, Result.andThen_ok, run_loadVar_mid w' E11 0 38 (PC q) _ rg_ Try.underlying38 rfl Try.size38]) (KS_mkv rfl rfl)
            · -- 6: Op.binOp BinOp.neq 38 (Operand.tmp 59) (Operand.tmp 60) 38
              have e59 : a'.eval (.tmp 59) = .agg (PC q).toArray := KS_val (Deps.val hd 4 59 (by decide +kernel)) rfl
              have e60 : a'.eval (.tmp 60) = .agg (PC q).toArray := KS_val (Deps.val hd 5 60 (by decide +kernel)) rfl
              refine ⟨wanted_some rfl 58 rfl (KS_val (Deps.val hd 3 58 (by decide +kernel)) rfl), fun Q => ?_⟩
              have hn_ := ne_pair q q w'
              rw [decide_eq_true rfl] at hn_
              clear hd hk
              exact wp_value (.bool false) (by simp only [execOp, e59, e60, hn_, guardP, Sem.run_bind, Sem.run_pure, Result.andThen_ok, Bool.not_true]) (KS_mkv rfl rfl)
            · -- 7: Op.pick (Operand.tmp 58) (Operand.const (Value.bool true)) (
              have e58 : a'.eval (.tmp 58) = .bool false := KS_val (Deps.val hd 3 58 (by decide +kernel)) rfl
              have e61 : a'.eval (.tmp 61) = .bool false := KS_val (Deps.val hd 6 61 (by decide +kernel)) rfl
              refine ⟨wanted_none rfl, fun Q => ?_⟩
              clear hd hk
              exact wp_value (.bool false) (by simp only [execOp, e58, e61]; go_simp) (KS_mkv rfl rfl)
            · -- 8: Op.move (Operand.tmp 62)
              have e62 : a'.eval (.tmp 62) = .bool false := KS_val (Deps.val hd 7 62 (by decide +kernel)) rfl
              refine ⟨wanted_none rfl, fun Q => ?_⟩
              exact wp_value _ (by simp only [execOp, e62]; rfl) (KS_mkv rfl rfl)
            · -- 9: Op.move (Operand.tmp 10)
              have e10 : a'.eval (.tmp 10) = .bool ok := hk.at 10 (by decide +kernel)
              refine ⟨wanted_some rfl 63 rfl (KS_val (Deps.val hd 8 63 (by decide +kernel)) rfl), fun Q => ?_⟩
              exact wp_value _ (by simp only [execOp, e10]; rfl) (KS_mkv rfl rfl)
            · -- 10: Op.move (Operand.tmp 12)
              have e12 : a'.eval (.tmp 12) = .bool ok := hk.at 12 (by decide +kernel)
              refine ⟨wanted_some rfl 63 rfl (KS_val (Deps.val hd 8 63 (by decide +kernel)) rfl), fun Q => ?_⟩
              exact wp_value _ (by simp only [execOp, e12]; rfl) (KS_mkv rfl rfl)
            · -- 11: Op.binOp BinOp.neq 4 (Operand.tmp 64) (Operand.tmp 65) 4
              have e64 : a'.eval (.tmp 64) = .bool ok := KS_val (Deps.val hd 9 64 (by decide +kernel)) rfl
              have e65 : a'.eval (.tmp 65) = .bool ok := KS_val (Deps.val hd 10 65 (by decide +kernel)) rfl
              refine ⟨wanted_some rfl 63 rfl (KS_val (Deps.val hd 8 63 (by decide +kernel)) rfl), fun Q => ?_⟩
              clear hd hk
              exact wp_value (.bool false) (by simp only [execOp, e64, e65]; cases ok <;> rfl) (KS_mkv rfl rfl)
            · -- 12: Op.pick (Operand.tmp 63) (Operand.const (Value.bool true)) (
              have e63 : a'.eval (.tmp 63) = .bool false := KS_val (Deps.val hd 8 63 (by decide +kernel)) rfl
              have e66 : a'.eval (.tmp 66) = .bool false := KS_val (Deps.val hd 11 66 (by decide +kernel)) rfl
              refine ⟨wanted_none rfl, fun Q => ?_⟩
              clear hd hk
              exact wp_value (.bool false) (by simp only [execOp, e63, e66]; go_simp) (KS_mkv rfl rfl)
            · -- 13: Op.move (Operand.tmp 67)
              have e67 : a'.eval (.tmp 67) = .bool false := KS_val (Deps.val hd 12 67 (by decide +kernel)) rfl
              refine ⟨wanted_none rfl, fun Q => ?_⟩
              exact wp_value _ (by simp only [execOp, e67]; rfl) (KS_mkv rfl rfl)
            · -- 14: Op.move (Operand.tmp 3)
              have e3 : a'.eval (.tmp 3) = .pointer (some ⟨D, 0, none⟩) := hk.at 3 (by decide +kernel)
              refine ⟨wanted_some rfl 68 rfl (KS_val (Deps.val hd 13 68 (by decide +kernel)) rfl), fun Q => ?_⟩
              exact wp_value _ (by simp only [execOp, e3]; rfl) (KS_mkv rfl rfl)
            · -- 15: Op.call ( callee := Callee.value (Operand.func 17), args := 
              have e69 : a'.eval (.tmp 69) = .pointer (some ⟨D, 0, none⟩) := KS_val (Deps.val hd 14 69 (by decide +kernel)) rfl
              refine ⟨wanted_some rfl 68 rfl (KS_val (Deps.val hd 13 68 (by decide +kernel)) rfl), fun Q => ?_⟩
              refine wp_call 17 _ (run_enter 17 _ _ rfl (by kernel_rfl)) ?_
              simp only [List.map_toArray, List.map_nil, List.map_cons, e69]
              refine (bLen_any (HB9.out.kept hg)).mono ?_
              rintro e_ w_ ⟨rfl, rfl⟩
              rw [HN5.out]
              exact ⟨_, rfl, KS_mkv rfl rfl, Below.refl _ _⟩
            · -- 16: Op.move (Operand.tmp 4)
              have e4 : a'.eval (.tmp 4) = .pointer (some ⟨R, 0, none⟩) := hk.at 4 (by decide +kernel)
              refine ⟨wanted_some rfl 68 rfl (KS_val (Deps.val hd 13 68 (by decide +kernel)) rfl), fun Q => ?_⟩
              exact wp_value _ (by simp only [execOp, e4]; rfl) (KS_mkv rfl rfl)
            · -- 17: Op.nilCheck (Operand.tmp 71)
              have e71 : a'.eval (.tmp 71) = .pointer (some ⟨R, 0, none⟩) := KS_val (Deps.val hd 16 71 (by decide +kernel)) rfl
              refine ⟨wanted_some rfl 68 rfl (KS_val (Deps.val hd 13 68 (by decide +kernel)) rfl), fun Q => ?_⟩
              clear hd hk
              exact wp_value (.pointer (some ⟨R, 0, none⟩)) (by simp only [execOp, e71]; go_simp) (KS_mkv rfl rfl)
            · -- 18: Op.fieldAddr 30 (Operand.tmp 72) 0
              have e72 : a'.eval (.tmp 72) = .pointer (some ⟨R, 0, none⟩) := KS_val (Deps.val hd 17 72 (by decide +kernel)) rfl
              refine ⟨wanted_some rfl 68 rfl (KS_val (Deps.val hd 13 68 (by decide +kernel)) rfl), fun Q => ?_⟩
              clear hd hk
              exact wp_value (.pointer (some ⟨R, 0, none⟩)) (by simp only [execOp, e72]; go_simp) (KS_mkv rfl rfl)
            · -- 19: Op.load 28 (Operand.tmp 73)
              have e73 : a'.eval (.tmp 73) = .pointer (some ⟨R, 0, none⟩) := KS_val (Deps.val hd 18 73 (by decide +kernel)) rfl
              refine ⟨wanted_some rfl 68 rfl (KS_val (Deps.val hd 13 68 (by decide +kernel)) rfl), fun Q => ?_⟩
              have c_ : w'.cell? ⟨R, 0, none⟩ = some (.slice a5 n5 c5') := (HR9.out.d.kept hg).cell (j := 0) rfl
              clear hd hk
              exact wp_value (.slice a5 n5 c5') (by simp only [execOp, e73]; go_simp) (KS_mkv rfl rfl)
            · -- 20: Op.call ( callee := Callee.builtin Builtin.len, args := #[Op
              have e74 : a'.eval (.tmp 74) = .slice a5 n5 c5' := KS_val (Deps.val hd 19 74 (by decide +kernel)) rfl
              refine ⟨wanted_some rfl 68 rfl (KS_val (Deps.val hd 13 68 (by decide +kernel)) rfl), fun Q => ?_⟩
              clear hd hk
              exact wp_value (.int .i64 (n5 : Int)) (by simp only [execOp, resolve, invoke, builtin, Sem.run_bind, Sem.run_pure, Result.andThen_ok, List.map_toArray, List.map_cons, List.map_nil, e74]; go_simp) (KS_mkv rfl rfl)
            · -- 21: Op.binOp BinOp.neq 3 (Operand.tmp 70) (Operand.tmp 75) 3
              have e70 : a'.eval (.tmp 70) = .int .i64 (n5 : Int) := KS_val (Deps.val hd 15 70 (by decide +kernel)) rfl
              have e75 : a'.eval (.tmp 75) = .int .i64 (n5 : Int) := KS_val (Deps.val hd 20 75 (by decide +kernel)) rfl
              refine ⟨wanted_some rfl 68 rfl (KS_val (Deps.val hd 13 68 (by decide +kernel)) rfl), fun Q => ?_⟩
              clear hd hk
              exact wp_value (.bool false) (by simp only [execOp, e70, e75]; go_simp) (KS_mkv rfl rfl)
            · -- 22: Op.pick (Operand.tmp 68) (Operand.const (Value.bool true)) (
              have e68 : a'.eval (.tmp 68) = .bool false := KS_val (Deps.val hd 13 68 (by decide +kernel)) rfl
              have e76 : a'.eval (.tmp 76) = .bool false := KS_val (Deps.val hd 21 76 (by decide +kernel)) rfl
              refine ⟨wanted_none rfl, fun Q => ?_⟩
              clear hd hk
              exact wp_value (.bool false) (by simp only [execOp, e68, e76]; go_simp) (KS_mkv rfl rfl)
            · -- 23: Op.move (Operand.tmp 77)
              have e77 : a'.eval (.tmp 77) = .bool false := KS_val (Deps.val hd 22 77 (by decide +kernel)) rfl
              refine ⟨wanted_none rfl, fun Q => ?_⟩
              exact wp_value _ (by simp only [execOp, e77]; rfl) (KS_mkv rfl rfl)
            · -- 24: Op.move (Operand.tmp 3)
              have e3 : a'.eval (.tmp 3) = .pointer (some ⟨D, 0, none⟩) := hk.at 3 (by decide +kernel)
              refine ⟨wanted_some rfl 78 rfl (KS_val (Deps.val hd 23 78 (by decide +kernel)) rfl), fun Q => ?_⟩
              exact wp_value _ (by simp only [execOp, e3]; rfl) (KS_mkv rfl rfl)
            · -- 25: Op.call ( callee := Callee.value (Operand.func 19), args := 
              have e79 : a'.eval (.tmp 79) = .pointer (some ⟨D, 0, none⟩) := KS_val (Deps.val hd 24 79 (by decide +kernel)) rfl
              refine ⟨wanted_some rfl 78 rfl (KS_val (Deps.val hd 23 78 (by decide +kernel)) rfl), fun Q => ?_⟩
              refine wp_call 19 _ (run_enter 19 _ _ rfl (by kernel_rfl)) ?_
              simp only [List.map_toArray, List.map_nil, List.map_cons, e79]
              refine (writes_any (HB9.out.kept hg)).mono ?_
              rintro e_ w_ ⟨v_, rfl, ho_, hb_⟩
              exact ⟨_, rfl, KS_mko rfl ho_.rd, hb_⟩
            · -- 26: Op.move (Operand.tmp 4)
              have e4 : a'.eval (.tmp 4) = .pointer (some ⟨R, 0, none⟩) := hk.at 4 (by decide +kernel)
              refine ⟨wanted_some rfl 78 rfl (KS_val (Deps.val hd 23 78 (by decide +kernel)) rfl), fun Q => ?_⟩
              exact wp_value _ (by simp only [execOp, e4]; rfl) (KS_mkv rfl rfl)
            · -- 27: Op.nilCheck (Operand.tmp 81)
              have e81 : a'.eval (.tmp 81) = .pointer (some ⟨R, 0, none⟩) := KS_val (Deps.val hd 26 81 (by decide +kernel)) rfl
              refine ⟨wanted_some rfl 78 rfl (KS_val (Deps.val hd 23 78 (by decide +kernel)) rfl), fun Q => ?_⟩
              clear hd hk
              exact wp_value (.pointer (some ⟨R, 0, none⟩)) (by simp only [execOp, e81]; go_simp) (KS_mkv rfl rfl)
            · -- 28: Op.fieldAddr 30 (Operand.tmp 82) 0
              have e82 : a'.eval (.tmp 82) = .pointer (some ⟨R, 0, none⟩) := KS_val (Deps.val hd 27 82 (by decide +kernel)) rfl
              refine ⟨wanted_some rfl 78 rfl (KS_val (Deps.val hd 23 78 (by decide +kernel)) rfl), fun Q => ?_⟩
              clear hd hk
              exact wp_value (.pointer (some ⟨R, 0, none⟩)) (by simp only [execOp, e82]; go_simp) (KS_mkv rfl rfl)
            · -- 29: Op.load 28 (Operand.tmp 83)
              have e83 : a'.eval (.tmp 83) = .pointer (some ⟨R, 0, none⟩) := KS_val (Deps.val hd 28 83 (by decide +kernel)) rfl
              refine ⟨wanted_some rfl 78 rfl (KS_val (Deps.val hd 23 78 (by decide +kernel)) rfl), fun Q => ?_⟩
              have c_ : w'.cell? ⟨R, 0, none⟩ = some (.slice a5 n5 c5') := (HR9.out.d.kept hg).cell (j := 0) rfl
              clear hd hk
              exact wp_value (.slice a5 n5 c5') (by simp only [execOp, e83]; go_simp) (KS_mkv rfl rfl)
            · -- 30: Op.call ( callee := Callee.value (Operand.func 18), args := 
              have r80 := KS_of (Deps.val hd 25 80 (by decide +kernel)) rfl
              have e84 : a'.eval (.tmp 84) = .slice a5 n5 c5' := KS_val (Deps.val hd 29 84 (by decide +kernel)) rfl
              refine ⟨wanted_some rfl 78 rfl (KS_val (Deps.val hd 23 78 (by decide +kernel)) rfl), fun Q => ?_⟩
              refine wp_call 18 _ (run_enter 18 _ _ rfl (by kernel_rfl)) ?_
              simp only [List.map_toArray, List.map_nil, List.map_cons, e84]
              refine (vsame_any r80 ((HR9.out.own.rd).kept hg)).mono ?_
              rintro e_ w_ ⟨rfl, hb_⟩
              rw [decide_eq_true rfl]
              exact ⟨_, rfl, KS_mkv rfl rfl, hb_⟩
            · -- 31: Op.unOp UnOp.not 4 (Operand.tmp 85)
              have e85 : a'.eval (.tmp 85) = .bool true := KS_val (Deps.val hd 30 85 (by decide +kernel)) rfl
              refine ⟨wanted_some rfl 78 rfl (KS_val (Deps.val hd 23 78 (by decide +kernel)) rfl), fun Q => ?_⟩
              clear hd hk
              exact wp_value (.bool false) (by simp only [execOp, e85]; go_simp) (KS_mkv rfl rfl)
          · intro a' w10 hsz hdf hk hall hg
            have e55 : a'.eval (.tmp 55) = .int .i64 rr := KS_val (hall 0 _ 55 (by decide) rfl rfl) rfl
            have e56 : a'.eval (.tmp 56) = .int .i64 rr := KS_val (hall 1 _ 56 (by decide) rfl rfl) rfl
            have e57 : a'.eval (.tmp 57) = .bool false := KS_val (hall 2 _ 57 (by decide) rfl rfl) rfl
            have e58 : a'.eval (.tmp 58) = .bool false := KS_val (hall 3 _ 58 (by decide) rfl rfl) rfl
            have e59 : a'.eval (.tmp 59) = .agg (PC q).toArray := KS_val (hall 4 _ 59 (by decide) rfl rfl) rfl
            have e60 : a'.eval (.tmp 60) = .agg (PC q).toArray := KS_val (hall 5 _ 60 (by decide) rfl rfl) rfl
            have e61 : a'.eval (.tmp 61) = .bool false := KS_val (hall 6 _ 61 (by decide) rfl rfl) rfl
            have e62 : a'.eval (.tmp 62) = .bool false := KS_val (hall 7 _ 62 (by decide) rfl rfl) rfl
            have e63 : a'.eval (.tmp 63) = .bool false := KS_val (hall 8 _ 63 (by decide) rfl rfl) rfl
            have e64 : a'.eval (.tmp 64) = .bool ok := KS_val (hall 9 _ 64 (by decide) rfl rfl) rfl
            have e65 : a'.eval (.tmp 65) = .bool ok := KS_val (hall 10 _ 65 (by decide) rfl rfl) rfl
            have e66 : a'.eval (.tmp 66) = .bool false := KS_val (hall 11 _ 66 (by decide) rfl rfl) rfl
            have e67 : a'.eval (.tmp 67) = .bool false := KS_val (hall 12 _ 67 (by decide) rfl rfl) rfl
            have e68 : a'.eval (.tmp 68) = .bool false := KS_val (hall 13 _ 68 (by decide) rfl rfl) rfl
            have e69 : a'.eval (.tmp 69) = .pointer (some ⟨D, 0, none⟩) := KS_val (hall 14 _ 69 (by decide) rfl rfl) rfl
            have e70 : a'.eval (.tmp 70) = .int .i64 (n5 : Int) := KS_val (hall 15 _ 70 (by decide) rfl rfl) rfl
            have e71 : a'.eval (.tmp 71) = .pointer (some ⟨R, 0, none⟩) := KS_val (hall 16 _ 71 (by decide) rfl rfl) rfl
            have e72 : a'.eval (.tmp 72) = .pointer (some ⟨R, 0, none⟩) := KS_val (hall 17 _ 72 (by decide) rfl rfl) rfl
            have e73 : a'.eval (.tmp 73) = .pointer (some ⟨R, 0, none⟩) := KS_val (hall 18 _ 73 (by decide) rfl rfl) rfl
            have e74 : a'.eval (.tmp 74) = .slice a5 n5 c5' := KS_val (hall 19 _ 74 (by decide) rfl rfl) rfl
            have e75 : a'.eval (.tmp 75) = .int .i64 (n5 : Int) := KS_val (hall 20 _ 75 (by decide) rfl rfl) rfl
            have e76 : a'.eval (.tmp 76) = .bool false := KS_val (hall 21 _ 76 (by decide) rfl rfl) rfl
            have e77 : a'.eval (.tmp 77) = .bool false := KS_val (hall 22 _ 77 (by decide) rfl rfl) rfl
            have e78 : a'.eval (.tmp 78) = .bool false := KS_val (hall 23 _ 78 (by decide) rfl rfl) rfl
            have e79 : a'.eval (.tmp 79) = .pointer (some ⟨D, 0, none⟩) := KS_val (hall 24 _ 79 (by decide) rfl rfl) rfl
            have r80 := KS_of (hall 25 _ 80 (by decide) rfl rfl) rfl
            obtain ⟨x80, e80⟩ : ∃ v, a'.eval (.tmp 80) = v := ⟨_, rfl⟩
            rw [e80] at r80
            have e81 : a'.eval (.tmp 81) = .pointer (some ⟨R, 0, none⟩) := KS_val (hall 26 _ 81 (by decide) rfl rfl) rfl
            have e82 : a'.eval (.tmp 82) = .pointer (some ⟨R, 0, none⟩) := KS_val (hall 27 _ 82 (by decide) rfl rfl) rfl
            have e83 : a'.eval (.tmp 83) = .pointer (some ⟨R, 0, none⟩) := KS_val (hall 28 _ 83 (by decide) rfl rfl) rfl
            have e84 : a'.eval (.tmp 84) = .slice a5 n5 c5' := KS_val (hall 29 _ 84 (by decide) rfl rfl) rfl
            have e85 : a'.eval (.tmp 85) = .bool true := KS_val (hall 30 _ 85 (by decide) rfl rfl) rfl
            have e86 : a'.eval (.tmp 86) = .bool false := KS_val (hall 31 _ 86 (by decide) rfl rfl) rfl
            obtain ⟨x87, e87⟩ : ∃ v, a'.eval (.tmp 87) = v := ⟨_, rfl⟩
            refine ⟨wanted_none rfl, ?_⟩
            unfold Oper.wp execOp
            simp only [Sem.run_bind, Sem.run_pure, e78, e86]
            go_simp
            refine ⟨⟨_, rfl⟩, ?_⟩
            show Exit.then _ _ Exit.normal _ _
            have ha := act_puts 90 rfl hsz hdf hk [55, 56, 57, 58, 59, 60, 61, 62, 63, 64, 65, 66, 67, 68, 69, 70, 71, 72, 73, 74, 75, 76, 77, 78, 79, 80, 81, 82, 83, 84, 85, 86, 87] (by decide +kernel)
            simp only [puts, List.foldl_cons, List.foldl_nil, e55, e56, e57, e58, e59, e60, e61, e62, e63, e64, e65, e66, e67, e68, e69, e70, e71, e72, e73, e74, e75, e76, e77, e78, e79, e80, e81, e82, e83, e84, e85, e86, e87] at ha
            simp only [Act.put, List.setIfInBounds_toArray, List.set_cons_succ, List.set_cons_zero] at ha
            have HB10 := hide (HB9.out.kept hg)
            have HR10 := hide (HR9.out.kept hg)
            have L10 : Hid (Below N w w10) := (show _ from L9.out.trans (Below.mono hg (by have := L9.out.size; have := HNw.out; omega)))
            clear hall hk hsz hdf hg r80 e55 e56 e57 e58 e59 e60 e61 e62 e63 e64 e65 e66 e67 e68 e69 e70 e71 e72 e73 e74 e75 e76 e77 e78 e79 e80 e81 e82 e83 e84 e85 e86 e87
            subst ha
            simp only [List.setIfInBounds_toArray, List.set_cons_succ, List.set_cons_zero]
            go_wp2_with fail
            go_roundg (n - i)
            case measure => omega
            case rel => exact ⟨i + 1, by omega, by omega, by go_num, (show BB _ _ _ _ _ by rw [HST.out, HL5.out]; exact ⟨HB10.out, _, HR10.out⟩), L10⟩
      · obtain rfl : i = n := by omega
        have hlt' : ¬ (i : Int) < (i : Int) := by omega
        have CLV := hide (lives_any wr)
        go_wp2_with fail
        refine CLV.out.mono ?_
        rintro e w2 ⟨rfl, hb2⟩
        have LZ : Hid (Below N w w2) := (show _ from BL.out.trans (hb2.mono (by have := BL.out.size; have := HNw.out; omega)))
        clear hb2
        go_wp2_with fail
        go_ret
        exact ⟨rfl, LZ.out⟩
#print axioms bufferActs_any
end Go.Proofs.Ytfjlkncliljjnaa
