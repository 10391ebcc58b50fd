/-
  What is put: sink's read, write: what the calls do.
-/
import Derived.Test.YtmicmbjbclkbjaaRcS
namespace Go.Proofs.Ytmicmbjbclkbjaa
open Go.RowKit
theorem build_int1 (n : Int) (w : World) : (Instr.buildSlice 94 1 #[(0, .int .i64 n)]).run Try.prog w = .ok (.slice (some ⟨w.heap.size, 0, none⟩) 1 1) (w.alloc (.cells #[.int .i64 n] 3 (0, 0))) := by kernel_rfl
theorem build_int2 (n m : Int) (w : World) : (Instr.buildSlice 94 2 #[(0, .int .i64 n), (1, .int .i64 m)]).run Try.prog w = .ok (.slice (some ⟨w.heap.size, 0, none⟩) 2 2) (w.alloc (.cells #[.int .i64 n, .int .i64 m] 3 (0, 0))) := by kernel_rfl
/-- One number is put. -/
theorem jnum_any {w : World} {B D : Nat} {l : List UInt8} (h : Snk w B D l) (hB : B ≤ D) (hl : l.length ≤ 100000000) (n : Nat) (hn : n ≤ 1099511627776) {G : Nat} (hG : w.heap.size = G) :
    Calls Try.prog 52 #[PT D, .slice (some ⟨G, 0, none⟩) 1 1] (w.alloc (.cells #[.int .i64 (n : Int)] 3 (0, 0))) fun e w' => e = .returned (.tuple #[]) ∧ Snk w' B D (l ++ enc n) ∧ Chg (SkF w B) w w' := by
  subst hG
  refine (jnums_any (ns := [n]) (h.kept ((Below.refl _ _).alloc (Nat.le_refl _) _)) hB hl (Blk.new w 3 _) (by simpa using hn) (by simp) rfl).mono ?_
  rintro e w1 ⟨rfl, s1, c1⟩
  refine ⟨rfl, by simpa using s1, SkF.trans (Chg.alloc _ _ _) c1⟩
theorem jnum2_any {w : World} {B D : Nat} {l : List UInt8} (h : Snk w B D l) (hB : B ≤ D) (hl : l.length ≤ 100000000) (n m : Nat) (hn : n ≤ 1099511627776) (hm : m ≤ 1099511627776) {G : Nat} (hG : w.heap.size = G) :
    Calls Try.prog 52 #[PT D, .slice (some ⟨G, 0, none⟩) 2 2] (w.alloc (.cells #[.int .i64 (n : Int), .int .i64 (m : Int)] 3 (0, 0))) fun e w' => e = .returned (.tuple #[]) ∧ Snk w' B D (l ++ (enc n ++ enc m)) ∧ Chg (SkF w B) w w' := by
  subst hG
  refine (jnums_any (ns := [n, m]) (h.kept ((Below.refl _ _).alloc (Nat.le_refl _) _)) hB hl (Blk.new w 3 _) (by simp; exact ⟨hn, hm⟩) (by simp) rfl).mono ?_
  rintro e w1 ⟨rfl, s1, c1⟩
  refine ⟨rfl, by simpa using s1, SkF.trans (Chg.alloc _ _ _) c1⟩
set_option maxHeartbeats 400000 in
set_option maxRecDepth 100000 in
theorem jread_any {w0 w : World} {B D : Nat} {L0 : List UInt8} (h : Snk w B D L0) (hB : B ≤ D) (hl : L0.length ≤ 50000000) {x : Rz} (hx : XOk w0 x) (hw : Below w0.heap.size w0 w) (hb : w0.heap.size ≤ B) (ho : okX (plR x)) :
    Calls Try.prog 54 #[PT D, .agg (XC x).toArray] w fun e w' => e = .returned (.tuple #[]) ∧ Snk w' B D (L0 ++ eR (plR x)) ∧ Chg (SkF w B) w w' := by
  obtain ⟨N, HN⟩ : ∃ N, Hid (w.heap.size = N) := ⟨_, rfl⟩
  obtain ⟨w1, hw1⟩ : ∃ y, y = w.alloc (.cells (XC x).toArray 39 (0, 0)) := ⟨_, rfl⟩
  obtain ⟨b1, l1⟩ := newB HN hw1
  have HW := hide hw1
  have S1 := hide (h.kept l1.out)
  have C1 : Hid (Chg (SkF w B) w w1) := (show Chg _ _ _ from Chg.of_below l1.out)
  have HBW : Hid (B ≤ w.heap.size) := (show _ ≤ _ from Nat.le_trans hB (Nat.le_of_lt h.lt))
  have HX := hide hx
  have HBL : Hid (∀ wr, Chg (SkF w B) w wr → Below w0.heap.size w0 wr) := (show ∀ wr, _ from fun wr hc => hw.trans ((hc.skBelow HBW.out).mono hb))
  obtain ⟨xs, HXs⟩ : ∃ z, Hid (x.sc = z) := ⟨_, rfl⟩
  obtain ⟨xk, HXk⟩ : ∃ z, Hid (x.k = z) := ⟨_, rfl⟩
  obtain ⟨xt, HXt⟩ : ∃ z, Hid (x.t = z) := ⟨_, rfl⟩
  obtain ⟨Ps, HPs⟩ : ∃ z, Hid (x.ps = z) := ⟨_, rfl⟩
  obtain ⟨pl, HPL⟩ : ∃ z, Hid (Ps.length = z) := ⟨_, rfl⟩
  obtain ⟨pa, HPA⟩ : ∃ z, Hid (x.ha = z) := ⟨_, rfl⟩
  obtain ⟨pc, HPC⟩ : ∃ z, Hid (x.hc = z) := ⟨_, rfl⟩
  have HXP : Hid (RdG PE w0 (.slice pa pl pc) Ps) := (show RdG _ _ _ _ by
    have h1 : RdG PE w0 (xv x) x.ps := hx
    unfold xv at h1
    rwa [HPs.out, HPL.out, HPA.out, HPC.out] at h1)
  have hk1 : xk.size ≤ 64 := by rw [← HXk.out]; exact ho.k
  have ht1 : xt.size ≤ 64 := by rw [← HXt.out]; exact ho.t
  have hp1 : pl ≤ 200 := by rw [← HPL.out, ← HPs.out]; exact ho.n
  have HPP : Hid (∀ p ∈ Ps, okP p) := (show _ from by rw [← HPs.out]; exact ho.p)
  have HER : Hid (eR (plR x) = fl xs ++ (eS xk ++ (eT xs xt ++ (enc pl ++ Ps.flatMap eP)))) := (show _ = _ by
    unfold eR plR eL
    simp only [HXs.out, HXk.out, HXt.out, HPs.out, HPL.out])
  have HXC : Hid (XC x = [.bool xs, .string xk, .string xt, .slice pa pl pc]) := (show _ = _ by
    unfold XC
    rw [HXs.out, HXk.out, HXt.out, HPs.out, HPL.out, HPA.out, HPC.out])
  rw [HXC.out] at b1
  have HLB := hide hl
  have hek := eS_length xk
  have het := eS_length xt
  have hen := (enc_length pl).2
  have CF := hide (jflag_any S1.out hB (by omega) xs)
  clear h hx hw hw1 hb hl
  go_enter Try.func54, Try.ntmps54
  go_upto_region 1 with fail
  change Code.wp _ _ _ _ (w.alloc (.cells (XC x).toArray 39 (0, 0)))
  rw [← HW.out, HN.out]
  have d0 := b1.out.cell (j := 0) rfl
  go_wp2_with fail
  refine CF.out.mono ?_
  rintro e w2 ⟨rfl, s2, c2⟩
  have S2 := hide s2
  have C2 : Hid (Chg (SkF w B) w w2) := (show Chg _ _ _ from SkF.trans C1.out c2)
  have b2 := hide (c2.sk b1.out (by decide) (by decide))
  clear s2 c2 CF
  have CF := hide (jstr_any S2.out hB (by have := HLB.out; simp [fl]; omega) xk (by omega))
  have d1 := b2.out.cell (j := 1) rfl
  clear d0
  go_wp2_with fail
  refine CF.out.mono ?_
  rintro e w3 ⟨rfl, s3, c3⟩
  have S3 := hide s3
  have C3 : Hid (Chg (SkF w B) w w3) := (show Chg _ _ _ from SkF.trans C2.out c3)
  have b3 := hide (c3.sk b2.out (by decide) (by decide))
  clear s3 c3 CF
  have d0 := b3.out.cell (j := 0) rfl
  have d2 := b3.out.cell (j := 2) rfl
  clear d1
  cases xs with
  | true =>
    have CF := hide (jstr_any S3.out hB (by have := HLB.out; simp [fl]; omega) xt (by omega))
    go_wp2_with fail
    refine CF.out.mono ?_
    rintro e w4 ⟨rfl, s4, c4⟩
    have S4 := hide s4
    have C4 : Hid (Chg (SkF w B) w w4) := (show Chg _ _ _ from SkF.trans C3.out c4)
    have b4 := hide (c4.sk b3.out (by decide) (by decide))
    clear s4 c4 CF
    obtain ⟨LT, HLT⟩ : ∃ z, Hid (L0 ++ fl true ++ eS xk ++ eS xt = z) := ⟨_, rfl⟩
    have SM := S4.out
    rw [HLT.out] at SM
    have hlt9 : LT.length ≤ 50001000 := by rw [← HLT.out]; simp [fl]; have := HLB.out; omega
    have SM9 := hide SM
    clear SM
    have CF := hide (jnum_any SM9.out hB (by omega) pl (by omega) rfl)
    have hbi := build_int1
    have d3 := b4.out.cell (j := 3) rfl
    go_wp2_with fail
    refine CF.out.mono ?_
    rintro e w5 ⟨rfl, s5, c5⟩
    have S5 := hide s5
    have C5 : Hid (Chg (SkF w B) w w5) := (show Chg _ _ _ from SkF.trans C4.out c5)
    have b5 := hide (c5.sk b4.out (by decide) (by decide))
    clear s5 c5 CF SM9 d0 d2 d3 S4
    have d3 := b5.out.cell (j := 3) rfl
    go_wp2_with fail
    clear d3 hbi
    have S0 : Hid (Snk w5 B D (LT ++ enc pl ++ (Ps.take 0).flatMap eP)) := (show Snk _ _ _ _ by simpa using S5.out)
    have R0 := C5
    go_loopg [29] (pl + 1) (fun g_ z wr => ∃ (i : Nat), i ≤ pl ∧ g_ + i = pl + 1 ∧ z = .int .i64 (i : Int) ∧ Hid (Snk wr B D (LT ++ enc pl ++ (Ps.take i).flatMap eP)) ∧ Hid (Chg (SkF w B) w wr))
    case atStart => exact ⟨0, Nat.zero_le _, by omega, rfl, S0, R0⟩
    case round =>
      clear S0 R0 S5
      obtain ⟨i, hi, hg, rfl, SR, CR⟩ := hrel
      by_cases hlt : i < pl
      · have hlt' : (i : Int) < (pl : Int) := by omega
        have hlt2 : i < Ps.length := by rw [HPL.out]; exact hlt
        have RB := HXP.out.kept (HBL.out wr CR.out)
        obtain ⟨bb, off, rfl, hb1, hx⟩ := RB.nth (by omega)
        have hrow : wr.rangeAt bb (off + i * 3) (PC Ps[i]) := hx i hlt2
        have hok := HPP.out Ps[i] (List.getElem_mem hlt2)
        have HT : Hid ((Ps.take (i + 1)).flatMap eP = (Ps.take i).flatMap eP ++ eP Ps[i]) := (show _ = _ by rw [List.take_succ_eq_append_getElem hlt2, List.flatMap_append]; simp)
        have HTL : Hid (((Ps.take i).flatMap eP).length ≤ 67600) := (show _ ≤ _ by
          have h1 := fm_length (e := eP) (B := 338) (l := Ps.take i) (fun x hx => eP_length (HPP.out x (List.mem_of_mem_take hx)).1 (HPP.out x (List.mem_of_mem_take hx)).2.1)
          rw [List.length_take, HPL.out] at h1
          have : min i pl * 338 ≤ 200 * 338 := Nat.mul_le_mul_right _ (by omega)
          omega)
        obtain ⟨p, HPp⟩ : ∃ p, Hid (Ps[i] = p) := ⟨Ps[i], (show Ps[i] = Ps[i] from rfl)⟩
        rw [HPp.out] at hrow hok HT
        obtain ⟨ky, va, dd⟩ := p
        obtain ⟨hk9, hv9, -⟩ := hok
        simp only at hk9 hv9
        have hek9 := eS_length ky
        have hev9 := eS_length va
        obtain ⟨L9, HL9⟩ : ∃ z, Hid (LT ++ enc pl ++ (Ps.take i).flatMap eP = z) := ⟨_, rfl⟩
        rw [HL9.out] at SR
        have hl9 : L9.length ≤ 60000000 := by rw [← HL9.out, List.length_append, List.length_append]; have := HTL.out; omega
        obtain ⟨E, HE⟩ : ∃ E, Hid (wr.heap.size = E) := ⟨_, rfl⟩
        obtain ⟨w6, hw6⟩ : ∃ y, y = wr.alloc (.cells (PC (ky, va, dd)).toArray 41 (0, 0)) := ⟨_, rfl⟩
        obtain ⟨b6, l6⟩ := newB HE hw6
        have HW6 := hide hw6
        have C6 : Hid (Chg (SkF w B) w w6) := (show Chg _ _ _ from SkF.trans CR.out (Chg.of_below l6.out))
        have S6 := hide (SR.out.kept l6.out)
        have d0 := b6.out.key
        have CF := hide (jstr_any S6.out hB (by omega) ky (by omega))
        clear hx hw6 RB SR
        go_upto_region 9 with (first
          | (refine wpList_load_mid rfl 41 _ rfl bb (off + i * 3) rfl (PC (ky, va, dd)) _ hrow Try.underlying41 rfl Try.size41 ?_)
          | (refine wpList_store_new rfl 41 _ _ rfl wr _ (PC (ky, va, dd)).toArray _ rfl rfl rfl Try.size41 rfl (all_one (PC_one (ky, va, dd))) ?_; rw [← HW6.out, HE.out])
          | fail)
        try simp only [Act.put]
        clear hrow
        go_wp2_with fail
        refine CF.out.mono ?_
        rintro e w7 ⟨rfl, s7, c7⟩
        have S7 := hide s7
        have C7 : Hid (Chg (SkF w B) w w7) := (show Chg _ _ _ from SkF.trans C6.out c7)
        have b7 := hide (c7.sk b6.out (by decide) (by decide))
        clear s7 c7 CF
        have d1 := b7.out.val
        have CF := hide (jstr_any S7.out hB (by rw [List.length_append]; omega) va (by omega))
        clear d0
        go_wp2_with fail
        refine CF.out.mono ?_
        rintro e w8 ⟨rfl, s8, c8⟩
        have S8 := hide s8
        have C8 : Hid (Chg (SkF w B) w w8) := (show Chg _ _ _ from SkF.trans C7.out c8)
        have b8 := hide (c8.sk b7.out (by decide) (by decide))
        clear s8 c8 CF
        have S9 : Hid (Snk w8 B D (LT ++ enc pl ++ (Ps.take (i + 1)).flatMap eP)) := (show Snk _ _ _ _ by
          have h1 := S8.out
          rw [← HL9.out] at h1
          rw [HT.out]
          unfold eP at h1 ⊢
          simpa only [List.append_assoc] using h1)
        clear d1
        go_wp2_with fail
        go_roundg (pl - i)
        case measure => omega
        case rel => exact ⟨i + 1, by omega, by omega, by go_num, S9, C8⟩
      · obtain rfl : i = pl := by omega
        have hlt' : ¬ (i : Int) < i := by omega
        have hfull : Ps.take i = Ps := List.take_of_length_le (by rw [HPL.out]; exact Nat.le_refl _)
        rw [hfull] at SR
        clear hfull
        go_wp2_with fail
        go_end0
        refine ⟨rfl, ?_, CR.out⟩
        rw [HER.out]
        have h1 := SR.out
        rw [← HLT.out] at h1
        simpa only [eT, if_true, List.append_assoc] using h1
  | false =>
    obtain ⟨LT, HLT⟩ : ∃ z, Hid (L0 ++ fl false ++ eS xk = z) := ⟨_, rfl⟩
    have SM := S3.out
    rw [HLT.out] at SM
    have hlt9 : LT.length ≤ 50001000 := by rw [← HLT.out]; simp [fl]; have := HLB.out; omega
    have SM9 := hide SM
    clear SM
    have CF := hide (jnum_any SM9.out hB (by omega) pl (by omega) rfl)
    have hbi := build_int1
    have d3 := b3.out.cell (j := 3) rfl
    go_wp2_with fail
    refine CF.out.mono ?_
    rintro e w5 ⟨rfl, s5, c5⟩
    have S5 := hide s5
    have C5 : Hid (Chg (SkF w B) w w5) := (show Chg _ _ _ from SkF.trans C3.out c5)
    have b5 := hide (c5.sk b3.out (by decide) (by decide))
    clear s5 c5 CF SM9 d0 d2 d3 S3
    have d3 := b5.out.cell (j := 3) rfl
    go_wp2_with fail
    clear d3 hbi
    have S0 : Hid (Snk w5 B D (LT ++ enc pl ++ (Ps.take 0).flatMap eP)) := (show Snk _ _ _ _ by simpa using S5.out)
    have R0 := C5
    go_loopg [29] (pl + 1) (fun g_ z wr => ∃ (i : Nat), i ≤ pl ∧ g_ + i = pl + 1 ∧ z = .int .i64 (i : Int) ∧ Hid (Snk wr B D (LT ++ enc pl ++ (Ps.take i).flatMap eP)) ∧ Hid (Chg (SkF w B) w wr))
    case atStart => exact ⟨0, Nat.zero_le _, by omega, rfl, S0, R0⟩
    case round =>
      clear S0 R0 S5
      obtain ⟨i, hi, hg, rfl, SR, CR⟩ := hrel
      by_cases hlt : i < pl
      · have hlt' : (i : Int) < (pl : Int) := by omega
        have hlt2 : i < Ps.length := by rw [HPL.out]; exact hlt
        have RB := HXP.out.kept (HBL.out wr CR.out)
        obtain ⟨bb, off, rfl, hb1, hx⟩ := RB.nth (by omega)
        have hrow : wr.rangeAt bb (off + i * 3) (PC Ps[i]) := hx i hlt2
        have hok := HPP.out Ps[i] (List.getElem_mem hlt2)
        have HT : Hid ((Ps.take (i + 1)).flatMap eP = (Ps.take i).flatMap eP ++ eP Ps[i]) := (show _ = _ by rw [List.take_succ_eq_append_getElem hlt2, List.flatMap_append]; simp)
        have HTL : Hid (((Ps.take i).flatMap eP).length ≤ 67600) := (show _ ≤ _ by
          have h1 := fm_length (e := eP) (B := 338) (l := Ps.take i) (fun x hx => eP_length (HPP.out x (List.mem_of_mem_take hx)).1 (HPP.out x (List.mem_of_mem_take hx)).2.1)
          rw [List.length_take, HPL.out] at h1
          have : min i pl * 338 ≤ 200 * 338 := Nat.mul_le_mul_right _ (by omega)
          omega)
        obtain ⟨p, HPp⟩ : ∃ p, Hid (Ps[i] = p) := ⟨Ps[i], (show Ps[i] = Ps[i] from rfl)⟩
        rw [HPp.out] at hrow hok HT
        obtain ⟨ky, va, dd⟩ := p
        obtain ⟨hk9, hv9, -⟩ := hok
        simp only at hk9 hv9
        have hek9 := eS_length ky
        have hev9 := eS_length va
        obtain ⟨L9, HL9⟩ : ∃ z, Hid (LT ++ enc pl ++ (Ps.take i).flatMap eP = z) := ⟨_, rfl⟩
        rw [HL9.out] at SR
        have hl9 : L9.length ≤ 60000000 := by rw [← HL9.out, List.length_append, List.length_append]; have := HTL.out; omega
        obtain ⟨E, HE⟩ : ∃ E, Hid (wr.heap.size = E) := ⟨_, rfl⟩
        obtain ⟨w6, hw6⟩ : ∃ y, y = wr.alloc (.cells (PC (ky, va, dd)).toArray 41 (0, 0)) := ⟨_, rfl⟩
        obtain ⟨b6, l6⟩ := newB HE hw6
        have HW6 := hide hw6
        have C6 : Hid (Chg (SkF w B) w w6) := (show Chg _ _ _ from SkF.trans CR.out (Chg.of_below l6.out))
        have S6 := hide (SR.out.kept l6.out)
        have d0 := b6.out.key
        have CF := hide (jstr_any S6.out hB (by omega) ky (by omega))
        clear hx hw6 RB SR
        go_upto_region 9 with (first
          | (refine wpList_load_mid rfl 41 _ rfl bb (off + i * 3) rfl (PC (ky, va, dd)) _ hrow Try.underlying41 rfl Try.size41 ?_)
          | (refine wpList_store_new rfl 41 _ _ rfl wr _ (PC (ky, va, dd)).toArray _ rfl rfl rfl Try.size41 rfl (all_one (PC_one (ky, va, dd))) ?_; rw [← HW6.out, HE.out])
          | fail)
        try simp only [Act.put]
        clear hrow
        go_wp2_with fail
        refine CF.out.mono ?_
        rintro e w7 ⟨rfl, s7, c7⟩
        have S7 := hide s7
        have C7 : Hid (Chg (SkF w B) w w7) := (show Chg _ _ _ from SkF.trans C6.out c7)
        have b7 := hide (c7.sk b6.out (by decide) (by decide))
        clear s7 c7 CF
        have d1 := b7.out.val
        have CF := hide (jstr_any S7.out hB (by rw [List.length_append]; omega) va (by omega))
        clear d0
        go_wp2_with fail
        refine CF.out.mono ?_
        rintro e w8 ⟨rfl, s8, c8⟩
        have S8 := hide s8
        have C8 : Hid (Chg (SkF w B) w w8) := (show Chg _ _ _ from SkF.trans C7.out c8)
        have b8 := hide (c8.sk b7.out (by decide) (by decide))
        clear s8 c8 CF
        have S9 : Hid (Snk w8 B D (LT ++ enc pl ++ (Ps.take (i + 1)).flatMap eP)) := (show Snk _ _ _ _ by
          have h1 := S8.out
          rw [← HL9.out] at h1
          rw [HT.out]
          unfold eP at h1 ⊢
          simpa only [List.append_assoc] using h1)
        clear d1
        go_wp2_with fail
        go_roundg (pl - i)
        case measure => omega
        case rel => exact ⟨i + 1, by omega, by omega, by go_num, S9, C8⟩
      · obtain rfl : i = pl := by omega
        have hlt' : ¬ (i : Int) < i := by omega
        have hfull : Ps.take i = Ps := List.take_of_length_le (by rw [HPL.out]; exact Nat.le_refl _)
        rw [hfull] at SR
        clear hfull
        go_wp2_with fail
        go_end0
        refine ⟨rfl, ?_, CR.out⟩
        rw [HER.out]
        have h1 := SR.out
        rw [← HLT.out] at h1
        simpa only [eT, Bool.false_eq_true, if_false, List.nil_append, List.append_assoc] using h1
#print axioms jread_any
set_option maxHeartbeats 4000000 in
set_option maxRecDepth 100000 in
theorem jwrite_any {w : World} {B D : Nat} {L0 : List UInt8} (h : Snk w B D L0) (hB : B ≤ D) (hl : L0.length ≤ 50000000) {p : Pr} (ho : okW p) :
    Calls Try.prog 55 #[PT D, .agg (PC p).toArray] w fun e w' => e = .returned (.tuple #[]) ∧ Snk w' B D (L0 ++ eW p) ∧ Chg (SkF w B) w w' := by
  obtain ⟨ky, va, dd⟩ := p
  obtain ⟨hk, hv, -⟩ := ho
  simp only at hk hv
  have hek := eS_length ky
  have hev := eS_length va
  obtain ⟨N, HN⟩ : ∃ N, Hid (w.heap.size = N) := ⟨_, rfl⟩
  obtain ⟨w1, hw1⟩ : ∃ y, y = w.alloc (.cells (PC (ky, va, dd)).toArray 41 (0, 0)) := ⟨_, rfl⟩
  obtain ⟨b1, l1⟩ := newB HN hw1
  have HW := hide hw1
  have S1 := hide (h.kept l1.out)
  have C1 : Hid (Chg (SkF w B) w w1) := (show Chg _ _ _ from Chg.of_below l1.out)
  have CF := hide (jstr_any S1.out hB (by omega) ky (by omega))
  have d0 := b1.out.key
  clear h hw1
  go_enter Try.func55, Try.ntmps55
  go_upto_region 1 with fail
  change Code.wp _ _ _ _ (w.alloc (.cells (PC (ky, va, dd)).toArray 41 (0, 0)))
  rw [← HW.out, HN.out]
  go_wp2_with fail
  refine CF.out.mono ?_
  rintro e w2 ⟨rfl, s2, c2⟩
  have S2 := hide s2
  have C2 : Hid (Chg (SkF w B) w w2) := (show Chg _ _ _ from SkF.trans C1.out c2)
  have b2 := hide (c2.sk b1.out (by decide) (by decide))
  clear s2 c2 CF
  have CF := hide (jflag_any S2.out hB (by rw [List.length_append]; omega) dd)
  have d2 := b2.out.dead
  clear d0
  go_wp2_with fail
  refine CF.out.mono ?_
  rintro e w3 ⟨rfl, s3, c3⟩
  have S3 := hide s3
  have C3 : Hid (Chg (SkF w B) w w3) := (show Chg _ _ _ from SkF.trans C2.out c3)
  have b3 := hide (c3.sk b2.out (by decide) (by decide))
  clear s3 c3 CF
  have d2 := b3.out.dead
  have d1 := b3.out.val
  cases dd with
  | true =>
    go_wp2_with fail
    go_end0
    exact ⟨rfl, by simpa [eW, eT] using S3.out, C3.out⟩
  | false =>
    have CF := hide (jstr_any S3.out hB (by simp [fl]; omega) va (by omega))
    go_wp2_with fail
    refine CF.out.mono ?_
    rintro e w4 ⟨rfl, s4, c4⟩
    have S4 := hide s4
    have C4 : Hid (Chg (SkF w B) w w4) := (show Chg _ _ _ from SkF.trans C3.out c4)
    have b4 := hide (c4.sk b3.out (by decide) (by decide))
    clear s4 c4 CF
    go_wp2_with fail
    go_end0
    exact ⟨rfl, by simpa [eW, eT] using S4.out, C4.out⟩
#print axioms jwrite_any
end Go.Proofs.Ytmicmbjbclkbjaa
