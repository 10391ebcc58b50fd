/-
  BufferLays: what the call does.
-/
import Derived.Test.YtfjlkncliljjnaaBfY
namespace Go.Proofs.Ytfjlkncliljjnaa
open Go.RowKit
theorem run_step2 {A : List Pr} {i : Nat} (hi : i < A.length) : runB (A.take (i + 1)) = wrB (runB (A.take i)) (actP A[i]) := by rw [List.take_succ_eq_append_getElem hi, runB_snoc]
theorem run_keys (acts : List Pr) : ∀ x ∈ runB acts, x.1.size ≤ 64 := by
  have : ∀ (acts L : List Pr), (∀ x ∈ L, x.1.size ≤ 64) → ∀ x ∈ acts.foldl (fun L a => wrB L (actP a)) L, x.1.size ≤ 64 := by
    intro acts
    induction acts with
    | nil => exact fun L h => h
    | cons a acts ih =>
      refine fun L h => ih _ fun x hx => ?_
      simp only [wrB] at hx
      split at hx
      · rename_i he
        rcases insB_mem hx with rfl | hx
        · unfold wrE at he
          split at he
          · cases he
          · omega
        · exact h x hx
      · exact h x hx
  exact this acts [] (by simp)
/-- What an append leaves as it was. -/
theorem app_low {w w9 w10 : World} {v v' : Value} {S : Nat} (h9 : Below S w w9) (hw : S ≤ w.heap.size) (hv : ∀ b, v.ownBlock = some b → S ≤ b) (g : w9.grownBy w10 v.ownBlock) (q : ∀ b, v'.ownBlock = some b → v.ownBlock = some b ∨ b = w9.heap.size) : Below S w w10 ∧ ∀ b, v'.ownBlock = some b → S ≤ b := by
  have h0 := h9.size
  have hc : Chg (fun b => v.ownBlock = some b) w9 w10 := Chg.of_grown g (fun k e _ => e)
  refine ⟨h9.trans (hc.below (by omega) (fun k hk e => by have := hv _ e; omega)), fun b hb => ?_⟩
  rcases q b hb with h | h
  · exact hv b h
  · omega
theorem own_noneB (w : World) (B : Nat) (hB : B ≤ w.heap.size) : OwnG PE (w.alloc (.cells #[] 38 (0, 0))) B 38 (.slice (some ⟨w.heap.size, 0, none⟩) 0 0) [] :=
  OwnG.of_blk (L := []) (Blk.new w 38 []) hB rfl rfl (by simp) (by simp [maxLen])
set_option maxHeartbeats 8000000 in
set_option maxRecDepth 100000 in
theorem bufferLays_any {w : World} {vl va : Value} {l A : List Pr} (hl : RdG PE w vl l) (ol : ∀ x ∈ l, PrOk x) (ha : RdG PE w va A) (oa : ∀ x ∈ A, PrOk x) :
    Calls Try.prog 6 #[vl, va] w fun e w' => e = .returned (.bool true) ∧ Below w.heap.size w w' := by
  have za := Zact
  have zp' := Zpair
  have CLi := light_any ha hl oa ol
  have HA := hide ha
  have HLl := hide hl
  have OA := hide oa
  have OL := hide ol
  obtain ⟨a, c, rfl⟩ := ha.slice
  obtain ⟨al, cl, rfl⟩ := hl.slice
  have hm := Nat.le_trans ha.cap ha.max
  have hml := Nat.le_trans hl.cap hl.max
  obtain ⟨n, HN⟩ : ∃ n, Hid (A.length = n) := ⟨_, rfl⟩
  obtain ⟨nl, HNl⟩ : ∃ n, Hid (l.length = n) := ⟨_, rfl⟩
  obtain ⟨N, HNw⟩ : ∃ N, Hid (w.heap.size = N) := ⟨_, rfl⟩
  rw [HN.out] at HA hm CLi ⊢
  rw [HNl.out] at HLl hml CLi ⊢
  rw [HNw.out] at CLi ⊢
  have HLI := hide CLi
  clear ha oa CLi hl ol
  go_enter Try.func6, Try.ntmps6
  go_wp2_with fail
  refine HLI.out.mono ?_
  rintro e w1 ⟨b, rfl, hb1, hb2⟩
  have L1 : Hid (Below N w w1) := (show _ from hb1)
  have CLV := hide (lives_any w1)
  clear HLI hb1
  have leave : ∀ w2, Below w1.heap.size w1 w2 → Below N w w2 := fun w2 h => L1.out.trans (h.mono (by have := L1.out.size; have := HNw.out; omega))
  have LV := hide leave
  clear leave
  cases b with
  | false =>
    go_wp2_with fail
    refine CLV.out.mono ?_
    rintro e w2 ⟨rfl, hb2⟩
    have HB := hide hb2
    clear hb2
    go_wp2_with fail
    go_ret
    exact ⟨rfl, LV.out _ HB.out⟩
  | true =>
    have hnl : nl ≤ 150 := (hb2 rfl).2
    have CR := hide (rises_any (HLl.out.kept (L1.out.mono (Nat.le_of_eq HNw.out))))
    clear hb2 CLV
    go_wp2_with fail
    refine CR.out.mono ?_
    rintro e w1' ⟨br, rfl, hb1', hrs⟩
    have L1' : Hid (Below N w w1') := (show _ from LV.out _ hb1')
    have CLV := hide (lives_any w1')
    have HRS := hide hrs
    clear hb1' CR LV L1 hrs
    have leave : ∀ w2, Below w1'.heap.size w1' w2 → Below N w w2 := fun w2 h => L1'.out.trans (h.mono (by have := L1'.out.size; have := HNw.out; omega))
    have LV := hide leave
    clear leave
    cases br with
    | false =>
      go_wp2_with fail
      refine CLV.out.mono ?_
      rintro e w2 ⟨rfl, hb2⟩
      have HB := hide hb2
      clear hb2
      go_wp2_with fail
      go_ret
      exact ⟨rfl, LV.out _ HB.out⟩
    | true =>
      have HBs : Hid (Bs l) := (show _ from HRS.out.1 rfl)
      have CN := hide (bNew_any w1')
      clear CLV HRS
      go_wp2_with fail
      refine CN.out.mono ?_
      rintro e w2 ⟨D, M, rfl, h2, hD, hM, hb2⟩
      have H2 := hide h2
      have L2 := hide (LV.out _ hb2)
      have HAP : Hid (N ≤ D ∧ N ≤ M) := (show N ≤ D ∧ N ≤ M from by
        have h0 := L1'.out.size
        have h1 := HNw.out
        omega)
      clear h2 hD hM hb2 CN
      go_wp2_with fail
      go_loopg [32] (n + 1) (fun g z wr => ∃ (i : Nat), i ≤ n ∧ g + i = n + 1 ∧ z = .int .i64 (i : Int) ∧ Hid (BAt wr D M (runB (A.take i))) ∧ Hid (Below N w wr))
      case atStart => exact ⟨0, Nat.zero_le _, by omega, rfl, H2, L2⟩
      case round =>
        obtain ⟨i, hi, hg, rfl, HB, BL⟩ := hrel
        clear H2 L2
        by_cases hlt : i < n
        · have hlt' : (i : Int) < (n : Int) := by omega
          have hlt2 : i < A.length := by rw [HN.out]; exact hlt
          have bw : Below w.heap.size w wr := BL.out.mono (Nat.le_of_eq HNw.out)
          obtain ⟨bb, off, rfl, hb1, hx⟩ := (HA.out.kept bw).nth (by omega)
          have hrow : wr.rangeAt bb (off + i * 3) (PC A[i]) := hx i hlt2
          have hok := OA.out A[i] (List.getElem_mem hlt2)
          obtain ⟨p, HP⟩ : ∃ p, Hid (A[i] = p) := ⟨A[i], (show A[i] = A[i] from rfl)⟩
          rw [HP.out] at hrow hok
          obtain ⟨w3, hw3⟩ : ∃ y, y = wr.alloc (.cells (PC p).toArray 32 (0, 0)) := ⟨_, rfl⟩
          obtain ⟨E3, HE3⟩ : ∃ E, Hid (wr.heap.size = E) := ⟨_, rfl⟩
          have B3 : Blk w3 E3 32 (PC p) := by rw [hw3, ← HE3.out]; exact Blk.new wr 32 (PC p)
          have hb3 : Below wr.heap.size wr w3 := by rw [hw3]; exact (Below.refl _ _).alloc (Nat.le_refl _) _
          have L3 : Hid (Below N w w3) := (show _ from BL.out.trans (hb3.mono (by have := BL.out.size; have := HNw.out; omega)))
          have CD := hide (do_any (HB.out.kept hb3) p (by have := hok.1; unfold maxLen; omega))
          have hrow4 := B3.range0
          have HW3 := hide hw3
          clear hx hb3 hw3 bw B3 hok HB
          go_wp2_with (first
            | (refine wpList_load_mid rfl 32 _ rfl bb (off + i * 3) rfl (PC p) _ hrow Try.underlying32 rfl Try.size32 ?_)
            | (refine wpList_store_new rfl 32 _ _ rfl wr _ (PC p).toArray _ rfl rfl rfl Try.size32 rfl (all_one (PC_one p)) ?_; rw [← HW3.out, HE3.out])
            | (refine wpList_load_mid rfl 32 _ rfl E3 0 rfl (PC p) _ hrow4 Try.underlying32 rfl Try.size32 ?_)
            | fail)
          refine CD.out.mono ?_
          rintro e w5 ⟨rfl, h5, hc5⟩
          have HB5 : Hid (BAt w5 D M (runB (A.take (i + 1)))) := (show BAt _ _ _ _ by rw [run_step2 hlt2, HP.out]; exact h5)
          have L5 : Hid (Below N w w5) := (show _ from L3.out.trans (hc5.below (by have := L3.out.size; have := HNw.out; omega) (fun k hk e => by have := HAP.out; omega)))
          clear h5 hc5 CD
          go_wp2_with fail
          go_roundg (n - i)
          case measure => omega
          case rel => exact ⟨i + 1, by omega, by omega, by go_num, HB5, L5⟩
        · obtain rfl : i = n := by omega
          have hlt' : ¬ (i : Int) < (i : Int) := by omega
          have HWK := hide (run_keys (A.take i))
          obtain ⟨W, HW⟩ : ∃ W, Hid (runB (A.take i) = W) := ⟨_, rfl⟩
          rw [HW.out] at HB HWK
          have HWs := hide HB.out.srt
          obtain ⟨nw, HNW⟩ : ∃ k, Hid (W.length = k) := ⟨_, rfl⟩
          have hnw : nw ≤ 64 := by rw [← HNW.out]; exact HB.out.len
          have CW := hide (writes_any HB.out)
          go_wp2_with fail
          refine CW.out.mono ?_
          rintro e w4 ⟨v4, rfl, o4, hb4⟩
          have HB4 := hide (HB.out.kept hb4)
          have L4 : Hid (Below N w w4) := (show _ from BL.out.trans (hb4.mono (by have := BL.out.size; have := HNw.out; omega)))
          have HO4 := hide o4.rd
          obtain ⟨a4, c4, hv4⟩ := o4.form
          rw [HNW.out] at hv4
          subst hv4
          have CO := hide (overlay_any (HLl.out.kept (L4.out.mono (Nat.le_of_eq HNw.out))) HO4.out (by rw [HNl.out, HNW.out]; omega))
          clear o4 hb4 CW HB BL
          go_wp2_with fail
          refine CO.out.mono ?_
          rintro e w5 ⟨v5, rfl, o5, hb5⟩
          have HOs := hide (ovl_srt HBs.out HWs.out)
          have HOl := hide (ovl_len l W)
          obtain ⟨O, HOO⟩ : ∃ O, Hid (ovl l W = O) := ⟨_, rfl⟩
          rw [HOO.out] at o5 HOs HOl
          obtain ⟨m, HMO⟩ : ∃ k, Hid (O.length = k) := ⟨_, rfl⟩
          have hmo : m ≤ nl + nw := by rw [← HMO.out, ← HNl.out, ← HNW.out]; exact HOl.out
          have HB5 := hide (HB4.out.kept hb5)
          have HO5 := hide (HO4.out.kept hb5)
          have L5 : Hid (Below N w w5) := (show _ from L4.out.trans (hb5.mono (by have := L4.out.size; have := HNw.out; omega)))
          have HV5 := hide o5.rd
          obtain ⟨a5, c5, hv5⟩ := o5.form
          rw [HMO.out] at hv5
          subst hv5
          have CR1 := hide (rises_any HV5.out)
          clear o5 hb5 CO HB4 HO4 L4
          go_wp2_with fail
          refine CR1.out.mono ?_
          rintro e w6 ⟨b6, rfl, hb6, hr6⟩
          obtain rfl : b6 = true := hr6.2 HOs.out
          have HB6 := hide (HB5.out.kept hb6)
          have HO6 := hide (HO5.out.kept hb6)
          have HV6 := hide (HV5.out.kept hb6)
          have L6 : Hid (Below N w w6) := (show _ from L5.out.trans (hb6.mono (by have := L5.out.size; have := HNw.out; omega)))
          have CR2 := hide (rises_any HO6.out)
          clear hb6 hr6 CR1 HB5 HO5 HV5 L5
          go_wp2_with fail
          refine CR2.out.mono ?_
          rintro e w8 ⟨b6, rfl, hb8, hr8⟩
          obtain rfl : b6 = true := hr8.2 HWs.out
          obtain ⟨S8, HS8⟩ : ∃ z, Hid (w8.heap.size = z) := ⟨_, rfl⟩
          have L8 : Hid (Below N w w8) := (show _ from L6.out.trans (hb8.mono (by have := L6.out.size; have := HNw.out; omega)))
          have HB8 := hide (HB6.out.kept hb8)
          have HO8 := hide (HO6.out.kept hb8)
          have HV8 := hide (HV6.out.kept hb8)
          have HR8 := hide (HLl.out.kept (L8.out.mono (Nat.le_of_eq HNw.out)))
          have hb9 : Below S8 w8 (w8.alloc (.cells #[] 38 (0, 0))) := (Below.refl _ _).alloc (Nat.le_of_eq HS8.out.symm) _
          have O9 := hide (own_noneB w8 S8 (Nat.le_of_eq HS8.out.symm))
          rw [HS8.out] at O9
          have RL9 := hide (HR8.out.kept (hb9.mono (Nat.le_of_eq HS8.out)))
          obtain ⟨w9, hw9⟩ : ∃ y, y = w8.alloc (.cells #[] 38 (0, 0)) := ⟨_, rfl⟩
          rw [← hw9] at O9 RL9 hb9
          have HB9 := hide hb9
          have HW9 := hide hw9
          have HL1 : Hid (([] : List Pr).length + l.length ≤ 10000000) := (show _ ≤ _ by rw [HNl.out]; simp; omega)
          have HL2 : Hid (S8 ≤ w9.heap.size) := (show _ ≤ _ by rw [← HS8.out]; exact hb9.size)
          have HL3 : Hid (l.length + W.length ≤ 10000000) := (show _ ≤ _ by rw [HNl.out, HNW.out]; omega)
          have HS8' : Hid (S8 ≤ w8.heap.size) := (show _ ≤ _ by rw [HS8.out]; exact Nat.le_refl _)
          clear hb8 hr8 CR2 HB6 HO6 HV6 L6 hb9 hw9
          go_wp2_with (first
            | (rw [HS8.out]; change wpList _ _ _ _ _ (w8.alloc (.cells #[] 38 (0, 0))); rw [← HW9.out]; refine wpList_append_E Try.underlying28 infoP9 (by decide) rfl (.tmp 53) (.tmp 54) rfl S8 (.slice (some ⟨S8, 0, none⟩) 0 0) [] rfl O9.out (.slice al nl cl) l rfl RL9.out HL1.out HL2.out ?_; intro v10 w10 o10 g10 q10; have Q10 := hide (app_low HB9.out HS8'.out (fun b hb => by cases hb; exact Nat.le_refl _) g10 q10); rw [List.nil_append] at o10; have O10 := hide o10; clear o10 g10 q10; obtain ⟨p10, c10, hv10⟩ := O10.out.form; rw [HNl.out] at hv10; subst hv10; have RW10 := hide (HO8.out.kept (Q10.out.1.mono (Nat.le_of_eq HS8.out))); have HL4 : Hid (S8 ≤ w10.heap.size) := (show _ ≤ _ from Nat.le_trans HS8'.out Q10.out.1.size))
            | (refine wpList_append_E Try.underlying28 infoP9 (by decide) rfl (.tmp 55) (.tmp 56) rfl S8 (.slice p10 nl c10) l rfl O10.out (.slice a4 nw c4) W rfl RW10.out HL3.out HL4.out ?_; intro v11 w11 o11 g11 q11; have Q11 := hide (app_low Q10.out.1 HS8'.out Q10.out.2 g11 q11); have O11 := hide o11; clear o11 g11 q11; obtain ⟨p11, c11, hv11⟩ := O11.out.form; obtain ⟨K, HK⟩ : ∃ k, Hid ((l ++ W).length = k) := ⟨_, rfl⟩; rw [HK.out] at hv11; subst hv11)
            | fail)
          have hK : K = nl + nw := by rw [← HK.out, List.length_append, HNl.out, HNW.out]
          have HKK := hide hK
          have hKm : K ≤ 1000 := by omega
          have L11 : Hid (Below N w w11) := (show _ from L8.out.trans (Q11.out.1.mono (by have := L8.out.size; have := HNw.out; have := HS8.out; omega)))
          have b11 : Below w8.heap.size w8 w11 := Q11.out.1.mono (Nat.le_of_eq HS8.out)
          have HBd := hide (HB8.out.kept b11)
          have HO := hide (HV8.out.kept b11)
          have HX := hide O11.out.rd
          obtain ⟨w0, hw0⟩ : ∃ y, y = w11 := ⟨_, rfl⟩
          rw [← hw0] at HBd HO HX L11
          obtain ⟨S0, HSS⟩ : ∃ z, Hid (w0.heap.size = z) := ⟨_, rfl⟩
          have B0 : Hid (Below S0 w0 w11) := (show _ by rw [← hw0]; exact Below.refl _ _)
          clear O9 RL9 HB9 HW9 HL1 HL2 HL3 HS8' Q10 O10 RW10 HL4 Q11 O11 b11 HB8 HO8 HV8 HR8 L8 hK hw0
          go_loopg [59] (K + 1) (fun g z wr => ∃ (i : Nat), i ≤ K ∧ g + i = K + 1 ∧ z = .int .i64 (i : Int) ∧ Hid (Below S0 w0 wr))
          case atStart => exact ⟨0, Nat.zero_le _, by omega, rfl, B0⟩
          case round =>
            have hiO := hi
            clear hg hlt hlt' B0
            obtain ⟨i, hi, hg, rfl, BL⟩ := hrel
            by_cases hlt : i < K
            · have hlt' : (i : Int) < (K : Int) := by omega
              have hlt2 : i < (l ++ W).length := by rw [HK.out]; exact hlt
              obtain ⟨bb, off, hbb, hb1, hx⟩ := (HX.out.kept (BL.out.mono (Nat.le_of_eq HSS.out))).nth (by omega)
              subst hbb
              have hrow : wr.rangeAt bb (off + i * 3) (PC (l ++ W)[i]) := hx i hlt2
              have hmem := List.getElem_mem hlt2
              obtain ⟨p, HP⟩ : ∃ p, Hid ((l ++ W)[i] = p) := ⟨(l ++ W)[i], (show (l ++ W)[i] = (l ++ W)[i] from rfl)⟩
              rw [HP.out] at hrow hmem
              have hpk : p.1.size ≤ maxLen := by
                rcases List.mem_append.1 hmem with h | h
                · have := (OL.out p h).1; unfold maxLen; omega
                · have := HWK.out p h; unfold maxLen; omega
              have HFD0 := hide (fun (g : Pr) (hg : (getB W p.1).getD p = g) => fnd_ovl HBs.out HWs.out hmem hg)
              rw [HOO.out] at HFD0
              obtain ⟨w10, hw10⟩ : ∃ y, y = wr.alloc (.cells (PC p).toArray 38 (0, 0)) := ⟨_, rfl⟩
              obtain ⟨E11, HE11⟩ : ∃ E, Hid (wr.heap.size = E) := ⟨_, rfl⟩
              have B10 : Blk w10 E11 38 (PC p) := by rw [hw10, ← HE11.out]; exact Blk.new wr 38 (PC p)
              have hb10 : Below wr.heap.size wr w10 := by rw [hw10]; exact (Below.refl _ _).alloc (Nat.le_refl _) _
              have L10 : Hid (Below S0 w0 w10) := (show _ from BL.out.trans (hb10.mono (by have := BL.out.size; have := HSS.out; omega)))
              have k1 := cell_regrown B10.val
              have k2 := cell_regrown B10.dead
              have HB10 := hide B10
              have HW10 := hide hw10
              have HPK := hide hpk
              clear hx hb1 hmem hpk hw10 hb10 B10
              go_upto_region 16 with (first
                | (refine wpList_load_mid rfl 38 _ rfl bb (off + i * 3) rfl (PC p) _ hrow Try.underlying38 rfl Try.size38 ?_)
                | (refine wpList_store_new rfl 38 _ _ rfl wr _ (PC p).toArray _ rfl rfl rfl Try.size38 rfl (all_one (PC_one p)) ?_; rw [← HW10.out, HE11.out])
                | fail)
              try simp only [Act.put]
              refine wp_region_quiet_below Try.mixed (by kernel_rfl) ?_
              iterate 6 (go_big_quiet_step (fail))
              refine wpQuiet_nil ?_
              intro w12 hq
              have hbq : Below w10.heap.size w10 w12 := by obtain ⟨⟨dq, osq⟩, rfl⟩ := hq; exact below_regrown w10 dq osq
              have L12 : Hid (Below S0 w0 w12) := (show _ from L10.out.trans (hbq.mono (by have := L10.out.size; have := HSS.out; omega)))
              have K12 := hide (HB10.out.kept hbq)
              clear hq hbq
              have CG := bGet_any (HBd.out.kept (L12.out.mono (Nat.le_of_eq HSS.out))) p.1 HPK.out
              have c0 := K12.out.key
              cases hgb : getB W p.1 with
              | none =>
                rw [hgb] at CG
                have HFD : Hid (fnd O p.1 p.2.1 = !p.2.2) := (show _ = _ from HFD0.out p (by rw [hgb]; rfl))
                have HCG := hide CG
                clear CG HFD0 k1 k2 HB10 L10 hrow HW10
                go_wp2_with fail
                refine HCG.out.mono ?_
                rintro e w13 ⟨rfl, hb13⟩
                obtain ⟨w14, hw14⟩ : ∃ y, y = w13.alloc (.cells (PC zp).toArray 38 (0, 0)) := ⟨_, rfl⟩
                obtain ⟨E14, HE14⟩ : ∃ E, Hid (w13.heap.size = E) := ⟨_, rfl⟩
                have hb14 : Below w13.heap.size w13 w14 := by rw [hw14]; exact (Below.refl _ _).alloc (Nat.le_refl _) _
                have hbb14 : Below w12.heap.size w12 w14 := hb13.trans (hb14.mono hb13.size)
                have L14 : Hid (Below S0 w0 w14) := (show _ from L12.out.trans (hbb14.mono (by have := L12.out.size; have := HSS.out; omega)))
                have K14 := hide (K12.out.kept hbb14)
                have HW14 := hide hw14
                clear hb13 hb14 hbb14 hw14 HCG L12 K12 c0
                go_upto_region 20 with (first
                  | (refine wpList_store_new rfl 38 _ _ rfl w13 _ (PC zp).toArray _ rfl rfl rfl Try.size38 rfl (all_one (PC_one zp)) ?_; rw [← HW14.out, HE14.out])
                  | fail)
                obtain ⟨S9, HS9⟩ : ∃ z, Hid (w14.heap.size = z) := ⟨_, rfl⟩
                have BL9 : Hid (Below S9 w14 w14) := (show _ from Below.refl _ _)
                go_wp2_with fail
                go_loopg [16, 81] (m + 1) (fun g x z wr => ∃ (j : Nat) (fb : Bool), j ≤ m ∧ g + j = m + 1 ∧ x = .bool fb ∧ z = .int .i64 (j : Int) ∧ Hid (fb = fnd (O.take j) p.1 p.2.1) ∧ Hid (Below S9 w14 wr))
                case atStart => exact ⟨0, false, Nat.zero_le _, by omega, rfl, rfl, rfl, BL9⟩
                case round =>
                  obtain ⟨j, fb, hj, hgj, rfl, rfl, HFB, BJ⟩ := hrel
                  clear BL9
                  have LJ : Hid (Below S0 w0 wr) := (show _ from L14.out.trans (BJ.out.mono (by have := L14.out.size; have := HSS.out; have := HS9.out; omega)))
                  by_cases hjl : j < m
                  · have hjl' : (j : Int) < (m : Int) := by omega
                    have hjl2 : j < O.length := by rw [HMO.out]; exact hjl
                    obtain ⟨bo, offo, ho, hbo, hxo⟩ := (HO.out.kept (LJ.out.mono (Nat.le_of_eq HSS.out))).nth (by omega)
                    subst ho
                    have hrow : wr.rangeAt bo (offo + j * 3) (PC O[j]) := hxo j hjl2
                    have hst := fnd_step hjl2 p.1 p.2.1
                    obtain ⟨q, HQ⟩ : ∃ q, Hid (O[j] = q) := ⟨O[j], (show O[j] = O[j] from rfl)⟩
                    rw [HQ.out] at hrow hst
                    rw [← HFB.out] at hst
                    obtain ⟨w13, hw13⟩ : ∃ y, y = wr.alloc (.cells (PC q).toArray 38 (0, 0)) := ⟨_, rfl⟩
                    obtain ⟨E18, HE18⟩ : ∃ E, Hid (wr.heap.size = E) := ⟨_, rfl⟩
                    have B13 : Blk w13 E18 38 (PC q) := by rw [hw13, ← HE18.out]; exact Blk.new wr 38 (PC q)
                    have hb13 : Below wr.heap.size wr w13 := by rw [hw13]; exact (Below.refl _ _).alloc (Nat.le_refl _) _
                    have J13 : Hid (Below S9 w14 w13) := (show _ from BJ.out.trans (hb13.mono (by have := BJ.out.size; have := HS9.out; omega)))
                    have c1 := B13.key
                    have c2 := B13.val
                    have c3 := B13.dead
                    have c4 := ((K14.out.kept (BJ.out.mono (Nat.le_of_eq HS9.out))).kept hb13).key
                    have HW13 := hide hw13
                    clear hxo hbo B13 hb13 hw13
                    cases fb with
                    | true =>
                      have HN1 : Hid (true = fnd (O.take (j + 1)) p.1 p.2.1) := (show _ = _ by rw [hst]; rfl)
                      clear hst
                      go_upto_region 24 with (first
                        | (refine wpList_load_mid rfl 38 _ rfl bo (offo + j * 3) rfl (PC q) _ hrow Try.underlying38 rfl Try.size38 ?_)
                        | (refine wpList_store_new rfl 38 _ _ rfl wr _ (PC q).toArray _ rfl rfl rfl Try.size38 rfl (all_one (PC_one q)) ?_; rw [← HW13.out, HE18.out])
                        | fail)
                      try simp only [Act.put]
                      go_wp2_with fail
                      go_roundg (m - j)
                      case measure => omega
                      case rel => exact ⟨j + 1, true, by omega, by omega, rfl, by go_num, HN1, J13⟩
                    | false =>
                      by_cases e1 : q.1 = p.1
                      · have q1 : (q.1.toList == p.1.toList) = true := by rw [e1]; simp
                        by_cases e2 : q.2.1 = p.2.1
                        · have q2 : (q.2.1.toList == (p.2.1).toList) = true := by rw [e2]; simp
                          have HN1 : Hid ((!q.2.2) = fnd (O.take (j + 1)) p.1 p.2.1) := (show _ = _ by rw [hst, decide_eq_true e1, decide_eq_true e2]; simp)
                          clear hst
                          go_upto_region 24 with (first
                            | (refine wpList_load_mid rfl 38 _ rfl bo (offo + j * 3) rfl (PC q) _ hrow Try.underlying38 rfl Try.size38 ?_)
                            | (refine wpList_store_new rfl 38 _ _ rfl wr _ (PC q).toArray _ rfl rfl rfl Try.size38 rfl (all_one (PC_one q)) ?_; rw [← HW13.out, HE18.out])
                            | fail)
                          try simp only [Act.put]
                          go_wp2_with fail
                          go_roundg (m - j)
                          case measure => omega
                          case rel => exact ⟨j + 1, !q.2.2, by omega, by omega, rfl, by go_num, HN1, J13⟩
                        · have q2 : (q.2.1.toList == (p.2.1).toList) = false := by rw [beq_eq_false_iff_ne]; exact fun e => e2 (ba_inj.1 e)
                          have HN1 : Hid (false = fnd (O.take (j + 1)) p.1 p.2.1) := (show _ = _ by rw [hst, decide_eq_false e2]; simp)
                          clear hst
                          go_upto_region 24 with (first
                            | (refine wpList_load_mid rfl 38 _ rfl bo (offo + j * 3) rfl (PC q) _ hrow Try.underlying38 rfl Try.size38 ?_)
                            | (refine wpList_store_new rfl 38 _ _ rfl wr _ (PC q).toArray _ rfl rfl rfl Try.size38 rfl (all_one (PC_one q)) ?_; rw [← HW13.out, HE18.out])
                            | fail)
                          try simp only [Act.put]
                          go_wp2_with fail
                          go_roundg (m - j)
                          case measure => omega
                          case rel => exact ⟨j + 1, false, by omega, by omega, rfl, by go_num, HN1, J13⟩
                      · have q1 : (q.1.toList == p.1.toList) = false := by rw [beq_eq_false_iff_ne]; exact fun e => e1 (ba_inj.1 e)
                        have HN1 : Hid (false = fnd (O.take (j + 1)) p.1 p.2.1) := (show _ = _ by rw [hst, decide_eq_false e1]; simp)
                        clear hst
                        go_upto_region 24 with (first
                          | (refine wpList_load_mid rfl 38 _ rfl bo (offo + j * 3) rfl (PC q) _ hrow Try.underlying38 rfl Try.size38 ?_)
                          | (refine wpList_store_new rfl 38 _ _ rfl wr _ (PC q).toArray _ rfl rfl rfl Try.size38 rfl (all_one (PC_one q)) ?_; rw [← HW13.out, HE18.out])
                          | fail)
                        try simp only [Act.put]
                        go_wp2_with fail
                        go_roundg (m - j)
                        case measure => omega
                        case rel => exact ⟨j + 1, false, by omega, by omega, rfl, by go_num, HN1, J13⟩
                  · obtain rfl : j = m := by omega
                    have hjl' : ¬ (j : Int) < (j : Int) := by omega
                    have hfin : fb = !p.2.2 := by rw [HFB.out, List.take_of_length_le (Nat.le_of_eq HMO.out)]; exact HFD.out
                    have q9 : (fb == p.2.2) = false := by rw [hfin]; cases p.2.2 <;> rfl
                    have LJ2 := LJ
                    clear hfin
                    go_wp2_with fail
                    go_roundg (K - i)
                    case measure => omega
                    case rel => exact ⟨i + 1, by omega, by omega, by go_num, LJ2⟩
              | some q0 =>
                rw [hgb] at CG
                have HFD : Hid (fnd O p.1 q0.2.1 = !q0.2.2) := (show _ = _ from HFD0.out q0 (by rw [hgb]; rfl))
                have HCG := hide CG
                clear CG HFD0 k1 k2 HB10 L10 hrow HW10
                go_wp2_with fail
                refine HCG.out.mono ?_
                rintro e w13 ⟨rfl, hb13⟩
                obtain ⟨w14, hw14⟩ : ∃ y, y = w13.alloc (.cells (PC q0).toArray 38 (0, 0)) := ⟨_, rfl⟩
                obtain ⟨E14, HE14⟩ : ∃ E, Hid (w13.heap.size = E) := ⟨_, rfl⟩
                have B14 : Blk w14 E14 38 (PC q0) := by rw [hw14, ← HE14.out]; exact Blk.new w13 38 (PC q0)
                have hb14 : Below w13.heap.size w13 w14 := by rw [hw14]; exact (Below.refl _ _).alloc (Nat.le_refl _) _
                have hbb14 : Below w12.heap.size w12 w14 := hb13.trans (hb14.mono hb13.size)
                have L14 : Hid (Below S0 w0 w14) := (show _ from L12.out.trans (hbb14.mono (by have := L12.out.size; have := HSS.out; omega)))
                have K14 := hide (K12.out.kept hbb14)
                have k1 := cell_regrown B14.val
                have k2 := cell_regrown B14.dead
                have HW14 := hide hw14
                clear hb13 hb14 hbb14 hw14 HCG L12 K12 c0 B14
                go_upto_region 19 with (first
                  | (refine wpList_store_new rfl 38 _ _ rfl w13 _ (PC q0).toArray _ rfl rfl rfl Try.size38 rfl (all_one (PC_one q0)) ?_; rw [← HW14.out, HE14.out])
                  | fail)
                try simp only [Act.put]
                refine wp_region_quiet_below Try.mixed (by kernel_rfl) ?_
                iterate 6 (go_big_quiet_step (fail))
                refine wpQuiet_nil ?_
                intro w15 hq
                have hbq : Below w14.heap.size w14 w15 := by obtain ⟨⟨dq, osq⟩, rfl⟩ := hq; exact below_regrown w14 dq osq
                have L15 : Hid (Below S0 w0 w15) := (show _ from L14.out.trans (hbq.mono (by have := L14.out.size; have := HSS.out; omega)))
                have K15 := hide (K14.out.kept hbq)
                clear hq hbq
                clear k1 k2
                obtain ⟨S9, HS9⟩ : ∃ z, Hid (w15.heap.size = z) := ⟨_, rfl⟩
                have BL9 : Hid (Below S9 w15 w15) := (show _ from Below.refl _ _)
                go_wp2_with fail
                go_loopg [16, 81] (m + 1) (fun g x z wr => ∃ (j : Nat) (fb : Bool), j ≤ m ∧ g + j = m + 1 ∧ x = .bool fb ∧ z = .int .i64 (j : Int) ∧ Hid (fb = fnd (O.take j) p.1 q0.2.1) ∧ Hid (Below S9 w15 wr))
                case atStart => exact ⟨0, false, Nat.zero_le _, by omega, rfl, rfl, rfl, BL9⟩
                case round =>
                  obtain ⟨j, fb, hj, hgj, rfl, rfl, HFB, BJ⟩ := hrel
                  clear BL9
                  have LJ : Hid (Below S0 w0 wr) := (show _ from L15.out.trans (BJ.out.mono (by have := L15.out.size; have := HSS.out; have := HS9.out; omega)))
                  by_cases hjl : j < m
                  · have hjl' : (j : Int) < (m : Int) := by omega
                    have hjl2 : j < O.length := by rw [HMO.out]; exact hjl
                    obtain ⟨bo, offo, ho, hbo, hxo⟩ := (HO.out.kept (LJ.out.mono (Nat.le_of_eq HSS.out))).nth (by omega)
                    subst ho
                    have hrow : wr.rangeAt bo (offo + j * 3) (PC O[j]) := hxo j hjl2
                    have hst := fnd_step hjl2 p.1 q0.2.1
                    obtain ⟨q, HQ⟩ : ∃ q, Hid (O[j] = q) := ⟨O[j], (show O[j] = O[j] from rfl)⟩
                    rw [HQ.out] at hrow hst
                    rw [← HFB.out] at hst
                    obtain ⟨w13, hw13⟩ : ∃ y, y = wr.alloc (.cells (PC q).toArray 38 (0, 0)) := ⟨_, rfl⟩
                    obtain ⟨E18, HE18⟩ : ∃ E, Hid (wr.heap.size = E) := ⟨_, rfl⟩
                    have B13 : Blk w13 E18 38 (PC q) := by rw [hw13, ← HE18.out]; exact Blk.new wr 38 (PC q)
                    have hb13 : Below wr.heap.size wr w13 := by rw [hw13]; exact (Below.refl _ _).alloc (Nat.le_refl _) _
                    have J13 : Hid (Below S9 w15 w13) := (show _ from BJ.out.trans (hb13.mono (by have := BJ.out.size; have := HS9.out; omega)))
                    have c1 := B13.key
                    have c2 := B13.val
                    have c3 := B13.dead
                    have c4 := ((K15.out.kept (BJ.out.mono (Nat.le_of_eq HS9.out))).kept hb13).key
                    have HW13 := hide hw13
                    clear hxo hbo B13 hb13 hw13
                    cases fb with
                    | true =>
                      have HN1 : Hid (true = fnd (O.take (j + 1)) p.1 q0.2.1) := (show _ = _ by rw [hst]; rfl)
                      clear hst
                      go_upto_region 24 with (first
                        | (refine wpList_load_mid rfl 38 _ rfl bo (offo + j * 3) rfl (PC q) _ hrow Try.underlying38 rfl Try.size38 ?_)
                        | (refine wpList_store_new rfl 38 _ _ rfl wr _ (PC q).toArray _ rfl rfl rfl Try.size38 rfl (all_one (PC_one q)) ?_; rw [← HW13.out, HE18.out])
                        | fail)
                      try simp only [Act.put]
                      go_wp2_with fail
                      go_roundg (m - j)
                      case measure => omega
                      case rel => exact ⟨j + 1, true, by omega, by omega, rfl, by go_num, HN1, J13⟩
                    | false =>
                      by_cases e1 : q.1 = p.1
                      · have q1 : (q.1.toList == p.1.toList) = true := by rw [e1]; simp
                        by_cases e2 : q.2.1 = q0.2.1
                        · have q2 : (q.2.1.toList == (q0.2.1).toList) = true := by rw [e2]; simp
                          have HN1 : Hid ((!q.2.2) = fnd (O.take (j + 1)) p.1 q0.2.1) := (show _ = _ by rw [hst, decide_eq_true e1, decide_eq_true e2]; simp)
                          clear hst
                          go_upto_region 24 with (first
                            | (refine wpList_load_mid rfl 38 _ rfl bo (offo + j * 3) rfl (PC q) _ hrow Try.underlying38 rfl Try.size38 ?_)
                            | (refine wpList_store_new rfl 38 _ _ rfl wr _ (PC q).toArray _ rfl rfl rfl Try.size38 rfl (all_one (PC_one q)) ?_; rw [← HW13.out, HE18.out])
                            | fail)
                          try simp only [Act.put]
                          go_wp2_with fail
                          go_roundg (m - j)
                          case measure => omega
                          case rel => exact ⟨j + 1, !q.2.2, by omega, by omega, rfl, by go_num, HN1, J13⟩
                        · have q2 : (q.2.1.toList == (q0.2.1).toList) = false := by rw [beq_eq_false_iff_ne]; exact fun e => e2 (ba_inj.1 e)
                          have HN1 : Hid (false = fnd (O.take (j + 1)) p.1 q0.2.1) := (show _ = _ by rw [hst, decide_eq_false e2]; simp)
                          clear hst
                          go_upto_region 24 with (first
                            | (refine wpList_load_mid rfl 38 _ rfl bo (offo + j * 3) rfl (PC q) _ hrow Try.underlying38 rfl Try.size38 ?_)
                            | (refine wpList_store_new rfl 38 _ _ rfl wr _ (PC q).toArray _ rfl rfl rfl Try.size38 rfl (all_one (PC_one q)) ?_; rw [← HW13.out, HE18.out])
                            | fail)
                          try simp only [Act.put]
                          go_wp2_with fail
                          go_roundg (m - j)
                          case measure => omega
                          case rel => exact ⟨j + 1, false, by omega, by omega, rfl, by go_num, HN1, J13⟩
                      · have q1 : (q.1.toList == p.1.toList) = false := by rw [beq_eq_false_iff_ne]; exact fun e => e1 (ba_inj.1 e)
                        have HN1 : Hid (false = fnd (O.take (j + 1)) p.1 q0.2.1) := (show _ = _ by rw [hst, decide_eq_false e1]; simp)
                        clear hst
                        go_upto_region 24 with (first
                          | (refine wpList_load_mid rfl 38 _ rfl bo (offo + j * 3) rfl (PC q) _ hrow Try.underlying38 rfl Try.size38 ?_)
                          | (refine wpList_store_new rfl 38 _ _ rfl wr _ (PC q).toArray _ rfl rfl rfl Try.size38 rfl (all_one (PC_one q)) ?_; rw [← HW13.out, HE18.out])
                          | fail)
                        try simp only [Act.put]
                        go_wp2_with fail
                        go_roundg (m - j)
                        case measure => omega
                        case rel => exact ⟨j + 1, false, by omega, by omega, rfl, by go_num, HN1, J13⟩
                  · obtain rfl : j = m := by omega
                    have hjl' : ¬ (j : Int) < (j : Int) := by omega
                    have hfin : fb = !q0.2.2 := by rw [HFB.out, List.take_of_length_le (Nat.le_of_eq HMO.out)]; exact HFD.out
                    have q9 : (fb == q0.2.2) = false := by rw [hfin]; cases q0.2.2 <;> rfl
                    have LJ2 := LJ
                    clear hfin
                    go_wp2_with fail
                    go_roundg (K - i)
                    case measure => omega
                    case rel => exact ⟨i + 1, by omega, by omega, by go_num, LJ2⟩
            · obtain rfl : i = K := by omega
              have hlt' : ¬ (i : Int) < (i : Int) := by omega
              have hle : decide ((m : Int) ≤ (nl : Int) + (nw : Int)) = true := by simp; omega
              have L9 : Hid (Below N w wr) := (show _ from L11.out.trans (BL.out.mono (by have := L11.out.size; have := HNw.out; have := HSS.out; omega)))
              have CE := hide (lives_any wr)
              go_wp2_with fail
              refine CE.out.mono ?_
              rintro e w6 ⟨rfl, hb6⟩
              have L6 : Hid (Below N w w6) := (show _ from L9.out.trans (hb6.mono (by have := L9.out.size; have := HNw.out; omega)))
              clear hb6
              go_wp2_with fail
              go_ret
              exact ⟨rfl, L6.out⟩
#print axioms bufferLays_any
end Go.Proofs.Ytfjlkncliljjnaa
