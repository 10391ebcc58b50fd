/-
  indenturelaw15.SessionReads: what the call does.
-/
import Derived.Test.YtcicekggeampcaaSeQ
namespace Go.Proofs.Ytcicekggeampcaa
open Go.RowKit
set_option maxHeartbeats 8000000 in
set_option maxRecDepth 100000 in
theorem reads_any {w : World} {v1 v2 : Value} {A C : List Ac} (h1 : RdG AE w v1 A) (ok1 : ∀ a ∈ A, AcOk w a) (h2 : RdG AE w v2 C) (ok2 : ∀ a ∈ C, AcOk w a) : Calls Try.prog 6 #[v1, v2] w fun e w' => e = .returned (.bool true) ∧ Below w.heap.size w w' := by
  have HA := hide h1
  have HC := hide h2
  have HOKA := hide ok1
  have HOKC := hide ok2
  obtain ⟨aa, ac, rfl⟩ := h1.slice
  obtain ⟨ca, cc, rfl⟩ := h2.slice
  have hna := Nat.le_trans h1.cap h1.max
  have hnc := Nat.le_trans h2.cap h2.max
  obtain ⟨na, HNA⟩ : ∃ n, Hid (A.length = n) := ⟨_, rfl⟩
  obtain ⟨nc, HNC⟩ : ∃ n, Hid (C.length = n) := ⟨_, rfl⟩
  rw [HNA.out] at HA hna ⊢
  rw [HNC.out] at HC hnc ⊢
  have hz := Zact15
  have hzr := zeroR
  have hzx := zeroX
  have CN := hide (ls_new (w := w))
  clear h1 h2 ok1 ok2
  go_enter Try.func6, Try.ntmps6
  go_wp2_with fail
  refine CN.out.mono ?_
  rintro e w1 ⟨D, rfl, hl⟩
  have HL := hide hl
  have CX := hide (zNew_any w1 2 (by decide) (by decide))
  clear CN hl
  go_wp2_with fail
  refine CX.out.mono ?_
  rintro e w2 ⟨X, rfl, -, hs, hb⟩
  have D2 := hide (Duo.new HL.out hs hb)
  have C1 := hide (light_any (HA.out.kept D2.out.ls.lo) (fun a ha => (HOKA.out a ha).kept D2.out.ls.lo))
  clear CX HL hs hb
  go_wp2_with fail
  refine C1.out.mono ?_
  rintro e w3 ⟨g1, rfl, hg1, hb⟩
  have D3 := hide (D2.out.kept hb)
  have HG1 : Hid (g1 = true → Light A) := hg1
  clear hb hg1 C1 D2
  cases g1 with
  | false =>
    have CV := hide (lives_any w3)
    go_wp2_with fail
    refine CV.out.mono ?_
    rintro e w4 ⟨rfl, hb4⟩
    have L4 : Hid (Below w.heap.size w w4) := (show Below _ _ _ from D3.out.ls.lo.trans (hb4.mono D3.out.ls.lo.size))
    clear hb4
    go_wp2_with fail
    go_ret
    exact ⟨rfl, L4.out⟩
  | true =>
    have HLGA := hide (HG1.out rfl)
    have C2 := hide (light_any (HC.out.kept D3.out.ls.lo) (fun a ha => (HOKC.out a ha).kept D3.out.ls.lo))
    go_wp2_with fail
    refine C2.out.mono ?_
    rintro e w4 ⟨g2, rfl, hg2, hb⟩
    have D4 := hide (D3.out.kept hb)
    have HG2 : Hid (g2 = true → Light C) := hg2
    clear hb hg2 C2 D3
    cases g2 with
    | false =>
      have CV := hide (lives_any w4)
      go_wp2_with fail
      refine CV.out.mono ?_
      rintro e w5 ⟨rfl, hb4⟩
      have L4 : Hid (Below w.heap.size w w5) := (show Below _ _ _ from D4.out.ls.lo.trans (hb4.mono D4.out.ls.lo.size))
      clear hb4
      go_wp2_with fail
      go_ret
      exact ⟨rfl, L4.out⟩
    | true =>
      have HLGC := hide (HG2.out rfl)
      have hna60 : na ≤ 60 := by rw [← HNA.out]; exact HLGA.out.1
      have hnc60 : nc ≤ 60 := by rw [← HNC.out]; exact HLGC.out.1
      go_wp2_with fail
      go_loopg [42] (na + 1) (fun g z wr => ∃ (i : Nat) (s : SP), i ≤ na ∧ g + i = na + 1 ∧ z = .int .i64 (i : Int) ∧ Hid (Duo w wr D i s X 2 none))
      case atStart => exact ⟨0, sp0, Nat.zero_le _, by omega, rfl, D4⟩
      case round =>
        clear D4
        obtain ⟨i, s, hi, hg, rfl, DR⟩ := hrel
        by_cases hlt : i < na
        · have q1 : (i : Int) < (na : Int) := by omega
          have hlt' : i < A.length := by rw [HNA.out]; exact hlt
          obtain ⟨ab, aoff, rfl, hab, hax⟩ := (HA.out.kept DR.out.ls.lo).nth (by omega)
          have har : wr.rangeAt ab (aoff + i * 6) (AC A[i]) := hax i hlt'
          have HAK := hide (HOKA.out A[i] (List.getElem_mem hlt'))
          have HLI := hide ((HLGA.out).2 A[i] (List.getElem_mem hlt'))
          obtain ⟨p, HPp⟩ : ∃ p, Hid (A[i] = p) := ⟨A[i], (show A[i] = A[i] from rfl)⟩
          rw [HPp.out] at har HAK HLI
          obtain ⟨E, HE⟩ : ∃ E, Hid (wr.heap.size = E) := ⟨_, rfl⟩
          obtain ⟨w4, hw4⟩ : ∃ x, x = wr.alloc (.cells (AC p).toArray 31 (0, 0)) := ⟨_, rfl⟩
          obtain ⟨B4, G4⟩ := newB HE hw4
          have HW4 := hide hw4
          have D4 := hide (DR.out.kept G4.out)
          clear hax hab hw4
          go_upto_region 7 with (first
            | (refine wpList_load_mid rfl 31 _ rfl ab (aoff + i * 6) rfl (AC p) _ har Try.underlying31 rfl Try.size31 ?_)
            | (refine wpList_store_new rfl 31 _ _ rfl wr _ (AC p).toArray _ rfl rfl rfl Try.size31 rfl (all_one (AC_one p)) ?_; rw [← HW4.out, HE.out])
            | fail)
          clear har
          have LOW := hide HAK.out.low
          have RP : Hid (RdG PE w4 p.v p.l) := (show RdG _ _ _ _ from HAK.out.r.kept D4.out.ls.lo)
          have hb0 := D4.out.ls.bnd
          obtain ⟨sl, HSL⟩ : ∃ x : Int, Hid (s.last = x) := ⟨_, rfl⟩
          rw [HSL.out] at hb0
          have hwl : IntKind.i64.wrap (sl + 1) = sl + 1 := wr64 (by omega) (by omega)
          have CLS : Hid (∀ W : World, Below w4.heap.size w4 W → Calls Try.prog 13 #[PT D] W fun e w' => e = .returned (.int .i64 sl) ∧ w' = W) := (show _ from fun W hW => by rw [← HSL.out]; exact (D4.out.kept hW).ls.last)
          obtain ⟨pv, HPV⟩ : ∃ x : Value, Hid (p.v = x) := ⟨_, rfl⟩
          have C5 : Hid (∀ W : World, Below w4.heap.size w4 W → W.cell? ⟨E, 5, none⟩ = some pv) := (show _ from fun W hW => by rw [← HPV.out]; exact (B4.out.kept hW).cell (j := 5) rfl)
          clear hb0
          refine wp_region_tails Try.mixed (KS (fun i_ => match i_ with | 0 | 1 => .val (PT D) | 2 => .val (.int .i64 sl) | 3 => .val (.int .i64 (sl + 1)) | 4 => .val (.pointer (some ⟨E, 5, none⟩)) | 5 => .val (pv) | _ => .free)) 206 rfl (by decide +kernel) 6 (by decide) (by decide +kernel) (KS_mono _) ?_ ?_
          · refine AllFrom.cons ⟨rfl, fun a' w' hg hk hd => ?_⟩ (AllFrom.cons ⟨rfl, fun a' w' hg hk hd => ?_⟩ (AllFrom.cons ⟨rfl, fun a' w' hg hk hd => ?_⟩ (AllFrom.cons ⟨rfl, fun a' w' hg hk hd => ?_⟩ (AllFrom.cons ⟨rfl, fun a' w' hg hk hd => ?_⟩ (AllFrom.cons ⟨rfl, fun a' w' hg hk hd => ?_⟩ AllFrom.nil)))))
            · skip
              intro Q
              have e5 : a'.eval (.tmp 5) = PT D := hk.at 5 (by decide +kernel)
              exact wp_value _ (by simp only [execOp, e5]; rfl) (KS_mkv rfl rfl)
            · skip
              intro Q
              have e5 : a'.eval (.tmp 5) = PT D := hk.at 5 (by decide +kernel)
              exact wp_value _ (by simp only [execOp, e5]; rfl) (KS_mkv rfl rfl)
            · skip
              intro Q
              have e47 : a'.eval (.tmp 47) = PT D := KS_val (hd.val 1 47 (by decide +kernel)) rfl
              refine wp_call 13 _ (run_enter 13 _ _ rfl (by kernel_rfl)) ?_
              simp only [List.map_toArray, List.map_nil, List.map_cons, e47]
              refine (CLS.out _ hg).mono ?_
              rintro e w5 ⟨rfl, rfl⟩
              exact ⟨_, rfl, KS_mkv rfl rfl, Gr.refl _⟩
            · skip
              intro Q
              have e48 : a'.eval (.tmp 48) = .int .i64 sl := KS_val (hd.val 2 48 (by decide +kernel)) rfl
              clear hd hk
              exact wp_value (.int .i64 (sl + 1)) (by simp only [execOp, e48]; go_simp) (KS_mkv rfl rfl)
            · skip
              intro Q
              have e8 : a'.eval (.tmp 8) = .pointer (some ⟨E, 0, none⟩) := hk.at 8 (by decide +kernel)
              clear hd hk
              exact wp_value (.pointer (some ⟨E, 5, none⟩)) (by simp only [execOp, e8]; go_simp) (KS_mkv rfl rfl)
            · skip
              intro Q
              have e50 : a'.eval (.tmp 50) = .pointer (some ⟨E, 5, none⟩) := KS_val (hd.val 4 50 (by decide +kernel)) rfl
              have hc := C5.out _ hg
              clear hd hk
              exact wp_value (pv) (by simp only [execOp, e50]; go_simp) (KS_mkv rfl rfl)
          · intro a' w5 hsz hdf hk hall hg
            have e46 : a'.eval (.tmp 46) = PT D := KS_val (hall 0 _ 46 (by decide) rfl rfl) rfl
            have e47 : a'.eval (.tmp 47) = PT D := KS_val (hall 1 _ 47 (by decide) rfl rfl) rfl
            have e48 : a'.eval (.tmp 48) = .int .i64 sl := KS_val (hall 2 _ 48 (by decide) rfl rfl) rfl
            have e49 : a'.eval (.tmp 49) = .int .i64 (sl + 1) := KS_val (hall 3 _ 49 (by decide) rfl rfl) rfl
            have e50 : a'.eval (.tmp 50) = .pointer (some ⟨E, 5, none⟩) := KS_val (hall 4 _ 50 (by decide) rfl rfl) rfl
            have e51 : a'.eval (.tmp 51) = pv := KS_val (hall 5 _ 51 (by decide) rfl rfl) rfl
            obtain ⟨x52, e52⟩ : ∃ v, a'.eval (.tmp 52) = v := ⟨_, rfl⟩
            have D5 := hide (D4.out.kept hg)
            have R5 : Hid (RdG PE w5 pv p.l) := (show RdG _ _ _ _ by rw [← HPV.out]; exact RP.out.kept hg)
            have CI := hide (D5.out.install (by omega) R5.out (Nat.le_trans HLI.out.1 (by decide)) (by rw [← HPV.out]; exact LOW.out) (sl + 1))
            obtain ⟨ri, HRI⟩ : ∃ x : Int, Hid ((if instOk s (sl + 1) p.l = true then (0 : Int) else 2) = x) := ⟨_, rfl⟩
            rw [HRI.out] at CI
            refine wpSeq_call rfl 12 _ (run_enter 12 _ _ rfl (by kernel_rfl)) ?_
            simp only [List.map_toArray, List.map_cons, List.map_nil, e46, e49, e51]
            refine CI.out.mono ?_
            rintro e w6 ⟨rfl, hd, -⟩
            have D6 := hide hd
            clear hd CI D5 R5
            refine ⟨_, rfl, ?_⟩
            have ha := act_puts 206 rfl hsz hdf hk [46, 47, 48, 49, 50, 51, 52] (by decide +kernel)
            simp only [puts, List.foldl_cons, List.foldl_nil, e46, e47, e48, e49, e50, e51, e52] at ha
            simp only [Act.put, List.setIfInBounds_toArray, List.set_cons_succ, List.set_cons_zero] at ha
            clear hall hk hsz hdf hg e46 e47 e48 e49 e50 e51 e52
            subst ha
            simp only [Act.put, List.setIfInBounds_toArray, List.set_cons_succ, List.set_cons_zero]
            go_wp2_with fail
            go_roundg (na - i)
            case measure => omega
            case rel => exact ⟨i + 1, _, by omega, by omega, by go_num, D6⟩
        · obtain rfl : i = na := by omega
          have hlt' : ¬ (i : Int) < i := by omega
          have CB := hide (DR.out.begin (by omega) true)
          go_wp2_with fail
          refine CB.out.mono ?_
          rintro e w5 ⟨rfl, b, hd, -, -⟩
          have D5 := hide hd
          obtain ⟨ks, hks, -⟩ := D5.out.ls.good
          have HKS := hide hks
          have T5 := hide (GoodT.begin s ks)
          clear hd CB DR hks
          go_wp2_with fail
          go_loopg [60] (nc + 1) (fun g z wr => ∃ (q : Nat) (b : Tb) (t : Tx), q ≤ nc ∧ g + q = nc + 1 ∧ z = .int .i64 (q : Int) ∧ Hid (Duo w wr D i s X 2 (some (b, t))) ∧ Hid (GoodT s ks t))
          case atStart => exact ⟨0, b, _, Nat.zero_le _, by omega, rfl, D5, T5⟩
          case round =>
            clear D5 T5
            obtain ⟨q, b, t, hq, hg, rfl, DR, TR⟩ := hrel
            by_cases hlt : q < nc
            · have q1 : (q : Int) < (nc : Int) := by omega
              have hlt' : q < C.length := by rw [HNC.out]; exact hlt
              obtain ⟨ab, aoff, rfl, hab, hax⟩ := (HC.out.kept DR.out.ls.lo).nth (by omega)
              have har : wr.rangeAt ab (aoff + q * 6) (AC C[q]) := hax q hlt'
              have HAK := hide (HOKC.out C[q] (List.getElem_mem hlt'))
              have HLI := hide ((HLGC.out).2 C[q] (List.getElem_mem hlt'))
              obtain ⟨p, HPp⟩ : ∃ p, Hid (C[q] = p) := ⟨C[q], (show C[q] = C[q] from rfl)⟩
              rw [HPp.out] at har HAK HLI
              obtain ⟨E, HE⟩ : ∃ E, Hid (wr.heap.size = E) := ⟨_, rfl⟩
              obtain ⟨w4, hw4⟩ : ∃ x, x = wr.alloc (.cells (AC p).toArray 31 (0, 0)) := ⟨_, rfl⟩
              obtain ⟨B4, G4⟩ := newB HE hw4
              have HW4 := hide hw4
              have D4 := hide (DR.out.kept G4.out)
              clear hax hab hw4
              go_upto_region 14 with (first
                | (refine wpList_load_mid rfl 31 _ rfl ab (aoff + q * 6) rfl (AC p) _ har Try.underlying31 rfl Try.size31 ?_)
                | (refine wpList_store_new rfl 31 _ _ rfl wr _ (AC p).toArray _ rfl rfl rfl Try.size31 rfl (all_one (AC_one p)) ?_; rw [← HW4.out, HE.out])
                | fail)
              clear har
              have c0 := B4.out.cell (j := 0) rfl
              have c2 := B4.out.cell (j := 2) rfl
              have c3 := B4.out.cell (j := 3) rfl
              obtain ⟨kd, HKD⟩ : ∃ x : Int, Hid (p.kind = x) := ⟨_, rfl⟩
              obtain ⟨kk, HKK⟩ : ∃ x : ByteArray, Hid (p.key = x) := ⟨_, rfl⟩
              obtain ⟨kv, HKV⟩ : ∃ x : ByteArray, Hid (p.val = x) := ⟨_, rfl⟩
              rw [HKD.out] at c0
              rw [HKK.out] at c2
              rw [HKV.out] at c3
              have HKM : Hid (kk.size ≤ maxLen) := (show kk.size ≤ maxLen by have := HLI.out.2.1; rw [HKK.out] at this; unfold maxLen; omega)
              by_cases k1 : kd = 1
              · have q2 : (kd == 1) = true := by simp [k1]
                have CG := hide (zGet_any D4.out (by omega) kk HKM.out)
                obtain ⟨⟨gr, gt⟩, HG⟩ : ∃ x, Hid (getT s t kk = x) := ⟨_, rfl⟩
                have TG : Hid (GoodT s ks gt) := (show GoodT _ _ _ by have := TR.out.get kk; rw [HG.out] at this; exact this)
                rw [HG.out] at CG
                simp only at CG
                go_wp2_with fail
                refine CG.out.mono ?_
                rintro e w5 ⟨rfl, b5, hd, -, -, -⟩
                have D5 := hide hd
                clear hd CG DR TR D4 B4
                go_wp2_with fail
                go_roundg (nc - q)
                case measure => omega
                case rel => exact ⟨q + 1, b5, _, by omega, by omega, by go_num, D5, TG⟩
              · have q2 : (kd == 1) = false := by simp [k1]
                by_cases k2 : kd = 2
                · have q3 : (kd == 2) = true := by simp [k2]
                  have CG := hide (zPut_any D4.out kk kv HKM.out)
                  obtain ⟨⟨gr, gt⟩, HG⟩ : ∃ x, Hid (putT t (kk, kv, false) = x) := ⟨_, rfl⟩
                  have TG : Hid (GoodT s ks gt) := (show GoodT _ _ _ by have := TR.out.put (kk, kv, false); rw [HG.out] at this; exact this)
                  rw [HG.out] at CG
                  simp only at CG
                  go_wp2_with fail
                  refine CG.out.mono ?_
                  rintro e w5 ⟨rfl, b5, hd, -, -, -⟩
                  have D5 := hide hd
                  clear hd CG DR TR D4 B4
                  go_wp2_with fail
                  go_roundg (nc - q)
                  case measure => omega
                  case rel => exact ⟨q + 1, b5, _, by omega, by omega, by go_num, D5, TG⟩
                · have q3 : (kd == 2) = false := by simp [k2]
                  by_cases k4 : kd = 4
                  · have q4 : (kd == 4) = true := by simp [k4]
                    have CG := hide (zScan_any D4.out (by omega) HKS.out kk kv)
                    obtain ⟨⟨⟨gl, gr⟩, gt⟩, HG⟩ : ∃ x, Hid (scanT s ks t kk kv = x) := ⟨_, rfl⟩
                    have TG : Hid (GoodT s ks gt) := (show GoodT _ _ _ by have := TR.out.scan kk kv; rw [HG.out] at this; exact this)
                    rw [HG.out] at CG
                    simp only at CG
                    go_wp2_with fail
                    refine CG.out.mono ?_
                    rintro e w5 ⟨v5, ⟨rfl, b5, hd, -, -, -⟩, -⟩
                    have D5 := hide hd
                    clear hd CG DR TR D4 B4
                    go_wp2_with fail
                    go_roundg (nc - q)
                    case measure => omega
                    case rel => exact ⟨q + 1, b5, _, by omega, by omega, by go_num, D5, TG⟩
                  · have q4 : (kd == 4) = false := by simp [k4]
                    go_wp2_with fail
                    go_roundg (nc - q)
                    case measure => omega
                    case rel => exact ⟨q + 1, b, _, by omega, by omega, by go_num, D4, TR⟩
            · obtain rfl : q = nc := by omega
              have hlt' : ¬ (q : Int) < q := by omega
              have CR := hide (zRec_any DR.out.ss TR.out.lens)
              go_wp2_with fail
              refine CR.out.mono ?_
              rintro e w5 ⟨⟨r, rfl, r1, r2, r3, r4, r5, r6, r7⟩, hb5⟩
              have D5 := hide (DR.out.kept hb5)
              obtain ⟨E, HE⟩ : ∃ E, Hid (w5.heap.size = E) := ⟨_, rfl⟩
              obtain ⟨w6, hw6⟩ : ∃ x, x = w5.alloc (.cells (RC r).toArray 53 (0, 0)) := ⟨_, rfl⟩
              obtain ⟨B6, G6⟩ := newB HE hw6
              have HW6 := hide hw6
              have D6 := hide (D5.out.kept G6.out)
              have R6 : Hid (RdX w6 (rv r) r.rs) := (show RdX _ _ _ from (r4.rd).kept G6.out)
              have HRS : Hid (r.rs.map plR = t.R) := r5
              have hsn : r.snap = s.last := by rw [r2, TR.out.snap]
              have hst : r.st = true := by rw [r3, TR.out.st]
              have HSE : Hid (r.ses = 2 ∧ r.snap = s.last ∧ r.st = true) := (show _ ∧ _ ∧ _ from ⟨r1, hsn, hst⟩)
              clear hw6 hb5 r1 r2 r3 r4 r5 r6 r7 hsn hst CR D5 DR
              go_upto_region 23 with (first
                | (refine wpList_store_new rfl 53 _ _ rfl w5 _ (RC r).toArray _ rfl rfl rfl Try.size53 rfl (all_one (RC_one r)) ?_; rw [← HW6.out, HE.out])
                | fail)
              obtain ⟨sl, HSL⟩ : ∃ x : Int, Hid (s.last = x) := ⟨_, rfl⟩
              have CLS : Hid (∀ W : World, Below w6.heap.size w6 W → Calls Try.prog 13 #[PT D] W fun e w' => e = .returned (.int .i64 sl) ∧ w' = W) := (show _ from fun W hW => by rw [← HSL.out]; exact (D6.out.kept hW).ls.last)
              have C0 : Hid (∀ W : World, Below w6.heap.size w6 W → W.cell? ⟨E, 0, none⟩ = some (.int .i64 2)) := (show _ from fun W hW => by rw [← HSE.out.1]; exact (B6.out.kept hW).cell (j := 0) rfl)
              have C1 : Hid (∀ W : World, Below w6.heap.size w6 W → W.cell? ⟨E, 1, none⟩ = some (.int .i64 sl)) := (show _ from fun W hW => by rw [← HSL.out, ← HSE.out.2.1]; exact (B6.out.kept hW).cell (j := 1) rfl)
              have C2 : Hid (∀ W : World, Below w6.heap.size w6 W → W.cell? ⟨E, 2, none⟩ = some (.bool true)) := (show _ from fun W hW => by rw [← HSE.out.2.2]; exact (B6.out.kept hW).cell (j := 2) rfl)
              refine wp_region_inv Try.mixed (KS (fun i_ => match i_ with | 0 | 16 => .val (.bool true) | 1 | 2 | 7 | 8 | 9 | 12 | 13 | 14 | 17 | 18 => .val (.bool false) | 3 => .val (.pointer (some ⟨E, 1, none⟩)) | 4 | 6 => .val (.int .i64 sl) | 5 => .val (PT D) | 10 => .val (.pointer (some ⟨E, 0, none⟩)) | 11 => .val (.int .i64 2) | 15 => .val (.pointer (some ⟨E, 2, none⟩)) | _ => .free)) 206 rfl (by decide +kernel) (KS_mono _) ?_ ?_
              · refine AllFrom.cons (fun a' w' hg hk hd => ?_) (AllFrom.cons (fun a' w' hg hk hd => ?_) (AllFrom.cons (fun a' w' hg hk hd => ?_) (AllFrom.cons (fun a' w' hg hk hd => ?_) (AllFrom.cons (fun a' w' hg hk hd => ?_) (AllFrom.cons (fun a' w' hg hk hd => ?_) (AllFrom.cons (fun a' w' hg hk hd => ?_) (AllFrom.cons (fun a' w' hg hk hd => ?_) (AllFrom.cons (fun a' w' hg hk hd => ?_) (AllFrom.cons (fun a' w' hg hk hd => ?_) (AllFrom.cons (fun a' w' hg hk hd => ?_) (AllFrom.cons (fun a' w' hg hk hd => ?_) (AllFrom.cons (fun a' w' hg hk hd => ?_) (AllFrom.cons (fun a' w' hg hk hd => ?_) (AllFrom.cons (fun a' w' hg hk hd => ?_) (AllFrom.cons (fun a' w' hg hk hd => ?_) (AllFrom.cons (fun a' w' hg hk hd => ?_) (AllFrom.cons (fun a' w' hg hk hd => ?_) (AllFrom.cons (fun a' w' hg hk hd => ?_) AllFrom.nil))))))))))))))))))
                · skip
                  intro Q
                  have e12 : a'.eval (.tmp 12) = .bool true := hk.at 12 (by decide +kernel)
                  exact wp_value _ (by simp only [execOp, e12]; rfl) (KS_mkv rfl rfl)
                · skip
                  intro Q
                  have e96 : a'.eval (.tmp 96) = .bool true := KS_val (hd.val 0 96 (by decide +kernel)) rfl
                  clear hd hk
                  exact wp_value (.bool false) (by simp only [execOp, e96]; go_simp) (KS_mkv rfl rfl)
                · skip
                  intro Q
                  have e97 : a'.eval (.tmp 97) = .bool false := KS_val (hd.val 1 97 (by decide +kernel)) rfl
                  exact wp_value _ (by simp only [execOp, e97]; rfl) (KS_mkv rfl rfl)
                · skip
                  have eg : a'.eval (.tmp 98) = .bool false := KS_val (hd.val 2 98 (by decide +kernel)) rfl
                  refine ⟨98, false, rfl, eg, fun _ Q => ?_, fun h => absurd rfl h⟩
                  have e11 : a'.eval (.tmp 11) = .pointer (some ⟨E, 0, none⟩) := hk.at 11 (by decide +kernel)
                  clear hd hk
                  exact wp_value (.pointer (some ⟨E, 1, none⟩)) (by simp only [execOp, e11]; go_simp) (KS_mkv rfl rfl)
                · skip
                  have eg : a'.eval (.tmp 98) = .bool false := KS_val (hd.val 2 98 (by decide +kernel)) rfl
                  refine ⟨98, false, rfl, eg, fun _ Q => ?_, fun h => absurd rfl h⟩
                  have e99 : a'.eval (.tmp 99) = .pointer (some ⟨E, 1, none⟩) := KS_val (hd.val 3 99 (by decide +kernel)) rfl
                  have hc := C1.out _ hg
                  clear hd hk
                  exact wp_value (.int .i64 sl) (by simp only [execOp, e99]; go_simp) (KS_mkv rfl rfl)
                · skip
                  have eg : a'.eval (.tmp 98) = .bool false := KS_val (hd.val 2 98 (by decide +kernel)) rfl
                  refine ⟨98, false, rfl, eg, fun _ Q => ?_, fun h => absurd rfl h⟩
                  have e5 : a'.eval (.tmp 5) = PT D := hk.at 5 (by decide +kernel)
                  exact wp_value _ (by simp only [execOp, e5]; rfl) (KS_mkv rfl rfl)
                · skip
                  have eg : a'.eval (.tmp 98) = .bool false := KS_val (hd.val 2 98 (by decide +kernel)) rfl
                  refine ⟨98, false, rfl, eg, fun _ Q => ?_, fun h => absurd rfl h⟩
                  have e101 : a'.eval (.tmp 101) = PT D := KS_val (hd.val 5 101 (by decide +kernel)) rfl
                  refine wp_call 13 _ (run_enter 13 _ _ rfl (by kernel_rfl)) ?_
                  simp only [List.map_toArray, List.map_nil, List.map_cons, e101]
                  refine (CLS.out _ hg).mono ?_
                  rintro e w5 ⟨rfl, rfl⟩
                  exact ⟨_, rfl, KS_mkv rfl rfl, Gr.refl _⟩
                · skip
                  have eg : a'.eval (.tmp 98) = .bool false := KS_val (hd.val 2 98 (by decide +kernel)) rfl
                  refine ⟨98, false, rfl, eg, fun _ Q => ?_, fun h => absurd rfl h⟩
                  have e100 : a'.eval (.tmp 100) = .int .i64 sl := KS_val (hd.val 4 100 (by decide +kernel)) rfl
                  have e102 : a'.eval (.tmp 102) = .int .i64 sl := KS_val (hd.val 6 102 (by decide +kernel)) rfl
                  clear hd hk
                  exact wp_value (.bool false) (by simp only [execOp, e100, e102]; go_simp) (KS_mkv rfl rfl)
                · skip
                  intro Q
                  have e98 : a'.eval (.tmp 98) = .bool false := KS_val (hd.val 2 98 (by decide +kernel)) rfl
                  have e103 : a'.eval (.tmp 103) = .bool false := KS_val (hd.val 7 103 (by decide +kernel)) rfl
                  clear hd hk
                  exact wp_value (.bool false) (by simp only [execOp, e98, e103]; go_simp) (KS_mkv rfl rfl)
                · skip
                  intro Q
                  have e104 : a'.eval (.tmp 104) = .bool false := KS_val (hd.val 8 104 (by decide +kernel)) rfl
                  exact wp_value _ (by simp only [execOp, e104]; rfl) (KS_mkv rfl rfl)
                · skip
                  have eg : a'.eval (.tmp 105) = .bool false := KS_val (hd.val 9 105 (by decide +kernel)) rfl
                  refine ⟨105, false, rfl, eg, fun _ Q => ?_, fun h => absurd rfl h⟩
                  have e11 : a'.eval (.tmp 11) = .pointer (some ⟨E, 0, none⟩) := hk.at 11 (by decide +kernel)
                  clear hd hk
                  exact wp_value (.pointer (some ⟨E, 0, none⟩)) (by simp only [execOp, e11]; go_simp) (KS_mkv rfl rfl)
                · skip
                  have eg : a'.eval (.tmp 105) = .bool false := KS_val (hd.val 9 105 (by decide +kernel)) rfl
                  refine ⟨105, false, rfl, eg, fun _ Q => ?_, fun h => absurd rfl h⟩
                  have e106 : a'.eval (.tmp 106) = .pointer (some ⟨E, 0, none⟩) := KS_val (hd.val 10 106 (by decide +kernel)) rfl
                  have hc := C0.out _ hg
                  clear hd hk
                  exact wp_value (.int .i64 2) (by simp only [execOp, e106]; go_simp) (KS_mkv rfl rfl)
                · skip
                  have eg : a'.eval (.tmp 105) = .bool false := KS_val (hd.val 9 105 (by decide +kernel)) rfl
                  refine ⟨105, false, rfl, eg, fun _ Q => ?_, fun h => absurd rfl h⟩
                  have e107 : a'.eval (.tmp 107) = .int .i64 2 := KS_val (hd.val 11 107 (by decide +kernel)) rfl
                  clear hd hk
                  exact wp_value (.bool false) (by simp only [execOp, e107]; go_simp) (KS_mkv rfl rfl)
                · skip
                  intro Q
                  have e105 : a'.eval (.tmp 105) = .bool false := KS_val (hd.val 9 105 (by decide +kernel)) rfl
                  have e108 : a'.eval (.tmp 108) = .bool false := KS_val (hd.val 12 108 (by decide +kernel)) rfl
                  clear hd hk
                  exact wp_value (.bool false) (by simp only [execOp, e105, e108]; go_simp) (KS_mkv rfl rfl)
                · skip
                  intro Q
                  have e109 : a'.eval (.tmp 109) = .bool false := KS_val (hd.val 13 109 (by decide +kernel)) rfl
                  exact wp_value _ (by simp only [execOp, e109]; rfl) (KS_mkv rfl rfl)
                · skip
                  have eg : a'.eval (.tmp 110) = .bool false := KS_val (hd.val 14 110 (by decide +kernel)) rfl
                  refine ⟨110, false, rfl, eg, fun _ Q => ?_, fun h => absurd rfl h⟩
                  have e11 : a'.eval (.tmp 11) = .pointer (some ⟨E, 0, none⟩) := hk.at 11 (by decide +kernel)
                  clear hd hk
                  exact wp_value (.pointer (some ⟨E, 2, none⟩)) (by simp only [execOp, e11]; go_simp) (KS_mkv rfl rfl)
                · skip
                  have eg : a'.eval (.tmp 110) = .bool false := KS_val (hd.val 14 110 (by decide +kernel)) rfl
                  refine ⟨110, false, rfl, eg, fun _ Q => ?_, fun h => absurd rfl h⟩
                  have e111 : a'.eval (.tmp 111) = .pointer (some ⟨E, 2, none⟩) := KS_val (hd.val 15 111 (by decide +kernel)) rfl
                  have hc := C2.out _ hg
                  clear hd hk
                  exact wp_value (.bool true) (by simp only [execOp, e111]; go_simp) (KS_mkv rfl rfl)
                · skip
                  have eg : a'.eval (.tmp 110) = .bool false := KS_val (hd.val 14 110 (by decide +kernel)) rfl
                  refine ⟨110, false, rfl, eg, fun _ Q => ?_, fun h => absurd rfl h⟩
                  have e112 : a'.eval (.tmp 112) = .bool true := KS_val (hd.val 16 112 (by decide +kernel)) rfl
                  clear hd hk
                  exact wp_value (.bool false) (by simp only [execOp, e112]; go_simp) (KS_mkv rfl rfl)
                · skip
                  intro Q
                  have e110 : a'.eval (.tmp 110) = .bool false := KS_val (hd.val 14 110 (by decide +kernel)) rfl
                  have e113 : a'.eval (.tmp 113) = .bool false := KS_val (hd.val 17 113 (by decide +kernel)) rfl
                  clear hd hk
                  exact wp_value (.bool false) (by simp only [execOp, e110, e113]; go_simp) (KS_mkv rfl rfl)
              · intro a' w7 hsz hdf hk hall hg
                have D7 := hide (D6.out.kept hg)
                have R7 := hide (R6.out.kept hg)
                have B7 := hide (B6.out.kept hg)
                clear hg
                have e96 : a'.eval (.tmp 96) = .bool true := KS_val (hall 0 _ 96 rfl rfl) rfl
                have e97 : a'.eval (.tmp 97) = .bool false := KS_val (hall 1 _ 97 rfl rfl) rfl
                have e98 : a'.eval (.tmp 98) = .bool false := KS_val (hall 2 _ 98 rfl rfl) rfl
                have e99 : a'.eval (.tmp 99) = .pointer (some ⟨E, 1, none⟩) := KS_val (hall 3 _ 99 rfl rfl) rfl
                have e100 : a'.eval (.tmp 100) = .int .i64 sl := KS_val (hall 4 _ 100 rfl rfl) rfl
                have e101 : a'.eval (.tmp 101) = PT D := KS_val (hall 5 _ 101 rfl rfl) rfl
                have e102 : a'.eval (.tmp 102) = .int .i64 sl := KS_val (hall 6 _ 102 rfl rfl) rfl
                have e103 : a'.eval (.tmp 103) = .bool false := KS_val (hall 7 _ 103 rfl rfl) rfl
                have e104 : a'.eval (.tmp 104) = .bool false := KS_val (hall 8 _ 104 rfl rfl) rfl
                have e105 : a'.eval (.tmp 105) = .bool false := KS_val (hall 9 _ 105 rfl rfl) rfl
                have e106 : a'.eval (.tmp 106) = .pointer (some ⟨E, 0, none⟩) := KS_val (hall 10 _ 106 rfl rfl) rfl
                have e107 : a'.eval (.tmp 107) = .int .i64 2 := KS_val (hall 11 _ 107 rfl rfl) rfl
                have e108 : a'.eval (.tmp 108) = .bool false := KS_val (hall 12 _ 108 rfl rfl) rfl
                have e109 : a'.eval (.tmp 109) = .bool false := KS_val (hall 13 _ 109 rfl rfl) rfl
                have e110 : a'.eval (.tmp 110) = .bool false := KS_val (hall 14 _ 110 rfl rfl) rfl
                have e111 : a'.eval (.tmp 111) = .pointer (some ⟨E, 2, none⟩) := KS_val (hall 15 _ 111 rfl rfl) rfl
                have e112 : a'.eval (.tmp 112) = .bool true := KS_val (hall 16 _ 112 rfl rfl) rfl
                have e113 : a'.eval (.tmp 113) = .bool false := KS_val (hall 17 _ 113 rfl rfl) rfl
                have e114 : a'.eval (.tmp 114) = .bool false := KS_val (hall 18 _ 114 rfl rfl) rfl
                have ha := act_puts 206 rfl hsz hdf hk [96, 97, 98, 99, 100, 101, 102, 103, 104, 105, 106, 107, 108, 109, 110, 111, 112, 113, 114] (by decide +kernel)
                simp only [puts, List.foldl_cons, List.foldl_nil, e96, e97, e98, e99, e100, e101, e102, e103, e104, e105, e106, e107, e108, e109, e110, e111, e112, e113, e114] at ha
                simp only [Act.put, List.setIfInBounds_toArray, List.set_cons_succ, List.set_cons_zero] at ha
                clear hall hk hsz hdf e96 e97 e98 e99 e100 e101 e102 e103 e104 e105 e106 e107 e108 e109 e110 e111 e112 e113 e114
                subst ha
                have d1 := B7.out.cell (j := 1) rfl
                rw [HSE.out.2.1, HSL.out] at d1
                have d3 := B7.out.rrs
                obtain ⟨Q, HQ⟩ : ∃ x, Hid (r.rs = x) := ⟨_, rfl⟩
                obtain ⟨ra, HRA⟩ : ∃ x, Hid (r.ra = x) := ⟨_, rfl⟩
                obtain ⟨rc, HRC⟩ : ∃ x, Hid (r.rc = x) := ⟨_, rfl⟩
                obtain ⟨rn, HRN⟩ : ∃ x, Hid (Q.length = x) := ⟨_, rfl⟩
                have RQ : Hid (RdX w7 (.slice ra rn rc) Q) := (show RdX _ _ _ by have := R7.out; unfold rv at this; rw [HQ.out, HRA.out, HRC.out, HRN.out] at this; exact this)
                unfold rv at d3
                rw [HQ.out, HRA.out, HRC.out, HRN.out] at d3
                have HQP : Hid (Q.map plR = t.R) := (show _ by rw [← HQ.out]; exact HRS.out)
                have hrnm := Nat.le_trans RQ.out.rd.cap RQ.out.rd.max
                have L7 : Hid (Below w7.heap.size w7 w7) := Below.refl _ _
                clear CLS C0 C1 C2 D6 R6 B6
                go_wp2_with fail
                go_loopg [118] (rn + 1) (fun g z wr => ∃ (j : Nat), j ≤ rn ∧ g + j = rn + 1 ∧ z = .int .i64 (j : Int) ∧ Hid (Below w7.heap.size w7 wr))
                case atStart => exact ⟨0, Nat.zero_le _, by omega, rfl, L7⟩
                case round =>
                  clear L7
                  obtain ⟨j, hj, hg, rfl, LR⟩ := hrel
                  by_cases hjl : j < rn
                  · have q1 : (j : Int) < (rn : Int) := by omega
                    have hjl' : j < Q.length := by rw [HRN.out]; exact hjl
                    have RR := hide (RQ.out.kept LR.out)
                    obtain ⟨bb, off, rfl, hbb, hxx⟩ := RR.out.rd.nth (by omega)
                    have hrow : wr.rangeAt bb (off + j * 4) (XC Q[j]) := hxx j hjl'
                    have HXK := hide (RR.out.ps _ (List.getElem_mem hjl'))
                    have HGX : Hid (GoodX s ks (plR Q[j])) := (show GoodX _ _ _ from TR.out.all _ (by rw [← HQP.out]; exact List.mem_map_of_mem (List.getElem_mem hjl')))
                    have HUN : Hid (∀ m (hm : m < j), Q[j].sc = false → (Q[m]'(by omega)).sc = false → (Q[m]'(by omega)).k ≠ Q[j].k) := (show _ from fun m hm h1 h2 => by
                      have hp := TR.out.one
                      rw [← HQP.out, List.pairwise_map] at hp
                      have := List.pairwise_iff_getElem.1 hp m j (by omega) hjl' hm
                      exact this h2 h1)
                    obtain ⟨x, HX⟩ : ∃ x, Hid (Q[j] = x) := ⟨Q[j], (show Q[j] = Q[j] from rfl)⟩
                    rw [HX.out] at hrow HXK HGX
                    obtain ⟨F, HF⟩ : ∃ E, Hid (wr.heap.size = E) := ⟨_, rfl⟩
                    obtain ⟨w8, hw8⟩ : ∃ y, y = wr.alloc (.cells (XC x).toArray 64 (0, 0)) := ⟨_, rfl⟩
                    obtain ⟨B8, G8⟩ := newB HF hw8
                    have HW8 := hide hw8
                    have L8 : Hid (Below w7.heap.size w7 w8) := (show Below _ _ _ from LR.out.trans (G8.out.mono LR.out.size))
                    have D8 := hide (D7.out.kept L8.out)
                    have X8 : Hid (RdG PE w8 (xv x) x.ps) := (show RdG _ _ _ _ from RdG.kept HXK.out G8.out)
                    have e0 := B8.out.xsc
                    have e1 := B8.out.xk
                    have e2 := B8.out.xt
                    have e3 := B8.out.xp
                    obtain ⟨xs, HXS⟩ : ∃ y, Hid (x.sc = y) := ⟨_, rfl⟩
                    obtain ⟨xk, HXKK⟩ : ∃ y, Hid (x.k = y) := ⟨_, rfl⟩
                    obtain ⟨xt, HXT⟩ : ∃ y, Hid (x.t = y) := ⟨_, rfl⟩
                    obtain ⟨xp, HXPS⟩ : ∃ y, Hid (x.ps = y) := ⟨_, rfl⟩
                    obtain ⟨xa, HXA⟩ : ∃ y, Hid (x.ha = y) := ⟨_, rfl⟩
                    obtain ⟨xc, HXC⟩ : ∃ y, Hid (x.hc = y) := ⟨_, rfl⟩
                    obtain ⟨xn, HXN⟩ : ∃ y, Hid (xp.length = y) := ⟨_, rfl⟩
                    rw [HXS.out] at e0
                    rw [HXKK.out] at e1
                    rw [HXT.out] at e2
                    unfold xv at e3 X8
                    rw [HXA.out, HXC.out, HXPS.out, HXN.out] at e3 X8
                    have HG9 : Hid (GoodX s ks (xs, xk, xt, xp)) := (show GoodX _ _ _ by have := HGX.out; unfold plR at this; rw [HXS.out, HXKK.out, HXT.out, HXPS.out] at this; exact this)
                    have d81 : w8.cell? ⟨E, 1, none⟩ = some (.int .i64 sl) := by rw [← d1]; exact L8.out.cell B7.out.lt
                    have d83 : w8.cell? ⟨E, 3, none⟩ = some (.slice (some ⟨bb, off, none⟩) rn rc) := by rw [← d3]; exact L8.out.cell B7.out.lt
                    clear hxx hbb hw8
                    go_upto_region 28 with (first
                      | (refine wpList_load_mid rfl 64 _ rfl bb (off + j * 4) rfl (XC x) _ hrow Try.underlying64 rfl Try.size64 ?_)
                      | (refine wpList_store_new rfl 64 _ _ rfl wr _ (XC x).toArray _ rfl rfl rfl Try.size64 rfl (all_one (XC_one x)) ?_; rw [← HW8.out, HF.out])
                      | fail)
                    clear hrow d3
                    cases xs with
                    | true =>
                      have CS := hide (D8.out.ls.scan (by omega) HKS.out xk xt sl 300)
                      rw [show scanS s ks xk xt sl 300 = (xp, 0) by rw [← HSL.out]; exact scan_more (HG9.out.scan rfl) HG9.out.len] at CS
                      go_wp2_with fail
                      refine CS.out.mono ?_
                      rintro e w9 ⟨v9, rfl, ho, hb9⟩
                      have O9 := hide ho
                      have L9 : Hid (Below w7.heap.size w7 w9) := (show Below _ _ _ from L8.out.trans (hb9.mono L8.out.size))
                      have X9 := hide (RdG.kept X8.out hb9)
                      have e39 : w9.cell? ⟨F, 3, none⟩ = some (.slice xa xn xc) := by rw [← e3]; exact hb9.cell B8.out.lt
                      have CQ := hide (vsame_any O9.out.rd X9.out)
                      rw [decide_eq_true rfl] at CQ
                      clear ho hb9 CS
                      go_wp2_with fail
                      refine CQ.out.mono ?_
                      rintro e wa ⟨rfl, hba⟩
                      have LA : Hid (Below w7.heap.size w7 wa) := (show Below _ _ _ from L9.out.trans (hba.mono L9.out.size))
                      clear hba CQ
                      go_wp2_with fail
                      go_roundg (rn - j)
                      case measure => omega
                      case rel => exact ⟨j + 1, by omega, by omega, by go_num, LA⟩
                    | false =>
                      have CG := hide (D8.out.ls.get (by omega) xk (by have := HG9.out.k; simp only at this; unfold maxLen; omega) sl)
                      have hkey := HG9.out.key rfl
                      simp only at hkey
                      rw [HSL.out] at hkey
                      obtain ⟨⟨g1, g2⟩, HGS⟩ : ∃ g, Hid (getS s xk sl = g) := ⟨_, rfl⟩
                      rw [HGS.out] at CG hkey
                      simp only at CG hkey
                      have HKEY := hide hkey
                      clear hkey
                      go_wp2_with fail
                      refine CG.out.mono ?_
                      rintro e w9 ⟨rfl, hb9⟩
                      have L9 : Hid (Below w7.heap.size w7 w9) := (show Below _ _ _ from L8.out.trans (hb9.mono L8.out.size))
                      have X9 := hide (RdG.kept X8.out hb9)
                      have e39 : w9.cell? ⟨F, 3, none⟩ = some (.slice xa xn xc) := by rw [← e3]; exact hb9.cell B8.out.lt
                      have e19 : w9.cell? ⟨F, 1, none⟩ = some (.string xk) := by rw [← e1]; exact hb9.cell B8.out.lt
                      have hb9 := hide hb9
                      clear CG
                      rcases HKEY.out with ⟨rfl, hxp⟩ | ⟨rfl, hxp⟩
                      · subst hxp
                        obtain rfl : xn = 1 := by rw [← HXN.out]; rfl
                        obtain ⟨pb, po, rfl, hpb, hpx⟩ := X9.out.nth (by decide)
                        have hp0 := hpx 0 (by simp)
                        have p0 : w9.cell? ⟨pb, po, none⟩ = some (.string xk) := hp0 0 (.string xk) rfl
                        have p1 : w9.cell? ⟨pb, po + 1, none⟩ = some (.string g1) := hp0 1 (.string g1) rfl
                        clear hpx hp0 hpb HKEY
                        go_upto_region 33 with fail
                        go_quiet (fail)
                        obtain ⟨wb, hwb⟩ : ∃ y, y = w9.drewN nq := ⟨_, rfl⟩
                        have LB : Hid (Below w7.heap.size w7 wb) := (show Below _ _ _ by rw [hwb]; exact L9.out.trans ((below_drewN _ _ _).mono L9.out.size))
                        have b83 : wb.cell? ⟨E, 3, none⟩ = some (.slice (some ⟨bb, off, none⟩) rn rc) := by rw [← d83]; exact (LB.out.cell B7.out.lt).trans (L8.out.cell B7.out.lt).symm
                        have BF : Hid (Blk wb F 64 (XC x)) := (show Blk _ _ _ _ by rw [hwb]; exact (B8.out.kept hb9.out).drewN nq)
                        rw [← hwb]
                        have hsl := (slice_G_to (E := XE) (P := Try.prog) Try.underlying51 Try.size64 (some ⟨bb, off, none⟩) rn rc j (by omega) RR.out.rd.cap).1
                        clear hwb D8 X8 e0 e1 e2 e3 d81 d83 B8 G8
                        go_wp2_with fail
                        go_loopg [189] (j + 1) (fun g z wr => ∃ (m : Nat), m ≤ j ∧ g + m = j + 1 ∧ z = .int .i64 (m : Int) ∧ Hid (Below w7.heap.size w7 wr) ∧ Hid (Blk wr F 64 (XC x)))
                        case atStart => exact ⟨0, Nat.zero_le _, by omega, rfl, LB, BF⟩
                        case round =>
                          clear LB BF
                          obtain ⟨m, hm, hgm, rfl, LM, BM⟩ := hrel
                          by_cases hmj : m < j
                          · have q7 : (m : Int) < (j : Int) := by omega
                            have hmq : m < Q.length := by omega
                            obtain ⟨bc, oc, hcc, hbc, hxc⟩ := (RQ.out.kept LM.out).rd.nth (by omega)
                            simp only [Option.some.injEq, Addr.mk.injEq, and_true] at hcc
                            obtain ⟨rfl, rfl⟩ := hcc
                            have hrm : wr.rangeAt bb (off + m * 4) (XC Q[m]) := hxc m hmq
                            have HU := hide (fun h1 => HUN.out m hmj (by rw [HX.out]; exact HXS.out) h1)
                            obtain ⟨z, HZ⟩ : ∃ x, Hid (Q[m] = x) := ⟨Q[m], (show Q[m] = Q[m] from rfl)⟩
                            rw [HZ.out] at hrm
                            have HU2 : Hid (z.sc = false → z.k ≠ xk) := (show _ from fun h1 => by
                              have := HU.out (by rw [HZ.out]; exact h1)
                              rw [HZ.out, HX.out, HXKK.out] at this
                              exact this)
                            have c1 := BM.out.xk
                            rw [HXKK.out] at c1
                            obtain ⟨G, HGz⟩ : ∃ E, Hid (wr.heap.size = E) := ⟨_, rfl⟩
                            obtain ⟨wc, hwc⟩ : ∃ y, y = wr.alloc (.cells (XC z).toArray 64 (0, 0)) := ⟨_, rfl⟩
                            obtain ⟨BZ, GZ⟩ := newB HGz hwc
                            have HWC := hide hwc
                            have LC : Hid (Below w7.heap.size w7 wc) := (show Below _ _ _ from LM.out.trans (GZ.out.mono LM.out.size))
                            have BC := hide (BM.out.kept GZ.out)
                            have f0 := BZ.out.xsc
                            have f1 := BZ.out.xk
                            have f2 := BC.out.xk
                            rw [HXKK.out] at f2
                            obtain ⟨zs, HZS⟩ : ∃ y, Hid (z.sc = y) := ⟨_, rfl⟩
                            obtain ⟨zk, HZK⟩ : ∃ y, Hid (z.k = y) := ⟨_, rfl⟩
                            rw [HZS.out] at f0
                            rw [HZK.out] at f1
                            clear hxc hbc hwc HU
                            go_upto_region 38 with (first
                              | (refine wpList_load_mid rfl 64 _ rfl bb (off + m * 4) rfl (XC z) _ hrm Try.underlying64 rfl Try.size64 ?_)
                              | (refine wpList_store_new rfl 64 _ _ rfl wr _ (XC z).toArray _ rfl rfl rfl Try.size64 rfl (all_one (XC_one z)) ?_; rw [← HWC.out, HGz.out])
                              | fail)
                            clear hrm
                            cases zs with
                            | true =>
                              go_wp2_with fail
                              go_roundg (j - m)
                              case measure => omega
                              case rel => exact ⟨m + 1, by omega, by omega, by go_num, LC, BC⟩
                            | false =>
                              have hne : (zk.toList == xk.toList) = false := by
                                rw [Bool.eq_false_iff]
                                intro h9
                                rw [beq_iff_eq] at h9
                                exact HU2.out HZS.out (by rw [HZK.out]; exact ba_inj.1 h9)
                              go_wp2_with fail
                              go_roundg (j - m)
                              case measure => omega
                              case rel => exact ⟨m + 1, by omega, by omega, by go_num, LC, BC⟩
                          · obtain rfl : m = j := by omega
                            have q7 : ¬ (m : Int) < m := by omega
                            go_wp2_with fail
                            go_roundg (rn - m)
                            case measure => omega
                            case rel => exact ⟨m + 1, by omega, by omega, by go_num, LM⟩
                      · subst hxp
                        obtain rfl : xn = 0 := by rw [← HXN.out]; rfl
                        clear HKEY
                        go_upto_region 33 with fail
                        go_quiet (fail)
                        obtain ⟨wb, hwb⟩ : ∃ y, y = w9.drewN nq := ⟨_, rfl⟩
                        have LB : Hid (Below w7.heap.size w7 wb) := (show Below _ _ _ by rw [hwb]; exact L9.out.trans ((below_drewN _ _ _).mono L9.out.size))
                        have b83 : wb.cell? ⟨E, 3, none⟩ = some (.slice (some ⟨bb, off, none⟩) rn rc) := by rw [← d83]; exact (LB.out.cell B7.out.lt).trans (L8.out.cell B7.out.lt).symm
                        have BF : Hid (Blk wb F 64 (XC x)) := (show Blk _ _ _ _ by rw [hwb]; exact (B8.out.kept hb9.out).drewN nq)
                        rw [← hwb]
                        have hsl := (slice_G_to (E := XE) (P := Try.prog) Try.underlying51 Try.size64 (some ⟨bb, off, none⟩) rn rc j (by omega) RR.out.rd.cap).1
                        clear hwb D8 X8 e0 e1 e2 e3 d81 d83 B8 G8
                        go_wp2_with fail
                        go_loopg [189] (j + 1) (fun g z wr => ∃ (m : Nat), m ≤ j ∧ g + m = j + 1 ∧ z = .int .i64 (m : Int) ∧ Hid (Below w7.heap.size w7 wr) ∧ Hid (Blk wr F 64 (XC x)))
                        case atStart => exact ⟨0, Nat.zero_le _, by omega, rfl, LB, BF⟩
                        case round =>
                          clear LB BF
                          obtain ⟨m, hm, hgm, rfl, LM, BM⟩ := hrel
                          by_cases hmj : m < j
                          · have q7 : (m : Int) < (j : Int) := by omega
                            have hmq : m < Q.length := by omega
                            obtain ⟨bc, oc, hcc, hbc, hxc⟩ := (RQ.out.kept LM.out).rd.nth (by omega)
                            simp only [Option.some.injEq, Addr.mk.injEq, and_true] at hcc
                            obtain ⟨rfl, rfl⟩ := hcc
                            have hrm : wr.rangeAt bb (off + m * 4) (XC Q[m]) := hxc m hmq
                            have HU := hide (fun h1 => HUN.out m hmj (by rw [HX.out]; exact HXS.out) h1)
                            obtain ⟨z, HZ⟩ : ∃ x, Hid (Q[m] = x) := ⟨Q[m], (show Q[m] = Q[m] from rfl)⟩
                            rw [HZ.out] at hrm
                            have HU2 : Hid (z.sc = false → z.k ≠ xk) := (show _ from fun h1 => by
                              have := HU.out (by rw [HZ.out]; exact h1)
                              rw [HZ.out, HX.out, HXKK.out] at this
                              exact this)
                            have c1 := BM.out.xk
                            rw [HXKK.out] at c1
                            obtain ⟨G, HGz⟩ : ∃ E, Hid (wr.heap.size = E) := ⟨_, rfl⟩
                            obtain ⟨wc, hwc⟩ : ∃ y, y = wr.alloc (.cells (XC z).toArray 64 (0, 0)) := ⟨_, rfl⟩
                            obtain ⟨BZ, GZ⟩ := newB HGz hwc
                            have HWC := hide hwc
                            have LC : Hid (Below w7.heap.size w7 wc) := (show Below _ _ _ from LM.out.trans (GZ.out.mono LM.out.size))
                            have BC := hide (BM.out.kept GZ.out)
                            have f0 := BZ.out.xsc
                            have f1 := BZ.out.xk
                            have f2 := BC.out.xk
                            rw [HXKK.out] at f2
                            obtain ⟨zs, HZS⟩ : ∃ y, Hid (z.sc = y) := ⟨_, rfl⟩
                            obtain ⟨zk, HZK⟩ : ∃ y, Hid (z.k = y) := ⟨_, rfl⟩
                            rw [HZS.out] at f0
                            rw [HZK.out] at f1
                            clear hxc hbc hwc HU
                            go_upto_region 38 with (first
                              | (refine wpList_load_mid rfl 64 _ rfl bb (off + m * 4) rfl (XC z) _ hrm Try.underlying64 rfl Try.size64 ?_)
                              | (refine wpList_store_new rfl 64 _ _ rfl wr _ (XC z).toArray _ rfl rfl rfl Try.size64 rfl (all_one (XC_one z)) ?_; rw [← HWC.out, HGz.out])
                              | fail)
                            clear hrm
                            cases zs with
                            | true =>
                              go_wp2_with fail
                              go_roundg (j - m)
                              case measure => omega
                              case rel => exact ⟨m + 1, by omega, by omega, by go_num, LC, BC⟩
                            | false =>
                              have hne : (zk.toList == xk.toList) = false := by
                                rw [Bool.eq_false_iff]
                                intro h9
                                rw [beq_iff_eq] at h9
                                exact HU2.out HZS.out (by rw [HZK.out]; exact ba_inj.1 h9)
                              go_wp2_with fail
                              go_roundg (j - m)
                              case measure => omega
                              case rel => exact ⟨m + 1, by omega, by omega, by go_num, LC, BC⟩
                          · obtain rfl : m = j := by omega
                            have q7 : ¬ (m : Int) < m := by omega
                            go_wp2_with fail
                            go_roundg (rn - m)
                            case measure => omega
                            case rel => exact ⟨m + 1, by omega, by omega, by go_num, LM⟩
                  · obtain rfl : j = rn := by omega
                    have hjl' : ¬ (j : Int) < j := by omega
                    have LW : Hid (Below w.heap.size w wr) := (show Below _ _ _ from D7.out.ls.lo.trans (LR.out.mono D7.out.ls.lo.size))
                    have CV := hide (lives_any wr)
                    go_wp2_with fail
                    refine CV.out.mono ?_
                    rintro e w8 ⟨rfl, hb8⟩
                    have L8 : Hid (Below w.heap.size w w8) := (show Below _ _ _ from LW.out.trans (hb8.mono LW.out.size))
                    clear hb8
                    go_wp2_with fail
                    go_ret
                    exact ⟨rfl, L8.out⟩
#print axioms reads_any
end Go.Proofs.Ytcicekggeampcaa
