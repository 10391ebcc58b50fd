/-
  indenturelaw15.SessionActs: what the call does.
-/
import Derived.Test.YtcicekggeampcaaGreatYrI
import Derived.Test.YtcicekggeampcaaGreatYrJ
import Derived.Test.YtcicekggeampcaaGreatSeV
import Derived.Test.YtcicekggeampcaaGreatSeX
namespace Go.Proofs.YtcicekggeampcaaGreat
open Go.RowKit
theorem build_rst : ∀ W : World, (Instr.build 34 #[]).run Tryz.prog W = .ok (.agg (SRC (.slice none 0 0) 0 0).toArray) W := fun W => by kernel_rfl
set_option maxHeartbeats 8000000 in
set_option maxRecDepth 100000 in
theorem acts_any {w : World} (id : Int) {v : Value} {L : List Ac} (h : RdG AE w v L) (ok : ∀ a ∈ L, AcOk w a) : Calls Tryz.prog 3 #[.int .i64 id, v] w fun e w' => e = .returned (.bool true) ∧ Below w.heap.size w w' := by
  have HL := hide h
  have HOK := hide ok
  obtain ⟨la, lc, rfl⟩ := h.slice
  have hn := Nat.le_trans h.cap h.max
  obtain ⟨n, HN⟩ : ∃ n, Hid (L.length = n) := ⟨_, rfl⟩
  rw [HN.out] at HL hn ⊢
  have hz := Zact15
  have hzr := zeroR
  have hbs := build_rst
  have C1 := hide (light_any HL.out HOK.out)
  clear h ok
  go_enter Tryz.func3, Tryz.ntmps3
  go_wp2_with fail
  refine C1.out.mono ?_
  rintro e w1 ⟨g1, rfl, hg1, hb⟩
  have L1 := hide hb
  have HG1 : Hid (g1 = true → Light L) := hg1
  clear hb hg1 C1
  cases g1 with
  | false =>
    have CV := hide (lives_any w1)
    go_wp2_with fail
    refine CV.out.mono ?_
    rintro e w4 ⟨rfl, hb4⟩
    have L4 : Hid (Below w.heap.size w w4) := (show Below _ _ _ from L1.out.trans (hb4.mono L1.out.size))
    clear hb4
    go_wp2_with fail
    go_ret
    exact ⟨rfl, L4.out⟩
  | true =>
    have HLG := hide (HG1.out rfl)
    have hn60 : n ≤ 60 := by rw [← HN.out]; exact HLG.out.1
    by_cases hid : 1 ≤ id ∧ id ≤ 8
    · have CX := hide (zNew_any w1 id hid.1 hid.2)
      go_wp2_with fail
      refine CX.out.mono ?_
      rintro e w2 ⟨X, rfl, hXe, hs, hb⟩
      have S2 : Hid (SesAt w2 w.heap.size X id none) := (show SesAt _ _ _ _ _ from ⟨hs.x, Nat.le_trans L1.out.size hs.lo, hs.id, fun _ _ e => by cases e⟩)
      have L2 : Hid (Below w.heap.size w w2) := (show Below _ _ _ from L1.out.trans (hb.mono L1.out.size))
      have CY := hide (yNew_any w2 id hid.1 hid.2)
      clear CX hs hb hXe
      go_wp2_with fail
      refine CY.out.mono ?_
      rintro e w3 ⟨Y, rfl, hs, hb⟩
      have Y3 : Hid (YAt w3 w.heap.size Y id none) := (show YAt _ _ _ _ _ from ⟨hs.x, Nat.le_trans L2.out.size hs.lo, fun _ _ e => by cases e⟩)
      have HXY : Hid (X ≠ Y) := (show X ≠ Y by have := S2.out.x.lt; have := hs.lo; omega)
      have S3 := hide (S2.out.kept hb)
      have L3 : Hid (Below w.heap.size w w3) := (show Below _ _ _ from L2.out.trans (hb.mono L2.out.size))
      have CN := hide (ls_new (w := w3))
      clear CY hs hb S2
      go_wp2_with fail
      refine CN.out.mono ?_
      rintro e w4 ⟨D, rfl, hl⟩
      obtain ⟨R, HR⟩ : ∃ R, Hid (w4.heap.size = R) := ⟨_, rfl⟩
      obtain ⟨w5, hw5⟩ : ∃ x, x = w4.alloc (.cells (SRC (.slice none 0 0) 0 0).toArray 34 (0, 0)) := ⟨_, rfl⟩
      obtain ⟨b5, l5⟩ := newB HR hw5
      have HW5 := hide hw5
      have T5 := hide (Two.new S3.out Y3.out HXY.out (lr_new hl l5.out (Nat.le_of_eq HR.out) b5.out) L3.out)
      clear hl hw5 CN
      go_upto_region 9 with fail
      change Code.wp _ _ _ _ (w4.alloc (.cells (SRC (.slice none 0 0) 0 0).toArray 34 (0, 0)))
      rw [← HW5.out, HR.out]
      go_wp2_with fail
      go_loopg [36] (n + 1) (fun g z wr => ∃ (i : Nat) (s : SP) (t : Option Tx), i ≤ n ∧ g + i = n + 1 ∧ z = .int .i64 (i : Int) ∧ Hid (Two (fun _ => False) w wr D R (2 * i) s s X Y id t t))
      case atStart => exact ⟨0, _, _, Nat.zero_le _, by omega, rfl, T5⟩
      case round =>
        clear T5
        obtain ⟨i, s, t, hi, hg, rfl, DR⟩ := hrel
        by_cases hlt : i < n
        · have q1 : (i : Int) < (n : Int) := by omega
          have hlt' : i < L.length := by rw [HN.out]; exact hlt
          obtain ⟨ab, aoff, rfl, hab, hax⟩ := (HL.out.kept DR.out.lo).nth (by omega)
          have har : wr.rangeAt ab (aoff + i * 6) (AC L[i]) := hax i hlt'
          have HAK := hide (HOK.out L[i] (List.getElem_mem hlt'))
          have HLI := hide (HLG.out.2 L[i] (List.getElem_mem hlt'))
          obtain ⟨p, HPp⟩ : ∃ p, Hid (L[i] = p) := ⟨L[i], (show L[i] = L[i] from rfl)⟩
          rw [HPp.out] at har HAK HLI
          obtain ⟨E, HE⟩ : ∃ E, Hid (wr.heap.size = E) := ⟨_, rfl⟩
          obtain ⟨w6, hw6⟩ : ∃ x, x = wr.alloc (.cells (AC p).toArray 37 (0, 0)) := ⟨_, rfl⟩
          obtain ⟨B6, G6⟩ := newB HE hw6
          have HW6 := hide hw6
          have D6 := hide (DR.out.kept G6.out)
          have CA := hide (act15_any D6.out (by omega) HAK.out (Nat.le_trans HLI.out.1 (by decide)) HLI.out.2.1 HLI.out.2.2)
          clear hax hab hw6
          go_upto_region 12 with (first
            | (refine wpList_load_mid rfl 37 _ rfl ab (aoff + i * 6) rfl (AC p) _ har Tryz.underlying37 rfl Tryz.size37 ?_)
            | (refine wpList_store_new rfl 37 _ _ rfl wr _ (AC p).toArray _ rfl rfl rfl Tryz.size37 rfl (all_one (AC_one p)) ?_; rw [← HW6.out, HE.out])
            | fail)
          clear har
          go_wp2_with (first
            | (refine wpList_load_mid rfl 37 _ rfl E 0 rfl (AC p) _ B6.out.range0 Tryz.underlying37 rfl Tryz.size37 ?_)
            | fail)
          refine CA.out.mono ?_
          rintro e w7 ⟨rfl, s1, t1, ht7⟩
          have T7 := hide ht7
          have CR := hide T7.out.zrec
          obtain ⟨zb, HZB⟩ : ∃ x, Hid (t1.isSome = x) := ⟨_, rfl⟩
          rw [HZB.out] at CR
          clear ht7 CA D6 B6
          go_wp2_with fail
          refine CR.out.mono ?_
          rintro e w8 ⟨rp, rfl, hrp, hb8⟩
          obtain ⟨E8, HE8⟩ : ∃ E, Hid (w8.heap.size = E) := ⟨_, rfl⟩
          obtain ⟨w9, hw9⟩ : ∃ x, x = w8.alloc (.cells (RC rp).toArray 41 (0, 0)) := ⟨_, rfl⟩
          obtain ⟨B9, G9⟩ := newB HE8 hw9
          have HW9 := hide hw9
          have G79 : Hid (Below w7.heap.size w7 w9) := (show Below _ _ _ from hb8.trans (G9.out.mono hb8.size))
          have T9 := hide (T7.out.kept G79.out)
          have P9 := hide (hrp.kept G9.out)
          have CQ := hide T9.out.yrec
          rw [HZB.out] at CQ
          clear hrp hb8 hw9 CR
          go_upto_region 15 with (first
            | (refine wpList_store_new rfl 41 _ _ rfl w8 _ (RC rp).toArray _ rfl rfl rfl Tryz.size41 rfl (all_one (RC_one rp)) ?_; rw [← HW9.out, HE8.out])
            | fail)
          go_wp2_with fail
          refine CQ.out.mono ?_
          rintro e w10 ⟨rq, rfl, hrq, hb10⟩
          obtain ⟨E10, HE10⟩ : ∃ E, Hid (w10.heap.size = E) := ⟨_, rfl⟩
          obtain ⟨w11, hw11⟩ : ∃ x, x = w10.alloc (.cells (RC rq).toArray 41 (0, 0)) := ⟨_, rfl⟩
          obtain ⟨B11, G11⟩ := newB HE10 hw11
          have HW11 := hide hw11
          have G911 : Hid (Below w9.heap.size w9 w11) := (show Below _ _ _ from hb10.trans (G11.out.mono hb10.size))
          have T11 := hide (T9.out.kept G911.out)
          have P11 := hide (P9.out.kept G911.out)
          have Q11 := hide (hrq.kept G11.out)
          have BP11 := hide (B9.out.kept G911.out)
          clear hrq hb10 hw11 CQ
          go_upto_region 16 with (first
            | (refine wpList_store_new rfl 41 _ _ rfl w10 _ (RC rq).toArray _ rfl rfl rfl Tryz.size41 rfl (all_one (RC_one rq)) ?_; rw [← HW11.out, HE10.out])
            | fail)
          have CS : Hid (∀ W : World, Below w11.heap.size w11 W → Calls Tryz.prog 12 #[.agg (RC rp).toArray, .agg (RC rq).toArray] W fun e w' => e = .returned (.bool true) ∧ Below W.heap.size W w') := (show _ from fun W hW => same14_any (P11.out.kept hW) (Q11.out.kept hW))
          have CO : Hid (∀ W : World, Below w11.heap.size w11 W → Calls Tryz.prog 13 #[PT X] W fun e w' => e = .returned (.bool zb) ∧ w' = W) := (show _ from fun W hW => by have := (T11.out.kept hW).zopen; rw [HZB.out] at this; exact this)
          have CP : Hid (∀ W : World, Below w11.heap.size w11 W → Calls Tryz.prog 14 #[PT X] W fun e w' => e = .returned (.int .i64 (snapO t1)) ∧ w' = W) := (show _ from fun W hW => (T11.out.kept hW).zsnap)
          have CT : Hid (∀ W : World, Below w11.heap.size w11 W → Calls Tryz.prog 15 #[PT X] W fun e w' => e = .returned (.int .i64 (opsO t1)) ∧ w' = W) := (show _ from fun W hW => (T11.out.kept hW).zops)
          obtain ⟨sn, HSN⟩ : ∃ x, Hid (snapO t1 = x) := ⟨_, rfl⟩
          obtain ⟨on, HON⟩ : ∃ x, Hid (opsO t1 = x) := ⟨_, rfl⟩
          have Y1 : Hid (∀ W : World, Below w11.heap.size w11 W → W.cell? ⟨Y, 1, none⟩ = some (.bool zb)) := (show _ from fun W hW => by have := (T11.out.kept hW).ycells.1; rw [HZB.out] at this; exact this)
          have Y2 : Hid (∀ W : World, Below w11.heap.size w11 W → W.cell? ⟨Y, 2, none⟩ = some (.int .i64 sn)) := (show _ from fun W hW => by have := (T11.out.kept hW).ycells.2.1; rw [HSN.out] at this; exact this)
          have Y4 : Hid (∀ W : World, Below w11.heap.size w11 W → W.cell? ⟨Y, 4, none⟩ = some (.int .i64 (on : Int))) := (show _ from fun W hW => by have := (T11.out.kept hW).ycells.2.2; rw [HON.out] at this; exact this)
          rw [HSN.out] at CP
          rw [HON.out] at CT
          refine wp_region_inv Tryz.mixed (KS (fun i_ => match i_ with | 0 | 1 | 11 | 15 => .val (.bool zb) | 2 | 3 | 7 | 8 | 9 | 16 | 17 | 18 | 25 | 26 | 27 | 34 | 35 => .val (.bool false) | 4 => .val (.agg (RC rp).toArray) | 5 => .val (.agg (RC rq).toArray) | 6 => .val (.bool true) | 10 | 19 | 28 => .val (PT X) | 12 | 21 | 30 => .val (PT Y) | 13 | 22 | 31 => .val (.pointer (some ⟨Y, 0, none⟩)) | 14 => .val (.pointer (some ⟨Y, 1, none⟩)) | 20 | 24 => .val (.int .i64 sn) | 23 => .val (.pointer (some ⟨Y, 2, none⟩)) | 29 | 33 => .val (.int .i64 (on : Int)) | 32 => .val (.pointer (some ⟨Y, 4, none⟩)) | _ => .free)) 95 rfl (by decide +kernel) (KS_mono _) ?_ ?_
          · refine AllFrom.cons (fun a' w' hg hk hd => ?_) (AllFrom.cons (fun a' w' hg hk hd => ?_) (AllFrom.cons (fun a' w' hg hk hd => ?_) (AllFrom.cons (fun a' w' hg hk hd => ?_) (AllFrom.cons (fun a' w' hg hk hd => ?_) (AllFrom.cons (fun a' w' hg hk hd => ?_) (AllFrom.cons (fun a' w' hg hk hd => ?_) (AllFrom.cons (fun a' w' hg hk hd => ?_) (AllFrom.cons (fun a' w' hg hk hd => ?_) (AllFrom.cons (fun a' w' hg hk hd => ?_) (AllFrom.cons (fun a' w' hg hk hd => ?_) (AllFrom.cons (fun a' w' hg hk hd => ?_) (AllFrom.cons (fun a' w' hg hk hd => ?_) (AllFrom.cons (fun a' w' hg hk hd => ?_) (AllFrom.cons (fun a' w' hg hk hd => ?_) (AllFrom.cons (fun a' w' hg hk hd => ?_) (AllFrom.cons (fun a' w' hg hk hd => ?_) (AllFrom.cons (fun a' w' hg hk hd => ?_) (AllFrom.cons (fun a' w' hg hk hd => ?_) (AllFrom.cons (fun a' w' hg hk hd => ?_) (AllFrom.cons (fun a' w' hg hk hd => ?_) (AllFrom.cons (fun a' w' hg hk hd => ?_) (AllFrom.cons (fun a' w' hg hk hd => ?_) (AllFrom.cons (fun a' w' hg hk hd => ?_) (AllFrom.cons (fun a' w' hg hk hd => ?_) (AllFrom.cons (fun a' w' hg hk hd => ?_) (AllFrom.cons (fun a' w' hg hk hd => ?_) (AllFrom.cons (fun a' w' hg hk hd => ?_) (AllFrom.cons (fun a' w' hg hk hd => ?_) (AllFrom.cons (fun a' w' hg hk hd => ?_) (AllFrom.cons (fun a' w' hg hk hd => ?_) (AllFrom.cons (fun a' w' hg hk hd => ?_) (AllFrom.cons (fun a' w' hg hk hd => ?_) (AllFrom.cons (fun a' w' hg hk hd => ?_) (AllFrom.cons (fun a' w' hg hk hd => ?_) (AllFrom.cons (fun a' w' hg hk hd => ?_) AllFrom.nil)))))))))))))))))))))))))))))))))))
            · skip
              intro Q
              have e12 : a'.eval (.tmp 12) = .bool zb := hk.at 12 (by decide +kernel)
              exact wp_value _ (by simp only [execOp, e12]; rfl) (KS_mkv rfl rfl)
            · skip
              intro Q
              have e14 : a'.eval (.tmp 14) = .bool zb := hk.at 14 (by decide +kernel)
              exact wp_value _ (by simp only [execOp, e14]; rfl) (KS_mkv rfl rfl)
            · skip
              intro Q
              have e57 : a'.eval (.tmp 57) = .bool zb := KS_val (hd.val 0 57 (by decide +kernel)) rfl
              have e58 : a'.eval (.tmp 58) = .bool zb := KS_val (hd.val 1 58 (by decide +kernel)) rfl
              clear hd hk
              exact wp_value (.bool false) (by simp only [execOp, e57, e58]; go_simp) (KS_mkv rfl rfl)
            · skip
              intro Q
              have e59 : a'.eval (.tmp 59) = .bool false := KS_val (hd.val 2 59 (by decide +kernel)) rfl
              exact wp_value _ (by simp only [execOp, e59]; rfl) (KS_mkv rfl rfl)
            · skip
              have eg : a'.eval (.tmp 60) = .bool false := KS_val (hd.val 3 60 (by decide +kernel)) rfl
              refine ⟨60, false, rfl, eg, fun _ Q => ?_, fun h => absurd rfl h⟩
              have e11 : a'.eval (.tmp 11) = .pointer (some ⟨E8, 0, none⟩) := hk.at 11 (by decide +kernel)
              exact wp_load_row 41 _ rfl _ _ e11 (RC rp) _ ((BP11.out.kept hg).range0) Tryz.underlying41 rfl (Tryz.size41) (KS_mkv rfl rfl)
            · skip
              have eg : a'.eval (.tmp 60) = .bool false := KS_val (hd.val 3 60 (by decide +kernel)) rfl
              refine ⟨60, false, rfl, eg, fun _ Q => ?_, fun h => absurd rfl h⟩
              have e13 : a'.eval (.tmp 13) = .pointer (some ⟨E10, 0, none⟩) := hk.at 13 (by decide +kernel)
              exact wp_load_row 41 _ rfl _ _ e13 (RC rq) _ ((B11.out.kept hg).range0) Tryz.underlying41 rfl (Tryz.size41) (KS_mkv rfl rfl)
            · skip
              have eg : a'.eval (.tmp 60) = .bool false := KS_val (hd.val 3 60 (by decide +kernel)) rfl
              refine ⟨60, false, rfl, eg, fun _ Q => ?_, fun h => absurd rfl h⟩
              have e61 : a'.eval (.tmp 61) = .agg (RC rp).toArray := KS_val (hd.val 4 61 (by decide +kernel)) rfl
              have e62 : a'.eval (.tmp 62) = .agg (RC rq).toArray := KS_val (hd.val 5 62 (by decide +kernel)) rfl
              refine wp_call 12 _ (run_enter 12 _ _ rfl (by kernel_rfl)) ?_
              simp only [List.map_toArray, List.map_nil, List.map_cons, e61, e62]
              refine (CS.out _ hg).mono ?_
              rintro e w5 ⟨rfl, hb5⟩
              exact ⟨_, rfl, KS_mkv rfl rfl, hb5⟩
            · skip
              have eg : a'.eval (.tmp 60) = .bool false := KS_val (hd.val 3 60 (by decide +kernel)) rfl
              refine ⟨60, false, rfl, eg, fun _ Q => ?_, fun h => absurd rfl h⟩
              have e63 : a'.eval (.tmp 63) = .bool true := KS_val (hd.val 6 63 (by decide +kernel)) rfl
              clear hd hk
              exact wp_value (.bool false) (by simp only [execOp, e63]; go_simp) (KS_mkv rfl rfl)
            · skip
              intro Q
              have e60 : a'.eval (.tmp 60) = .bool false := KS_val (hd.val 3 60 (by decide +kernel)) rfl
              have e64 : a'.eval (.tmp 64) = .bool false := KS_val (hd.val 7 64 (by decide +kernel)) rfl
              clear hd hk
              exact wp_value (.bool false) (by simp only [execOp, e60, e64]; go_simp) (KS_mkv rfl rfl)
            · skip
              intro Q
              have e65 : a'.eval (.tmp 65) = .bool false := KS_val (hd.val 8 65 (by decide +kernel)) rfl
              exact wp_value _ (by simp only [execOp, e65]; rfl) (KS_mkv rfl rfl)
            · skip
              have eg : a'.eval (.tmp 66) = .bool false := KS_val (hd.val 9 66 (by decide +kernel)) rfl
              refine ⟨66, false, rfl, eg, fun _ Q => ?_, fun h => absurd rfl h⟩
              have e5 : a'.eval (.tmp 5) = PT X := hk.at 5 (by decide +kernel)
              exact wp_value _ (by simp only [execOp, e5]; rfl) (KS_mkv rfl rfl)
            · skip
              have eg : a'.eval (.tmp 66) = .bool false := KS_val (hd.val 9 66 (by decide +kernel)) rfl
              refine ⟨66, false, rfl, eg, fun _ Q => ?_, fun h => absurd rfl h⟩
              have e67 : a'.eval (.tmp 67) = PT X := KS_val (hd.val 10 67 (by decide +kernel)) rfl
              refine wp_call 13 _ (run_enter 13 _ _ rfl (by kernel_rfl)) ?_
              simp only [List.map_toArray, List.map_nil, List.map_cons, e67]
              refine (CO.out _ hg).mono ?_
              rintro e w5 ⟨rfl, rfl⟩
              exact ⟨_, rfl, KS_mkv rfl rfl, Below.refl _ _⟩
            · skip
              have eg : a'.eval (.tmp 66) = .bool false := KS_val (hd.val 9 66 (by decide +kernel)) rfl
              refine ⟨66, false, rfl, eg, fun _ Q => ?_, fun h => absurd rfl h⟩
              have e6 : a'.eval (.tmp 6) = PT Y := hk.at 6 (by decide +kernel)
              exact wp_value _ (by simp only [execOp, e6]; rfl) (KS_mkv rfl rfl)
            · skip
              have eg : a'.eval (.tmp 66) = .bool false := KS_val (hd.val 9 66 (by decide +kernel)) rfl
              refine ⟨66, false, rfl, eg, fun _ Q => ?_, fun h => absurd rfl h⟩
              have e69 : a'.eval (.tmp 69) = PT Y := KS_val (hd.val 12 69 (by decide +kernel)) rfl
              clear hd hk
              exact wp_value (.pointer (some ⟨Y, 0, none⟩)) (by simp only [execOp, e69]; go_simp) (KS_mkv rfl rfl)
            · skip
              have eg : a'.eval (.tmp 66) = .bool false := KS_val (hd.val 9 66 (by decide +kernel)) rfl
              refine ⟨66, false, rfl, eg, fun _ Q => ?_, fun h => absurd rfl h⟩
              have e70 : a'.eval (.tmp 70) = .pointer (some ⟨Y, 0, none⟩) := KS_val (hd.val 13 70 (by decide +kernel)) rfl
              clear hd hk
              exact wp_value (.pointer (some ⟨Y, 1, none⟩)) (by simp only [execOp, e70]; go_simp) (KS_mkv rfl rfl)
            · skip
              have eg : a'.eval (.tmp 66) = .bool false := KS_val (hd.val 9 66 (by decide +kernel)) rfl
              refine ⟨66, false, rfl, eg, fun _ Q => ?_, fun h => absurd rfl h⟩
              have e71 : a'.eval (.tmp 71) = .pointer (some ⟨Y, 1, none⟩) := KS_val (hd.val 14 71 (by decide +kernel)) rfl
              have hc := Y1.out _ hg
              clear hd hk
              exact wp_value (.bool zb) (by simp only [execOp, e71]; go_simp) (KS_mkv rfl rfl)
            · skip
              have eg : a'.eval (.tmp 66) = .bool false := KS_val (hd.val 9 66 (by decide +kernel)) rfl
              refine ⟨66, false, rfl, eg, fun _ Q => ?_, fun h => absurd rfl h⟩
              have e68 : a'.eval (.tmp 68) = .bool zb := KS_val (hd.val 11 68 (by decide +kernel)) rfl
              have e72 : a'.eval (.tmp 72) = .bool zb := KS_val (hd.val 15 72 (by decide +kernel)) rfl
              clear hd hk
              exact wp_value (.bool false) (by simp only [execOp, e68, e72]; go_simp) (KS_mkv rfl rfl)
            · skip
              intro Q
              have e66 : a'.eval (.tmp 66) = .bool false := KS_val (hd.val 9 66 (by decide +kernel)) rfl
              have e73 : a'.eval (.tmp 73) = .bool false := KS_val (hd.val 16 73 (by decide +kernel)) rfl
              clear hd hk
              exact wp_value (.bool false) (by simp only [execOp, e66, e73]; go_simp) (KS_mkv rfl rfl)
            · skip
              intro Q
              have e74 : a'.eval (.tmp 74) = .bool false := KS_val (hd.val 17 74 (by decide +kernel)) rfl
              exact wp_value _ (by simp only [execOp, e74]; rfl) (KS_mkv rfl rfl)
            · skip
              have eg : a'.eval (.tmp 75) = .bool false := KS_val (hd.val 18 75 (by decide +kernel)) rfl
              refine ⟨75, false, rfl, eg, fun _ Q => ?_, fun h => absurd rfl h⟩
              have e5 : a'.eval (.tmp 5) = PT X := hk.at 5 (by decide +kernel)
              exact wp_value _ (by simp only [execOp, e5]; rfl) (KS_mkv rfl rfl)
            · skip
              have eg : a'.eval (.tmp 75) = .bool false := KS_val (hd.val 18 75 (by decide +kernel)) rfl
              refine ⟨75, false, rfl, eg, fun _ Q => ?_, fun h => absurd rfl h⟩
              have e76 : a'.eval (.tmp 76) = PT X := KS_val (hd.val 19 76 (by decide +kernel)) rfl
              refine wp_call 14 _ (run_enter 14 _ _ rfl (by kernel_rfl)) ?_
              simp only [List.map_toArray, List.map_nil, List.map_cons, e76]
              refine (CP.out _ hg).mono ?_
              rintro e w5 ⟨rfl, rfl⟩
              exact ⟨_, rfl, KS_mkv rfl rfl, Below.refl _ _⟩
            · skip
              have eg : a'.eval (.tmp 75) = .bool false := KS_val (hd.val 18 75 (by decide +kernel)) rfl
              refine ⟨75, false, rfl, eg, fun _ Q => ?_, fun h => absurd rfl h⟩
              have e6 : a'.eval (.tmp 6) = PT Y := hk.at 6 (by decide +kernel)
              exact wp_value _ (by simp only [execOp, e6]; rfl) (KS_mkv rfl rfl)
            · skip
              have eg : a'.eval (.tmp 75) = .bool false := KS_val (hd.val 18 75 (by decide +kernel)) rfl
              refine ⟨75, false, rfl, eg, fun _ Q => ?_, fun h => absurd rfl h⟩
              have e78 : a'.eval (.tmp 78) = PT Y := KS_val (hd.val 21 78 (by decide +kernel)) rfl
              clear hd hk
              exact wp_value (.pointer (some ⟨Y, 0, none⟩)) (by simp only [execOp, e78]; go_simp) (KS_mkv rfl rfl)
            · skip
              have eg : a'.eval (.tmp 75) = .bool false := KS_val (hd.val 18 75 (by decide +kernel)) rfl
              refine ⟨75, false, rfl, eg, fun _ Q => ?_, fun h => absurd rfl h⟩
              have e79 : a'.eval (.tmp 79) = .pointer (some ⟨Y, 0, none⟩) := KS_val (hd.val 22 79 (by decide +kernel)) rfl
              clear hd hk
              exact wp_value (.pointer (some ⟨Y, 2, none⟩)) (by simp only [execOp, e79]; go_simp) (KS_mkv rfl rfl)
            · skip
              have eg : a'.eval (.tmp 75) = .bool false := KS_val (hd.val 18 75 (by decide +kernel)) rfl
              refine ⟨75, false, rfl, eg, fun _ Q => ?_, fun h => absurd rfl h⟩
              have e80 : a'.eval (.tmp 80) = .pointer (some ⟨Y, 2, none⟩) := KS_val (hd.val 23 80 (by decide +kernel)) rfl
              have hc := Y2.out _ hg
              clear hd hk
              exact wp_value (.int .i64 sn) (by simp only [execOp, e80]; go_simp) (KS_mkv rfl rfl)
            · skip
              have eg : a'.eval (.tmp 75) = .bool false := KS_val (hd.val 18 75 (by decide +kernel)) rfl
              refine ⟨75, false, rfl, eg, fun _ Q => ?_, fun h => absurd rfl h⟩
              have e77 : a'.eval (.tmp 77) = .int .i64 sn := KS_val (hd.val 20 77 (by decide +kernel)) rfl
              have e81 : a'.eval (.tmp 81) = .int .i64 sn := KS_val (hd.val 24 81 (by decide +kernel)) rfl
              clear hd hk
              exact wp_value (.bool false) (by simp only [execOp, e77, e81]; go_simp) (KS_mkv rfl rfl)
            · skip
              intro Q
              have e75 : a'.eval (.tmp 75) = .bool false := KS_val (hd.val 18 75 (by decide +kernel)) rfl
              have e82 : a'.eval (.tmp 82) = .bool false := KS_val (hd.val 25 82 (by decide +kernel)) rfl
              clear hd hk
              exact wp_value (.bool false) (by simp only [execOp, e75, e82]; go_simp) (KS_mkv rfl rfl)
            · skip
              intro Q
              have e83 : a'.eval (.tmp 83) = .bool false := KS_val (hd.val 26 83 (by decide +kernel)) rfl
              exact wp_value _ (by simp only [execOp, e83]; rfl) (KS_mkv rfl rfl)
            · skip
              have eg : a'.eval (.tmp 84) = .bool false := KS_val (hd.val 27 84 (by decide +kernel)) rfl
              refine ⟨84, false, rfl, eg, fun _ Q => ?_, fun h => absurd rfl h⟩
              have e5 : a'.eval (.tmp 5) = PT X := hk.at 5 (by decide +kernel)
              exact wp_value _ (by simp only [execOp, e5]; rfl) (KS_mkv rfl rfl)
            · skip
              have eg : a'.eval (.tmp 84) = .bool false := KS_val (hd.val 27 84 (by decide +kernel)) rfl
              refine ⟨84, false, rfl, eg, fun _ Q => ?_, fun h => absurd rfl h⟩
              have e85 : a'.eval (.tmp 85) = PT X := KS_val (hd.val 28 85 (by decide +kernel)) rfl
              refine wp_call 15 _ (run_enter 15 _ _ rfl (by kernel_rfl)) ?_
              simp only [List.map_toArray, List.map_nil, List.map_cons, e85]
              refine (CT.out _ hg).mono ?_
              rintro e w5 ⟨rfl, rfl⟩
              exact ⟨_, rfl, KS_mkv rfl rfl, Below.refl _ _⟩
            · skip
              have eg : a'.eval (.tmp 84) = .bool false := KS_val (hd.val 27 84 (by decide +kernel)) rfl
              refine ⟨84, false, rfl, eg, fun _ Q => ?_, fun h => absurd rfl h⟩
              have e6 : a'.eval (.tmp 6) = PT Y := hk.at 6 (by decide +kernel)
              exact wp_value _ (by simp only [execOp, e6]; rfl) (KS_mkv rfl rfl)
            · skip
              have eg : a'.eval (.tmp 84) = .bool false := KS_val (hd.val 27 84 (by decide +kernel)) rfl
              refine ⟨84, false, rfl, eg, fun _ Q => ?_, fun h => absurd rfl h⟩
              have e87 : a'.eval (.tmp 87) = PT Y := KS_val (hd.val 30 87 (by decide +kernel)) rfl
              clear hd hk
              exact wp_value (.pointer (some ⟨Y, 0, none⟩)) (by simp only [execOp, e87]; go_simp) (KS_mkv rfl rfl)
            · skip
              have eg : a'.eval (.tmp 84) = .bool false := KS_val (hd.val 27 84 (by decide +kernel)) rfl
              refine ⟨84, false, rfl, eg, fun _ Q => ?_, fun h => absurd rfl h⟩
              have e88 : a'.eval (.tmp 88) = .pointer (some ⟨Y, 0, none⟩) := KS_val (hd.val 31 88 (by decide +kernel)) rfl
              clear hd hk
              exact wp_value (.pointer (some ⟨Y, 4, none⟩)) (by simp only [execOp, e88]; go_simp) (KS_mkv rfl rfl)
            · skip
              have eg : a'.eval (.tmp 84) = .bool false := KS_val (hd.val 27 84 (by decide +kernel)) rfl
              refine ⟨84, false, rfl, eg, fun _ Q => ?_, fun h => absurd rfl h⟩
              have e89 : a'.eval (.tmp 89) = .pointer (some ⟨Y, 4, none⟩) := KS_val (hd.val 32 89 (by decide +kernel)) rfl
              have hc := Y4.out _ hg
              clear hd hk
              exact wp_value (.int .i64 (on : Int)) (by simp only [execOp, e89]; go_simp) (KS_mkv rfl rfl)
            · skip
              have eg : a'.eval (.tmp 84) = .bool false := KS_val (hd.val 27 84 (by decide +kernel)) rfl
              refine ⟨84, false, rfl, eg, fun _ Q => ?_, fun h => absurd rfl h⟩
              have e86 : a'.eval (.tmp 86) = .int .i64 (on : Int) := KS_val (hd.val 29 86 (by decide +kernel)) rfl
              have e90 : a'.eval (.tmp 90) = .int .i64 (on : Int) := KS_val (hd.val 33 90 (by decide +kernel)) rfl
              clear hd hk
              exact wp_value (.bool false) (by simp only [execOp, e86, e90]; go_simp) (KS_mkv rfl rfl)
            · skip
              intro Q
              have e84 : a'.eval (.tmp 84) = .bool false := KS_val (hd.val 27 84 (by decide +kernel)) rfl
              have e91 : a'.eval (.tmp 91) = .bool false := KS_val (hd.val 34 91 (by decide +kernel)) rfl
              clear hd hk
              exact wp_value (.bool false) (by simp only [execOp, e84, e91]; go_simp) (KS_mkv rfl rfl)
          · intro a' w12 hsz hdf hk hall hg
            have e57 : a'.eval (.tmp 57) = .bool zb := KS_val (hall 0 _ 57 rfl rfl) rfl
            have e58 : a'.eval (.tmp 58) = .bool zb := KS_val (hall 1 _ 58 rfl rfl) rfl
            have e59 : a'.eval (.tmp 59) = .bool false := KS_val (hall 2 _ 59 rfl rfl) rfl
            have e60 : a'.eval (.tmp 60) = .bool false := KS_val (hall 3 _ 60 rfl rfl) rfl
            have e61 : a'.eval (.tmp 61) = .agg (RC rp).toArray := KS_val (hall 4 _ 61 rfl rfl) rfl
            have e62 : a'.eval (.tmp 62) = .agg (RC rq).toArray := KS_val (hall 5 _ 62 rfl rfl) rfl
            have e63 : a'.eval (.tmp 63) = .bool true := KS_val (hall 6 _ 63 rfl rfl) rfl
            have e64 : a'.eval (.tmp 64) = .bool false := KS_val (hall 7 _ 64 rfl rfl) rfl
            have e65 : a'.eval (.tmp 65) = .bool false := KS_val (hall 8 _ 65 rfl rfl) rfl
            have e66 : a'.eval (.tmp 66) = .bool false := KS_val (hall 9 _ 66 rfl rfl) rfl
            have e67 : a'.eval (.tmp 67) = PT X := KS_val (hall 10 _ 67 rfl rfl) rfl
            have e68 : a'.eval (.tmp 68) = .bool zb := KS_val (hall 11 _ 68 rfl rfl) rfl
            have e69 : a'.eval (.tmp 69) = PT Y := KS_val (hall 12 _ 69 rfl rfl) rfl
            have e70 : a'.eval (.tmp 70) = .pointer (some ⟨Y, 0, none⟩) := KS_val (hall 13 _ 70 rfl rfl) rfl
            have e71 : a'.eval (.tmp 71) = .pointer (some ⟨Y, 1, none⟩) := KS_val (hall 14 _ 71 rfl rfl) rfl
            have e72 : a'.eval (.tmp 72) = .bool zb := KS_val (hall 15 _ 72 rfl rfl) rfl
            have e73 : a'.eval (.tmp 73) = .bool false := KS_val (hall 16 _ 73 rfl rfl) rfl
            have e74 : a'.eval (.tmp 74) = .bool false := KS_val (hall 17 _ 74 rfl rfl) rfl
            have e75 : a'.eval (.tmp 75) = .bool false := KS_val (hall 18 _ 75 rfl rfl) rfl
            have e76 : a'.eval (.tmp 76) = PT X := KS_val (hall 19 _ 76 rfl rfl) rfl
            have e77 : a'.eval (.tmp 77) = .int .i64 sn := KS_val (hall 20 _ 77 rfl rfl) rfl
            have e78 : a'.eval (.tmp 78) = PT Y := KS_val (hall 21 _ 78 rfl rfl) rfl
            have e79 : a'.eval (.tmp 79) = .pointer (some ⟨Y, 0, none⟩) := KS_val (hall 22 _ 79 rfl rfl) rfl
            have e80 : a'.eval (.tmp 80) = .pointer (some ⟨Y, 2, none⟩) := KS_val (hall 23 _ 80 rfl rfl) rfl
            have e81 : a'.eval (.tmp 81) = .int .i64 sn := KS_val (hall 24 _ 81 rfl rfl) rfl
            have e82 : a'.eval (.tmp 82) = .bool false := KS_val (hall 25 _ 82 rfl rfl) rfl
            have e83 : a'.eval (.tmp 83) = .bool false := KS_val (hall 26 _ 83 rfl rfl) rfl
            have e84 : a'.eval (.tmp 84) = .bool false := KS_val (hall 27 _ 84 rfl rfl) rfl
            have e85 : a'.eval (.tmp 85) = PT X := KS_val (hall 28 _ 85 rfl rfl) rfl
            have e86 : a'.eval (.tmp 86) = .int .i64 (on : Int) := KS_val (hall 29 _ 86 rfl rfl) rfl
            have e87 : a'.eval (.tmp 87) = PT Y := KS_val (hall 30 _ 87 rfl rfl) rfl
            have e88 : a'.eval (.tmp 88) = .pointer (some ⟨Y, 0, none⟩) := KS_val (hall 31 _ 88 rfl rfl) rfl
            have e89 : a'.eval (.tmp 89) = .pointer (some ⟨Y, 4, none⟩) := KS_val (hall 32 _ 89 rfl rfl) rfl
            have e90 : a'.eval (.tmp 90) = .int .i64 (on : Int) := KS_val (hall 33 _ 90 rfl rfl) rfl
            have e91 : a'.eval (.tmp 91) = .bool false := KS_val (hall 34 _ 91 rfl rfl) rfl
            have e92 : a'.eval (.tmp 92) = .bool false := KS_val (hall 35 _ 92 rfl rfl) rfl
            have ha := act_puts 95 rfl hsz hdf hk [57, 58, 59, 60, 61, 62, 63, 64, 65, 66, 67, 68, 69, 70, 71, 72, 73, 74, 75, 76, 77, 78, 79, 80, 81, 82, 83, 84, 85, 86, 87, 88, 89, 90, 91, 92] (by decide +kernel)
            simp only [puts, List.foldl_cons, List.foldl_nil, e57, e58, e59, e60, e61, e62, e63, e64, e65, e66, e67, e68, e69, e70, e71, e72, e73, e74, e75, e76, e77, e78, e79, e80, e81, e82, e83, e84, e85, e86, e87, e88, e89, e90, e91, e92] at ha
            simp only [Act.put, List.setIfInBounds_toArray, List.set_cons_succ, List.set_cons_zero] at ha
            clear hall hk hsz hdf e57 e58 e59 e60 e61 e62 e63 e64 e65 e66 e67 e68 e69 e70 e71 e72 e73 e74 e75 e76 e77 e78 e79 e80 e81 e82 e83 e84 e85 e86 e87 e88 e89 e90 e91 e92
            subst ha
            have T12 := hide (T11.out.kept hg)
            clear hg CS CO CP CT Y1 Y2 Y4
            go_wp2_with fail
            go_roundg (n - i)
            case measure => omega
            case rel => exact ⟨i + 1, _, _, by omega, by omega, by go_num, T12⟩
        · obtain rfl : i = n := by omega
          have q1 : ¬ (i : Int) < i := by omega
          have CV := hide (lives_any wr)
          go_wp2_with fail
          refine CV.out.mono ?_
          rintro e w6 ⟨rfl, hb6⟩
          have L6 : Hid (Below w.heap.size w w6) := (show Below _ _ _ from DR.out.lo.trans (hb6.mono DR.out.lo.size))
          clear hb6
          go_wp2_with fail
          go_ret
          exact ⟨rfl, L6.out⟩
    · have CX := hide (zNew_no w1 id (by omega))
      have CY := hide (yNew_no w1 id (by omega))
      go_wp2_with fail
      refine CX.out.mono ?_
      rintro e w_ ⟨rfl, hw⟩
      subst w_
      go_wp2_with fail
      refine CY.out.mono ?_
      rintro e w_ ⟨rfl, hw⟩
      subst w_
      have CV := hide (lives_any w1)
      go_wp2_with fail
      refine CV.out.mono ?_
      rintro e w4 ⟨rfl, hb4⟩
      have L4 : Hid (Below w.heap.size w w4) := (show Below _ _ _ from L1.out.trans (hb4.mono L1.out.size))
      clear hb4
      go_wp2_with fail
      go_ret
      exact ⟨rfl, L4.out⟩
end Go.Proofs.YtcicekggeampcaaGreat
