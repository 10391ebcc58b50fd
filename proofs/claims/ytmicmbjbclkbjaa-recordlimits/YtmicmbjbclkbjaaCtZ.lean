/-
  The reference's SameReads: what the call does.
-/
import Derived.Test.YtmicmbjbclkbjaaCtY
import Derived.Test.YtmicmbjbclkbjaaRcB
namespace Go.Proofs.Ytmicmbjbclkbjaa
open Go.RowKit
theorem bne_run (a b : Bool) : ∀ W, (binOp .neq 4 (.bool a) (.bool b)).run Try.prog W = .ok (.bool (a != b)) W := fun W => by
  cases a <;> cases b <;> kernel_rfl
theorem eqg_b (x y : Operand) (a b : Bool) : ∀ W, (eqGuard .neq 4 x y (.bool a) (.bool b)).run Try.prog W = .ok () W := fun W => by
  simp [eqGuard, go_sem]
theorem eqg_s (x y : Operand) (a b : ByteArray) : ∀ W, (eqGuard .neq 9 x y (.string a) (.string b)).run Try.prog W = .ok () W := fun W => by
  simp [eqGuard, go_sem]
theorem sne_run (a b : ByteArray) : ∀ W, (binOp .neq 9 (.string a) (.string b)).run Try.prog W = .ok (.bool (!decide (a = b))) W := fun W => by
  have e : (a.toList == b.toList) = decide (a = b) := by
    rw [Bool.eq_iff_iff, beq_iff_eq, decide_eq_true_eq]
    exact ba_inj
  simp [binOp, Op.stringOp, go_sem]
  by_cases h : a = b
  · simp [h]
  · have : ¬ a.toList = b.toList := fun e => h (ba_inj.1 e)
    simp [h, this]
set_option maxHeartbeats 4000000 in
set_option maxRecDepth 100000 in
theorem sameX_any {w : World} {va vb : Value} {A B : List Rz} (hA : RdX w va A) (hB : RdX w vb B) (z : Bool) (hz : z = true ↔ A.map plR = B.map plR) : Calls Try.prog 23 #[va, vb] w fun e w' => e = .returned (.bool z) ∧ Below w.heap.size w w' := by
  have H4 := hide hA
  have H5 := hide hB
  obtain ⟨a, ca, rfl⟩ := hA.rd.slice
  obtain ⟨b, cb, rfl⟩ := hB.rd.slice
  have hm := Nat.le_trans hA.rd.cap hA.rd.max
  have HZ := hide hz
  clear hA hB hz
  by_cases hlen : A.length = B.length
  · obtain ⟨n, HN⟩ : ∃ n, Hid (A.length = n) := ⟨_, rfl⟩
    have HNB : Hid (B.length = n) := (show _ = _ by rw [← hlen]; exact HN.out)
    rw [HN.out] at H4 hm ⊢
    rw [HNB.out] at H5 ⊢
    have hne : ((n : Int) != (n : Int)) = false := by simp
    clear hlen
    go_enter Try.func23, Try.ntmps23
    go_wp2_with fail
    go_loopg [13] (n + 1) (fun g z wr => ∃ i : Nat, i ≤ n ∧ g + i = n + 1 ∧ z = .int .i64 (i : Int) ∧ Hid ((A.take i).map plR = (B.take i).map plR) ∧ Hid (Below w.heap.size w wr))
    case atStart => exact ⟨0, Nat.zero_le _, by omega, rfl, (show _ = _ from rfl), Below.refl _ _⟩
    case round =>
      obtain ⟨i, hi, hg, rfl, HT, BL⟩ := hrel
      by_cases hlt : i < n
      · have hltA : i < A.length := by rw [HN.out]; exact hlt
        have hltB : i < B.length := by rw [HNB.out]; exact hlt
        have RA := H4.out.kept BL.out
        have RB := H5.out.kept BL.out
        obtain ⟨ba, oa, rfl, hb1, hca⟩ := RA.rd.nth (by omega)
        obtain ⟨bb, ob, rfl, hb2, hcb⟩ := RB.rd.nth (by omega)
        have rx : wr.rangeAt ba (oa + i * 4) (XC A[i]) := hca i hltA
        have ry : wr.rangeAt bb (ob + i * 4) (XC B[i]) := hcb i hltB
        have px := RA.ps _ (List.getElem_mem hltA)
        have py := RB.ps _ (List.getElem_mem hltB)
        obtain ⟨x, HXx⟩ : ∃ x, Hid (A[i] = x) := ⟨A[i], (show A[i] = A[i] from rfl)⟩
        obtain ⟨y, HYy⟩ : ∃ y, Hid (B[i] = y) := ⟨B[i], (show B[i] = B[i] from rfl)⟩
        rw [HXx.out] at rx px
        rw [HYy.out] at ry py
        have hlt' : (i : Int) < (n : Int) := by omega
        have XP : Hid (RdG PE wr (xv x) x.ps) := px
        have YP : Hid (RdG PE wr (xv y) y.ps) := py
        have XA : Hid (∀ W, Below wr.heap.size wr W → ∀ j u, (XC x)[j]? = some u → W.cell? ⟨ba, oa + i * 4 + j, none⟩ = some u) := (show _ from fun W hW j u hj => (hW.cell (p := ⟨ba, oa + i * 4 + j, none⟩) hb1).trans (rx j u hj))
        have YA : Hid (∀ W, Below wr.heap.size wr W → ∀ j u, (XC y)[j]? = some u → W.cell? ⟨bb, ob + i * 4 + j, none⟩ = some u) := (show _ from fun W hW j u hj => (hW.cell (p := ⟨bb, ob + i * 4 + j, none⟩) hb2).trans (ry j u hj))
        have HD0' := bne_run x.sc y.sc
        have HD1' := sne_run x.k y.k
        have HD2' := sne_run x.t y.t
        obtain ⟨q, HQ⟩ : ∃ q, Hid (decide (x.ps = y.ps) = q) := ⟨_, rfl⟩
        clear hca hcb rx ry px py RA RB
        go_upto_region 6 with fail
        by_cases hs : x.sc = y.sc
        · have HD0 : Hid (∀ W, (binOp .neq 4 (.bool x.sc) (.bool y.sc)).run Try.prog W = .ok (.bool false) W) := (show _ from fun W => by rw [HD0', hs]; simp)
          by_cases hkk : x.k = y.k
          · have HD1 : Hid (∀ W, (binOp .neq 9 (.string x.k) (.string y.k)).run Try.prog W = .ok (.bool false) W) := (show _ from fun W => by rw [HD1', decide_eq_true hkk]; rfl)
            by_cases htt : x.t = y.t
            · have HD2 : Hid (∀ W, (binOp .neq 9 (.string x.t) (.string y.t)).run Try.prog W = .ok (.bool false) W) := (show _ from fun W => by rw [HD2', decide_eq_true htt]; rfl)
              have HS := hide hs
              have HKk := hide hkk
              have HTt := hide htt
              clear HD0' HD1' HD2' hs hkk htt
              refine wp_region_inv Try.mixed (KS (fun i_ => match i_ with | 0 | 12 | 25 | 38 => .val (.slice (some ⟨ba, oa, none⟩) n ca) | 1 | 6 | 13 | 18 | 26 | 31 | 39 | 44 => .val (.int .i64 (i : Int)) | 2 | 3 | 14 | 27 | 40 => .val (.pointer (some ⟨ba, oa + i * 4, none⟩)) | 4 => .val (.bool x.sc) | 5 | 17 | 30 | 43 => .val (.slice (some ⟨bb, ob, none⟩) n cb) | 7 | 8 | 19 | 32 | 45 => .val (.pointer (some ⟨bb, ob + i * 4, none⟩)) | 9 => .val (.bool y.sc) | 10 | 11 | 22 | 23 | 24 | 35 | 36 | 37 => .val (.bool false) | 15 => .val (.pointer (some ⟨ba, oa + i * 4 + 1, none⟩)) | 16 => .val (.string x.k) | 20 => .val (.pointer (some ⟨bb, ob + i * 4 + 1, none⟩)) | 21 => .val (.string y.k) | 28 => .val (.pointer (some ⟨ba, oa + i * 4 + 2, none⟩)) | 29 => .val (.string x.t) | 33 => .val (.pointer (some ⟨bb, ob + i * 4 + 2, none⟩)) | 34 => .val (.string y.t) | 41 => .val (.pointer (some ⟨ba, oa + i * 4 + 3, none⟩)) | 42 => .val (xv x) | 46 => .val (.pointer (some ⟨bb, ob + i * 4 + 3, none⟩)) | 47 => .val (xv y) | 48 => .val (.bool q) | 49 | 50 => .val (.bool (!q)) | _ => .free)) 68 rfl (by decide +kernel) (KS_mono _) ?_ ?_
              · refine AllFrom.cons (fun a' w' hg hk hd => ?_) (AllFrom.cons (fun a' w' hg hk hd => ?_) (AllFrom.cons (fun a' w' hg hk hd => ?_) (AllFrom.cons (fun a' w' hg hk hd => ?_) (AllFrom.cons (fun a' w' hg hk hd => ?_) (AllFrom.cons (fun a' w' hg hk hd => ?_) (AllFrom.cons (fun a' w' hg hk hd => ?_) (AllFrom.cons (fun a' w' hg hk hd => ?_) (AllFrom.cons (fun a' w' hg hk hd => ?_) (AllFrom.cons (fun a' w' hg hk hd => ?_) (AllFrom.cons (fun a' w' hg hk hd => ?_) (AllFrom.cons (fun a' w' hg hk hd => ?_) (AllFrom.cons (fun a' w' hg hk hd => ?_) (AllFrom.cons (fun a' w' hg hk hd => ?_) (AllFrom.cons (fun a' w' hg hk hd => ?_) (AllFrom.cons (fun a' w' hg hk hd => ?_) (AllFrom.cons (fun a' w' hg hk hd => ?_) (AllFrom.cons (fun a' w' hg hk hd => ?_) (AllFrom.cons (fun a' w' hg hk hd => ?_) (AllFrom.cons (fun a' w' hg hk hd => ?_) (AllFrom.cons (fun a' w' hg hk hd => ?_) (AllFrom.cons (fun a' w' hg hk hd => ?_) (AllFrom.cons (fun a' w' hg hk hd => ?_) (AllFrom.cons (fun a' w' hg hk hd => ?_) (AllFrom.cons (fun a' w' hg hk hd => ?_) (AllFrom.cons (fun a' w' hg hk hd => ?_) (AllFrom.cons (fun a' w' hg hk hd => ?_) (AllFrom.cons (fun a' w' hg hk hd => ?_) (AllFrom.cons (fun a' w' hg hk hd => ?_) (AllFrom.cons (fun a' w' hg hk hd => ?_) (AllFrom.cons (fun a' w' hg hk hd => ?_) (AllFrom.cons (fun a' w' hg hk hd => ?_) (AllFrom.cons (fun a' w' hg hk hd => ?_) (AllFrom.cons (fun a' w' hg hk hd => ?_) (AllFrom.cons (fun a' w' hg hk hd => ?_) (AllFrom.cons (fun a' w' hg hk hd => ?_) (AllFrom.cons (fun a' w' hg hk hd => ?_) (AllFrom.cons (fun a' w' hg hk hd => ?_) (AllFrom.cons (fun a' w' hg hk hd => ?_) (AllFrom.cons (fun a' w' hg hk hd => ?_) (AllFrom.cons (fun a' w' hg hk hd => ?_) (AllFrom.cons (fun a' w' hg hk hd => ?_) (AllFrom.cons (fun a' w' hg hk hd => ?_) (AllFrom.cons (fun a' w' hg hk hd => ?_) (AllFrom.cons (fun a' w' hg hk hd => ?_) (AllFrom.cons (fun a' w' hg hk hd => ?_) (AllFrom.cons (fun a' w' hg hk hd => ?_) (AllFrom.cons (fun a' w' hg hk hd => ?_) (AllFrom.cons (fun a' w' hg hk hd => ?_) (AllFrom.cons (fun a' w' hg hk hd => ?_) (AllFrom.cons (fun a' w' hg hk hd => ?_) AllFrom.nil))))))))))))))))))))))))))))))))))))))))))))))))))
                · skip
                  intro Q
                  have e0 : a'.eval (.tmp 0) = .slice (some ⟨ba, oa, none⟩) n ca := hk.at 0 (by decide +kernel)
                  exact wp_value _ (by simp only [execOp, e0]; rfl) (KS_mkv rfl rfl)
                · skip
                  intro Q
                  have e5 : a'.eval (.tmp 5) = .int .i64 (i : Int) := hk.at 5 (by decide +kernel)
                  exact wp_value _ (by simp only [execOp, e5]; rfl) (KS_mkv rfl rfl)
                · skip
                  intro Q
                  have e16 : a'.eval (.tmp 16) = .slice (some ⟨ba, oa, none⟩) n ca := KS_val (hd.val 0 16 (by decide +kernel)) rfl
                  have e17 : a'.eval (.tmp 17) = .int .i64 (i : Int) := KS_val (hd.val 1 17 (by decide +kernel)) rfl
                  clear hd hk
                  exact wp_value (.pointer (some ⟨ba, oa + i * 4, none⟩)) (by simp only [execOp, e16, e17]; go_simp) (KS_mkv rfl rfl)
                · skip
                  intro Q
                  have e18 : a'.eval (.tmp 18) = .pointer (some ⟨ba, oa + i * 4, none⟩) := KS_val (hd.val 2 18 (by decide +kernel)) rfl
                  clear hd hk
                  exact wp_value (.pointer (some ⟨ba, oa + i * 4, none⟩)) (by simp only [execOp, e18]; go_simp) (KS_mkv rfl rfl)
                · skip
                  intro Q
                  have e19 : a'.eval (.tmp 19) = .pointer (some ⟨ba, oa + i * 4, none⟩) := KS_val (hd.val 3 19 (by decide +kernel)) rfl
                  have hc := (show w'.cell? ⟨ba, oa + i * 4, none⟩ = some (.bool x.sc) from XA.out w' hg 0 (.bool x.sc) rfl)
                  clear hd hk
                  exact wp_value (.bool x.sc) (by simp only [execOp, e19]; go_simp) (KS_mkv rfl rfl)
                · skip
                  intro Q
                  have e1 : a'.eval (.tmp 1) = .slice (some ⟨bb, ob, none⟩) n cb := hk.at 1 (by decide +kernel)
                  exact wp_value _ (by simp only [execOp, e1]; rfl) (KS_mkv rfl rfl)
                · skip
                  intro Q
                  have e5 : a'.eval (.tmp 5) = .int .i64 (i : Int) := hk.at 5 (by decide +kernel)
                  exact wp_value _ (by simp only [execOp, e5]; rfl) (KS_mkv rfl rfl)
                · skip
                  intro Q
                  have e21 : a'.eval (.tmp 21) = .slice (some ⟨bb, ob, none⟩) n cb := KS_val (hd.val 5 21 (by decide +kernel)) rfl
                  have e22 : a'.eval (.tmp 22) = .int .i64 (i : Int) := KS_val (hd.val 6 22 (by decide +kernel)) rfl
                  clear hd hk
                  exact wp_value (.pointer (some ⟨bb, ob + i * 4, none⟩)) (by simp only [execOp, e21, e22]; go_simp) (KS_mkv rfl rfl)
                · skip
                  intro Q
                  have e23 : a'.eval (.tmp 23) = .pointer (some ⟨bb, ob + i * 4, none⟩) := KS_val (hd.val 7 23 (by decide +kernel)) rfl
                  clear hd hk
                  exact wp_value (.pointer (some ⟨bb, ob + i * 4, none⟩)) (by simp only [execOp, e23]; go_simp) (KS_mkv rfl rfl)
                · skip
                  intro Q
                  have e24 : a'.eval (.tmp 24) = .pointer (some ⟨bb, ob + i * 4, none⟩) := KS_val (hd.val 8 24 (by decide +kernel)) rfl
                  have hc := (show w'.cell? ⟨bb, ob + i * 4, none⟩ = some (.bool y.sc) from YA.out w' hg 0 (.bool y.sc) rfl)
                  clear hd hk
                  exact wp_value (.bool y.sc) (by simp only [execOp, e24]; go_simp) (KS_mkv rfl rfl)
                · skip
                  intro Q
                  have e20 : a'.eval (.tmp 20) = .bool x.sc := KS_val (hd.val 4 20 (by decide +kernel)) rfl
                  have e25 : a'.eval (.tmp 25) = .bool y.sc := KS_val (hd.val 9 25 (by decide +kernel)) rfl
                  exact wp_value _ (by simp only [execOp, e20, e25, Sem.run_bind, eqg_b, Result.andThen_ok]; rw [HD0.out]; rfl) (KS_mkv rfl rfl)
                · skip
                  intro Q
                  have e26 : a'.eval (.tmp 26) = .bool false := KS_val (hd.val 10 26 (by decide +kernel)) rfl
                  exact wp_value _ (by simp only [execOp, e26]; rfl) (KS_mkv rfl rfl)
                · skip
                  have eg : a'.eval (.tmp 27) = .bool false := KS_val (hd.val 11 27 (by decide +kernel)) rfl
                  refine ⟨27, false, rfl, eg, fun _ Q => ?_, fun h => absurd rfl h⟩
                  have e0 : a'.eval (.tmp 0) = .slice (some ⟨ba, oa, none⟩) n ca := hk.at 0 (by decide +kernel)
                  exact wp_value _ (by simp only [execOp, e0]; rfl) (KS_mkv rfl rfl)
                · skip
                  have eg : a'.eval (.tmp 27) = .bool false := KS_val (hd.val 11 27 (by decide +kernel)) rfl
                  refine ⟨27, false, rfl, eg, fun _ Q => ?_, fun h => absurd rfl h⟩
                  have e5 : a'.eval (.tmp 5) = .int .i64 (i : Int) := hk.at 5 (by decide +kernel)
                  exact wp_value _ (by simp only [execOp, e5]; rfl) (KS_mkv rfl rfl)
                · skip
                  have eg : a'.eval (.tmp 27) = .bool false := KS_val (hd.val 11 27 (by decide +kernel)) rfl
                  refine ⟨27, false, rfl, eg, fun _ Q => ?_, fun h => absurd rfl h⟩
                  have e28 : a'.eval (.tmp 28) = .slice (some ⟨ba, oa, none⟩) n ca := KS_val (hd.val 12 28 (by decide +kernel)) rfl
                  have e29 : a'.eval (.tmp 29) = .int .i64 (i : Int) := KS_val (hd.val 13 29 (by decide +kernel)) rfl
                  clear hd hk
                  exact wp_value (.pointer (some ⟨ba, oa + i * 4, none⟩)) (by simp only [execOp, e28, e29]; go_simp) (KS_mkv rfl rfl)
                · skip
                  have eg : a'.eval (.tmp 27) = .bool false := KS_val (hd.val 11 27 (by decide +kernel)) rfl
                  refine ⟨27, false, rfl, eg, fun _ Q => ?_, fun h => absurd rfl h⟩
                  have e30 : a'.eval (.tmp 30) = .pointer (some ⟨ba, oa + i * 4, none⟩) := KS_val (hd.val 14 30 (by decide +kernel)) rfl
                  clear hd hk
                  exact wp_value (.pointer (some ⟨ba, oa + i * 4 + 1, none⟩)) (by simp only [execOp, e30]; go_simp) (KS_mkv rfl rfl)
                · skip
                  have eg : a'.eval (.tmp 27) = .bool false := KS_val (hd.val 11 27 (by decide +kernel)) rfl
                  refine ⟨27, false, rfl, eg, fun _ Q => ?_, fun h => absurd rfl h⟩
                  have e31 : a'.eval (.tmp 31) = .pointer (some ⟨ba, oa + i * 4 + 1, none⟩) := KS_val (hd.val 15 31 (by decide +kernel)) rfl
                  have hc := XA.out w' hg 1 (.string x.k) rfl
                  clear hd hk
                  exact wp_value (.string x.k) (by simp only [execOp, e31]; go_simp) (KS_mkv rfl rfl)
                · skip
                  have eg : a'.eval (.tmp 27) = .bool false := KS_val (hd.val 11 27 (by decide +kernel)) rfl
                  refine ⟨27, false, rfl, eg, fun _ Q => ?_, fun h => absurd rfl h⟩
                  have e1 : a'.eval (.tmp 1) = .slice (some ⟨bb, ob, none⟩) n cb := hk.at 1 (by decide +kernel)
                  exact wp_value _ (by simp only [execOp, e1]; rfl) (KS_mkv rfl rfl)
                · skip
                  have eg : a'.eval (.tmp 27) = .bool false := KS_val (hd.val 11 27 (by decide +kernel)) rfl
                  refine ⟨27, false, rfl, eg, fun _ Q => ?_, fun h => absurd rfl h⟩
                  have e5 : a'.eval (.tmp 5) = .int .i64 (i : Int) := hk.at 5 (by decide +kernel)
                  exact wp_value _ (by simp only [execOp, e5]; rfl) (KS_mkv rfl rfl)
                · skip
                  have eg : a'.eval (.tmp 27) = .bool false := KS_val (hd.val 11 27 (by decide +kernel)) rfl
                  refine ⟨27, false, rfl, eg, fun _ Q => ?_, fun h => absurd rfl h⟩
                  have e33 : a'.eval (.tmp 33) = .slice (some ⟨bb, ob, none⟩) n cb := KS_val (hd.val 17 33 (by decide +kernel)) rfl
                  have e34 : a'.eval (.tmp 34) = .int .i64 (i : Int) := KS_val (hd.val 18 34 (by decide +kernel)) rfl
                  clear hd hk
                  exact wp_value (.pointer (some ⟨bb, ob + i * 4, none⟩)) (by simp only [execOp, e33, e34]; go_simp) (KS_mkv rfl rfl)
                · skip
                  have eg : a'.eval (.tmp 27) = .bool false := KS_val (hd.val 11 27 (by decide +kernel)) rfl
                  refine ⟨27, false, rfl, eg, fun _ Q => ?_, fun h => absurd rfl h⟩
                  have e35 : a'.eval (.tmp 35) = .pointer (some ⟨bb, ob + i * 4, none⟩) := KS_val (hd.val 19 35 (by decide +kernel)) rfl
                  clear hd hk
                  exact wp_value (.pointer (some ⟨bb, ob + i * 4 + 1, none⟩)) (by simp only [execOp, e35]; go_simp) (KS_mkv rfl rfl)
                · skip
                  have eg : a'.eval (.tmp 27) = .bool false := KS_val (hd.val 11 27 (by decide +kernel)) rfl
                  refine ⟨27, false, rfl, eg, fun _ Q => ?_, fun h => absurd rfl h⟩
                  have e36 : a'.eval (.tmp 36) = .pointer (some ⟨bb, ob + i * 4 + 1, none⟩) := KS_val (hd.val 20 36 (by decide +kernel)) rfl
                  have hc := YA.out w' hg 1 (.string y.k) rfl
                  clear hd hk
                  exact wp_value (.string y.k) (by simp only [execOp, e36]; go_simp) (KS_mkv rfl rfl)
                · skip
                  have eg : a'.eval (.tmp 27) = .bool false := KS_val (hd.val 11 27 (by decide +kernel)) rfl
                  refine ⟨27, false, rfl, eg, fun _ Q => ?_, fun h => absurd rfl h⟩
                  have e32 : a'.eval (.tmp 32) = .string x.k := KS_val (hd.val 16 32 (by decide +kernel)) rfl
                  have e37 : a'.eval (.tmp 37) = .string y.k := KS_val (hd.val 21 37 (by decide +kernel)) rfl
                  exact wp_value _ (by simp only [execOp, e32, e37, Sem.run_bind, eqg_s, Result.andThen_ok]; rw [HD1.out]; rfl) (KS_mkv rfl rfl)
                · skip
                  intro Q
                  have e27 : a'.eval (.tmp 27) = .bool false := KS_val (hd.val 11 27 (by decide +kernel)) rfl
                  have e38 : a'.eval (.tmp 38) = .bool false := KS_val (hd.val 22 38 (by decide +kernel)) rfl
                  clear hd hk
                  exact wp_value (.bool false) (by simp only [execOp, e27, e38]; go_simp) (KS_mkv rfl rfl)
                · skip
                  intro Q
                  have e39 : a'.eval (.tmp 39) = .bool false := KS_val (hd.val 23 39 (by decide +kernel)) rfl
                  exact wp_value _ (by simp only [execOp, e39]; rfl) (KS_mkv rfl rfl)
                · skip
                  have eg : a'.eval (.tmp 40) = .bool false := KS_val (hd.val 24 40 (by decide +kernel)) rfl
                  refine ⟨40, false, rfl, eg, fun _ Q => ?_, fun h => absurd rfl h⟩
                  have e0 : a'.eval (.tmp 0) = .slice (some ⟨ba, oa, none⟩) n ca := hk.at 0 (by decide +kernel)
                  exact wp_value _ (by simp only [execOp, e0]; rfl) (KS_mkv rfl rfl)
                · skip
                  have eg : a'.eval (.tmp 40) = .bool false := KS_val (hd.val 24 40 (by decide +kernel)) rfl
                  refine ⟨40, false, rfl, eg, fun _ Q => ?_, fun h => absurd rfl h⟩
                  have e5 : a'.eval (.tmp 5) = .int .i64 (i : Int) := hk.at 5 (by decide +kernel)
                  exact wp_value _ (by simp only [execOp, e5]; rfl) (KS_mkv rfl rfl)
                · skip
                  have eg : a'.eval (.tmp 40) = .bool false := KS_val (hd.val 24 40 (by decide +kernel)) rfl
                  refine ⟨40, false, rfl, eg, fun _ Q => ?_, fun h => absurd rfl h⟩
                  have e41 : a'.eval (.tmp 41) = .slice (some ⟨ba, oa, none⟩) n ca := KS_val (hd.val 25 41 (by decide +kernel)) rfl
                  have e42 : a'.eval (.tmp 42) = .int .i64 (i : Int) := KS_val (hd.val 26 42 (by decide +kernel)) rfl
                  clear hd hk
                  exact wp_value (.pointer (some ⟨ba, oa + i * 4, none⟩)) (by simp only [execOp, e41, e42]; go_simp) (KS_mkv rfl rfl)
                · skip
                  have eg : a'.eval (.tmp 40) = .bool false := KS_val (hd.val 24 40 (by decide +kernel)) rfl
                  refine ⟨40, false, rfl, eg, fun _ Q => ?_, fun h => absurd rfl h⟩
                  have e43 : a'.eval (.tmp 43) = .pointer (some ⟨ba, oa + i * 4, none⟩) := KS_val (hd.val 27 43 (by decide +kernel)) rfl
                  clear hd hk
                  exact wp_value (.pointer (some ⟨ba, oa + i * 4 + 2, none⟩)) (by simp only [execOp, e43]; go_simp) (KS_mkv rfl rfl)
                · skip
                  have eg : a'.eval (.tmp 40) = .bool false := KS_val (hd.val 24 40 (by decide +kernel)) rfl
                  refine ⟨40, false, rfl, eg, fun _ Q => ?_, fun h => absurd rfl h⟩
                  have e44 : a'.eval (.tmp 44) = .pointer (some ⟨ba, oa + i * 4 + 2, none⟩) := KS_val (hd.val 28 44 (by decide +kernel)) rfl
                  have hc := XA.out w' hg 2 (.string x.t) rfl
                  clear hd hk
                  exact wp_value (.string x.t) (by simp only [execOp, e44]; go_simp) (KS_mkv rfl rfl)
                · skip
                  have eg : a'.eval (.tmp 40) = .bool false := KS_val (hd.val 24 40 (by decide +kernel)) rfl
                  refine ⟨40, false, rfl, eg, fun _ Q => ?_, fun h => absurd rfl h⟩
                  have e1 : a'.eval (.tmp 1) = .slice (some ⟨bb, ob, none⟩) n cb := hk.at 1 (by decide +kernel)
                  exact wp_value _ (by simp only [execOp, e1]; rfl) (KS_mkv rfl rfl)
                · skip
                  have eg : a'.eval (.tmp 40) = .bool false := KS_val (hd.val 24 40 (by decide +kernel)) rfl
                  refine ⟨40, false, rfl, eg, fun _ Q => ?_, fun h => absurd rfl h⟩
                  have e5 : a'.eval (.tmp 5) = .int .i64 (i : Int) := hk.at 5 (by decide +kernel)
                  exact wp_value _ (by simp only [execOp, e5]; rfl) (KS_mkv rfl rfl)
                · skip
                  have eg : a'.eval (.tmp 40) = .bool false := KS_val (hd.val 24 40 (by decide +kernel)) rfl
                  refine ⟨40, false, rfl, eg, fun _ Q => ?_, fun h => absurd rfl h⟩
                  have e46 : a'.eval (.tmp 46) = .slice (some ⟨bb, ob, none⟩) n cb := KS_val (hd.val 30 46 (by decide +kernel)) rfl
                  have e47 : a'.eval (.tmp 47) = .int .i64 (i : Int) := KS_val (hd.val 31 47 (by decide +kernel)) rfl
                  clear hd hk
                  exact wp_value (.pointer (some ⟨bb, ob + i * 4, none⟩)) (by simp only [execOp, e46, e47]; go_simp) (KS_mkv rfl rfl)
                · skip
                  have eg : a'.eval (.tmp 40) = .bool false := KS_val (hd.val 24 40 (by decide +kernel)) rfl
                  refine ⟨40, false, rfl, eg, fun _ Q => ?_, fun h => absurd rfl h⟩
                  have e48 : a'.eval (.tmp 48) = .pointer (some ⟨bb, ob + i * 4, none⟩) := KS_val (hd.val 32 48 (by decide +kernel)) rfl
                  clear hd hk
                  exact wp_value (.pointer (some ⟨bb, ob + i * 4 + 2, none⟩)) (by simp only [execOp, e48]; go_simp) (KS_mkv rfl rfl)
                · skip
                  have eg : a'.eval (.tmp 40) = .bool false := KS_val (hd.val 24 40 (by decide +kernel)) rfl
                  refine ⟨40, false, rfl, eg, fun _ Q => ?_, fun h => absurd rfl h⟩
                  have e49 : a'.eval (.tmp 49) = .pointer (some ⟨bb, ob + i * 4 + 2, none⟩) := KS_val (hd.val 33 49 (by decide +kernel)) rfl
                  have hc := YA.out w' hg 2 (.string y.t) rfl
                  clear hd hk
                  exact wp_value (.string y.t) (by simp only [execOp, e49]; go_simp) (KS_mkv rfl rfl)
                · skip
                  have eg : a'.eval (.tmp 40) = .bool false := KS_val (hd.val 24 40 (by decide +kernel)) rfl
                  refine ⟨40, false, rfl, eg, fun _ Q => ?_, fun h => absurd rfl h⟩
                  have e45 : a'.eval (.tmp 45) = .string x.t := KS_val (hd.val 29 45 (by decide +kernel)) rfl
                  have e50 : a'.eval (.tmp 50) = .string y.t := KS_val (hd.val 34 50 (by decide +kernel)) rfl
                  exact wp_value _ (by simp only [execOp, e45, e50, Sem.run_bind, eqg_s, Result.andThen_ok]; rw [HD2.out]; rfl) (KS_mkv rfl rfl)
                · skip
                  intro Q
                  have e40 : a'.eval (.tmp 40) = .bool false := KS_val (hd.val 24 40 (by decide +kernel)) rfl
                  have e51 : a'.eval (.tmp 51) = .bool false := KS_val (hd.val 35 51 (by decide +kernel)) rfl
                  clear hd hk
                  exact wp_value (.bool false) (by simp only [execOp, e40, e51]; go_simp) (KS_mkv rfl rfl)
                · skip
                  intro Q
                  have e52 : a'.eval (.tmp 52) = .bool false := KS_val (hd.val 36 52 (by decide +kernel)) rfl
                  exact wp_value _ (by simp only [execOp, e52]; rfl) (KS_mkv rfl rfl)
                · skip
                  have eg : a'.eval (.tmp 53) = .bool false := KS_val (hd.val 37 53 (by decide +kernel)) rfl
                  refine ⟨53, false, rfl, eg, fun _ Q => ?_, fun h => absurd rfl h⟩
                  have e0 : a'.eval (.tmp 0) = .slice (some ⟨ba, oa, none⟩) n ca := hk.at 0 (by decide +kernel)
                  exact wp_value _ (by simp only [execOp, e0]; rfl) (KS_mkv rfl rfl)
                · skip
                  have eg : a'.eval (.tmp 53) = .bool false := KS_val (hd.val 37 53 (by decide +kernel)) rfl
                  refine ⟨53, false, rfl, eg, fun _ Q => ?_, fun h => absurd rfl h⟩
                  have e5 : a'.eval (.tmp 5) = .int .i64 (i : Int) := hk.at 5 (by decide +kernel)
                  exact wp_value _ (by simp only [execOp, e5]; rfl) (KS_mkv rfl rfl)
                · skip
                  have eg : a'.eval (.tmp 53) = .bool false := KS_val (hd.val 37 53 (by decide +kernel)) rfl
                  refine ⟨53, false, rfl, eg, fun _ Q => ?_, fun h => absurd rfl h⟩
                  have e54 : a'.eval (.tmp 54) = .slice (some ⟨ba, oa, none⟩) n ca := KS_val (hd.val 38 54 (by decide +kernel)) rfl
                  have e55 : a'.eval (.tmp 55) = .int .i64 (i : Int) := KS_val (hd.val 39 55 (by decide +kernel)) rfl
                  clear hd hk
                  exact wp_value (.pointer (some ⟨ba, oa + i * 4, none⟩)) (by simp only [execOp, e54, e55]; go_simp) (KS_mkv rfl rfl)
                · skip
                  have eg : a'.eval (.tmp 53) = .bool false := KS_val (hd.val 37 53 (by decide +kernel)) rfl
                  refine ⟨53, false, rfl, eg, fun _ Q => ?_, fun h => absurd rfl h⟩
                  have e56 : a'.eval (.tmp 56) = .pointer (some ⟨ba, oa + i * 4, none⟩) := KS_val (hd.val 40 56 (by decide +kernel)) rfl
                  clear hd hk
                  exact wp_value (.pointer (some ⟨ba, oa + i * 4 + 3, none⟩)) (by simp only [execOp, e56]; go_simp) (KS_mkv rfl rfl)
                · skip
                  have eg : a'.eval (.tmp 53) = .bool false := KS_val (hd.val 37 53 (by decide +kernel)) rfl
                  refine ⟨53, false, rfl, eg, fun _ Q => ?_, fun h => absurd rfl h⟩
                  have e57 : a'.eval (.tmp 57) = .pointer (some ⟨ba, oa + i * 4 + 3, none⟩) := KS_val (hd.val 41 57 (by decide +kernel)) rfl
                  have hc := XA.out w' hg 3 (xv x) rfl
                  clear hd hk
                  exact wp_value (xv x) (by simp only [execOp, e57]; go_simp) (KS_mkv rfl rfl)
                · skip
                  have eg : a'.eval (.tmp 53) = .bool false := KS_val (hd.val 37 53 (by decide +kernel)) rfl
                  refine ⟨53, false, rfl, eg, fun _ Q => ?_, fun h => absurd rfl h⟩
                  have e1 : a'.eval (.tmp 1) = .slice (some ⟨bb, ob, none⟩) n cb := hk.at 1 (by decide +kernel)
                  exact wp_value _ (by simp only [execOp, e1]; rfl) (KS_mkv rfl rfl)
                · skip
                  have eg : a'.eval (.tmp 53) = .bool false := KS_val (hd.val 37 53 (by decide +kernel)) rfl
                  refine ⟨53, false, rfl, eg, fun _ Q => ?_, fun h => absurd rfl h⟩
                  have e5 : a'.eval (.tmp 5) = .int .i64 (i : Int) := hk.at 5 (by decide +kernel)
                  exact wp_value _ (by simp only [execOp, e5]; rfl) (KS_mkv rfl rfl)
                · skip
                  have eg : a'.eval (.tmp 53) = .bool false := KS_val (hd.val 37 53 (by decide +kernel)) rfl
                  refine ⟨53, false, rfl, eg, fun _ Q => ?_, fun h => absurd rfl h⟩
                  have e59 : a'.eval (.tmp 59) = .slice (some ⟨bb, ob, none⟩) n cb := KS_val (hd.val 43 59 (by decide +kernel)) rfl
                  have e60 : a'.eval (.tmp 60) = .int .i64 (i : Int) := KS_val (hd.val 44 60 (by decide +kernel)) rfl
                  clear hd hk
                  exact wp_value (.pointer (some ⟨bb, ob + i * 4, none⟩)) (by simp only [execOp, e59, e60]; go_simp) (KS_mkv rfl rfl)
                · skip
                  have eg : a'.eval (.tmp 53) = .bool false := KS_val (hd.val 37 53 (by decide +kernel)) rfl
                  refine ⟨53, false, rfl, eg, fun _ Q => ?_, fun h => absurd rfl h⟩
                  have e61 : a'.eval (.tmp 61) = .pointer (some ⟨bb, ob + i * 4, none⟩) := KS_val (hd.val 45 61 (by decide +kernel)) rfl
                  clear hd hk
                  exact wp_value (.pointer (some ⟨bb, ob + i * 4 + 3, none⟩)) (by simp only [execOp, e61]; go_simp) (KS_mkv rfl rfl)
                · skip
                  have eg : a'.eval (.tmp 53) = .bool false := KS_val (hd.val 37 53 (by decide +kernel)) rfl
                  refine ⟨53, false, rfl, eg, fun _ Q => ?_, fun h => absurd rfl h⟩
                  have e62 : a'.eval (.tmp 62) = .pointer (some ⟨bb, ob + i * 4 + 3, none⟩) := KS_val (hd.val 46 62 (by decide +kernel)) rfl
                  have hc := YA.out w' hg 3 (xv y) rfl
                  clear hd hk
                  exact wp_value (xv y) (by simp only [execOp, e62]; go_simp) (KS_mkv rfl rfl)
                · skip
                  have eg : a'.eval (.tmp 53) = .bool false := KS_val (hd.val 37 53 (by decide +kernel)) rfl
                  refine ⟨53, false, rfl, eg, fun _ Q => ?_, fun h => absurd rfl h⟩
                  have e58 : a'.eval (.tmp 58) = xv x := KS_val (hd.val 42 58 (by decide +kernel)) rfl
                  have e63 : a'.eval (.tmp 63) = xv y := KS_val (hd.val 47 63 (by decide +kernel)) rfl
                  refine wp_call 24 _ (run_enter 24 _ _ rfl (by kernel_rfl)) ?_
                  simp only [List.map_toArray, List.map_nil, List.map_cons, e58, e63]
                  refine (sameR_any (XP.out.kept hg) (YP.out.kept hg)).mono ?_
                  rintro e w5 ⟨rfl, hb5⟩
                  exact ⟨_, rfl, KS_mkv rfl (by rw [HQ.out]), hb5⟩
                · skip
                  have eg : a'.eval (.tmp 53) = .bool false := KS_val (hd.val 37 53 (by decide +kernel)) rfl
                  refine ⟨53, false, rfl, eg, fun _ Q => ?_, fun h => absurd rfl h⟩
                  have e64 : a'.eval (.tmp 64) = .bool q := KS_val (hd.val 48 64 (by decide +kernel)) rfl
                  clear hd hk
                  exact wp_value (.bool (!q)) (by simp only [execOp, e64]; go_simp) (KS_mkv rfl rfl)
                · skip
                  intro Q
                  have e53 : a'.eval (.tmp 53) = .bool false := KS_val (hd.val 37 53 (by decide +kernel)) rfl
                  have e65 : a'.eval (.tmp 65) = .bool (!q) := KS_val (hd.val 49 65 (by decide +kernel)) rfl
                  clear hd hk
                  exact wp_value (.bool (!q)) (by simp only [execOp, e53, e65]; go_simp) (KS_mkv rfl rfl)
              · intro a' w5 hsz hdf hk hall hg
                have L5 : Hid (Below w.heap.size w w5) := (show _ from BL.out.trans (hg.mono BL.out.size))
                have e16 : a'.eval (.tmp 16) = .slice (some ⟨ba, oa, none⟩) n ca := KS_val (hall 0 _ 16 rfl rfl) rfl
                have e17 : a'.eval (.tmp 17) = .int .i64 (i : Int) := KS_val (hall 1 _ 17 rfl rfl) rfl
                have e18 : a'.eval (.tmp 18) = .pointer (some ⟨ba, oa + i * 4, none⟩) := KS_val (hall 2 _ 18 rfl rfl) rfl
                have e19 : a'.eval (.tmp 19) = .pointer (some ⟨ba, oa + i * 4, none⟩) := KS_val (hall 3 _ 19 rfl rfl) rfl
                have e20 : a'.eval (.tmp 20) = .bool x.sc := KS_val (hall 4 _ 20 rfl rfl) rfl
                have e21 : a'.eval (.tmp 21) = .slice (some ⟨bb, ob, none⟩) n cb := KS_val (hall 5 _ 21 rfl rfl) rfl
                have e22 : a'.eval (.tmp 22) = .int .i64 (i : Int) := KS_val (hall 6 _ 22 rfl rfl) rfl
                have e23 : a'.eval (.tmp 23) = .pointer (some ⟨bb, ob + i * 4, none⟩) := KS_val (hall 7 _ 23 rfl rfl) rfl
                have e24 : a'.eval (.tmp 24) = .pointer (some ⟨bb, ob + i * 4, none⟩) := KS_val (hall 8 _ 24 rfl rfl) rfl
                have e25 : a'.eval (.tmp 25) = .bool y.sc := KS_val (hall 9 _ 25 rfl rfl) rfl
                have e26 : a'.eval (.tmp 26) = .bool false := KS_val (hall 10 _ 26 rfl rfl) rfl
                have e27 : a'.eval (.tmp 27) = .bool false := KS_val (hall 11 _ 27 rfl rfl) rfl
                have e28 : a'.eval (.tmp 28) = .slice (some ⟨ba, oa, none⟩) n ca := KS_val (hall 12 _ 28 rfl rfl) rfl
                have e29 : a'.eval (.tmp 29) = .int .i64 (i : Int) := KS_val (hall 13 _ 29 rfl rfl) rfl
                have e30 : a'.eval (.tmp 30) = .pointer (some ⟨ba, oa + i * 4, none⟩) := KS_val (hall 14 _ 30 rfl rfl) rfl
                have e31 : a'.eval (.tmp 31) = .pointer (some ⟨ba, oa + i * 4 + 1, none⟩) := KS_val (hall 15 _ 31 rfl rfl) rfl
                have e32 : a'.eval (.tmp 32) = .string x.k := KS_val (hall 16 _ 32 rfl rfl) rfl
                have e33 : a'.eval (.tmp 33) = .slice (some ⟨bb, ob, none⟩) n cb := KS_val (hall 17 _ 33 rfl rfl) rfl
                have e34 : a'.eval (.tmp 34) = .int .i64 (i : Int) := KS_val (hall 18 _ 34 rfl rfl) rfl
                have e35 : a'.eval (.tmp 35) = .pointer (some ⟨bb, ob + i * 4, none⟩) := KS_val (hall 19 _ 35 rfl rfl) rfl
                have e36 : a'.eval (.tmp 36) = .pointer (some ⟨bb, ob + i * 4 + 1, none⟩) := KS_val (hall 20 _ 36 rfl rfl) rfl
                have e37 : a'.eval (.tmp 37) = .string y.k := KS_val (hall 21 _ 37 rfl rfl) rfl
                have e38 : a'.eval (.tmp 38) = .bool false := KS_val (hall 22 _ 38 rfl rfl) rfl
                have e39 : a'.eval (.tmp 39) = .bool false := KS_val (hall 23 _ 39 rfl rfl) rfl
                have e40 : a'.eval (.tmp 40) = .bool false := KS_val (hall 24 _ 40 rfl rfl) rfl
                have e41 : a'.eval (.tmp 41) = .slice (some ⟨ba, oa, none⟩) n ca := KS_val (hall 25 _ 41 rfl rfl) rfl
                have e42 : a'.eval (.tmp 42) = .int .i64 (i : Int) := KS_val (hall 26 _ 42 rfl rfl) rfl
                have e43 : a'.eval (.tmp 43) = .pointer (some ⟨ba, oa + i * 4, none⟩) := KS_val (hall 27 _ 43 rfl rfl) rfl
                have e44 : a'.eval (.tmp 44) = .pointer (some ⟨ba, oa + i * 4 + 2, none⟩) := KS_val (hall 28 _ 44 rfl rfl) rfl
                have e45 : a'.eval (.tmp 45) = .string x.t := KS_val (hall 29 _ 45 rfl rfl) rfl
                have e46 : a'.eval (.tmp 46) = .slice (some ⟨bb, ob, none⟩) n cb := KS_val (hall 30 _ 46 rfl rfl) rfl
                have e47 : a'.eval (.tmp 47) = .int .i64 (i : Int) := KS_val (hall 31 _ 47 rfl rfl) rfl
                have e48 : a'.eval (.tmp 48) = .pointer (some ⟨bb, ob + i * 4, none⟩) := KS_val (hall 32 _ 48 rfl rfl) rfl
                have e49 : a'.eval (.tmp 49) = .pointer (some ⟨bb, ob + i * 4 + 2, none⟩) := KS_val (hall 33 _ 49 rfl rfl) rfl
                have e50 : a'.eval (.tmp 50) = .string y.t := KS_val (hall 34 _ 50 rfl rfl) rfl
                have e51 : a'.eval (.tmp 51) = .bool false := KS_val (hall 35 _ 51 rfl rfl) rfl
                have e52 : a'.eval (.tmp 52) = .bool false := KS_val (hall 36 _ 52 rfl rfl) rfl
                have e53 : a'.eval (.tmp 53) = .bool false := KS_val (hall 37 _ 53 rfl rfl) rfl
                have e54 : a'.eval (.tmp 54) = .slice (some ⟨ba, oa, none⟩) n ca := KS_val (hall 38 _ 54 rfl rfl) rfl
                have e55 : a'.eval (.tmp 55) = .int .i64 (i : Int) := KS_val (hall 39 _ 55 rfl rfl) rfl
                have e56 : a'.eval (.tmp 56) = .pointer (some ⟨ba, oa + i * 4, none⟩) := KS_val (hall 40 _ 56 rfl rfl) rfl
                have e57 : a'.eval (.tmp 57) = .pointer (some ⟨ba, oa + i * 4 + 3, none⟩) := KS_val (hall 41 _ 57 rfl rfl) rfl
                have e58 : a'.eval (.tmp 58) = xv x := KS_val (hall 42 _ 58 rfl rfl) rfl
                have e59 : a'.eval (.tmp 59) = .slice (some ⟨bb, ob, none⟩) n cb := KS_val (hall 43 _ 59 rfl rfl) rfl
                have e60 : a'.eval (.tmp 60) = .int .i64 (i : Int) := KS_val (hall 44 _ 60 rfl rfl) rfl
                have e61 : a'.eval (.tmp 61) = .pointer (some ⟨bb, ob + i * 4, none⟩) := KS_val (hall 45 _ 61 rfl rfl) rfl
                have e62 : a'.eval (.tmp 62) = .pointer (some ⟨bb, ob + i * 4 + 3, none⟩) := KS_val (hall 46 _ 62 rfl rfl) rfl
                have e63 : a'.eval (.tmp 63) = xv y := KS_val (hall 47 _ 63 rfl rfl) rfl
                have e64 : a'.eval (.tmp 64) = .bool q := KS_val (hall 48 _ 64 rfl rfl) rfl
                have e65 : a'.eval (.tmp 65) = .bool (!q) := KS_val (hall 49 _ 65 rfl rfl) rfl
                have e66 : a'.eval (.tmp 66) = .bool (!q) := KS_val (hall 50 _ 66 rfl rfl) rfl
                have ha := act_puts 68 rfl hsz hdf hk [16, 17, 18, 19, 20, 21, 22, 23, 24, 25, 26, 27, 28, 29, 30, 31, 32, 33, 34, 35, 36, 37, 38, 39, 40, 41, 42, 43, 44, 45, 46, 47, 48, 49, 50, 51, 52, 53, 54, 55, 56, 57, 58, 59, 60, 61, 62, 63, 64, 65, 66] (by decide +kernel)
                simp only [puts, List.foldl_cons, List.foldl_nil, e16, e17, e18, e19, e20, e21, e22, e23, e24, e25, e26, e27, e28, e29, e30, e31, e32, e33, e34, e35, e36, e37, e38, e39, e40, e41, e42, e43, e44, e45, e46, e47, e48, e49, e50, e51, e52, e53, e54, e55, e56, e57, e58, e59, e60, e61, e62, e63, e64, e65, e66] at ha
                simp only [Act.put, List.setIfInBounds_toArray, List.set_cons_succ, List.set_cons_zero] at ha
                clear hall hk hsz hdf e16 e17 e18 e19 e20 e21 e22 e23 e24 e25 e26 e27 e28 e29 e30 e31 e32 e33 e34 e35 e36 e37 e38 e39 e40 e41 e42 e43 e44 e45 e46 e47 e48 e49 e50 e51 e52 e53 e54 e55 e56 e57 e58 e59 e60 e61 e62 e63 e64 e65 e66
                subst ha
                have hs := HS.out
                have hkk := HKk.out
                have htt := HTt.out
                cases q with
                | false =>
                  clear hs hkk htt
                  have HF : z = false := (show _ = _ by
                    rw [Bool.eq_false_iff]
                    intro e
                    replace e := HZ.out.1 e
                    have e1 : (A.map plR)[i]? = (B.map plR)[i]? := by rw [e]
                    rw [List.getElem?_map, List.getElem?_map, List.getElem?_eq_getElem hltA, List.getElem?_eq_getElem hltB, HXx.out, HYy.out] at e1
                    simp only [Option.map_some, Option.some.injEq, plR, Prod.mk.injEq] at e1
                    exact of_decide_eq_false HQ.out e1.2.2.2)
                  subst HF
                  go_wp2_with fail
                  go_ret
                  exact ⟨rfl, L5.out⟩
                | true =>
                  have hps := of_decide_eq_true HQ.out
                  have HT2 : Hid ((A.take (i + 1)).map plR = (B.take (i + 1)).map plR) := (show _ = _ by
                    rw [List.take_succ_eq_append_getElem hltA, List.take_succ_eq_append_getElem hltB, List.map_append, List.map_append, HT.out, HXx.out, HYy.out]
                    simp only [List.map_cons, List.map_nil, plR, hs, hkk, htt, hps])
                  clear hs hkk htt hps
                  go_wp2_with fail
                  go_roundg (n - i)
                  case measure => omega
                  case rel => exact ⟨i + 1, by omega, by omega, by go_num, HT2, L5⟩
            · have HD2 : Hid (∀ W, (binOp .neq 9 (.string x.t) (.string y.t)).run Try.prog W = .ok (.bool true) W) := (show _ from fun W => by rw [HD2', decide_eq_false htt]; rfl)
              have HTt := hide htt
              clear HD0' HD1' HD2' hs hkk htt
              refine wp_region_inv Try.mixed (KS (fun i_ => match i_ with | 0 | 12 | 25 => .val (.slice (some ⟨ba, oa, none⟩) n ca) | 1 | 6 | 13 | 18 | 26 | 31 => .val (.int .i64 (i : Int)) | 2 | 3 | 14 | 27 => .val (.pointer (some ⟨ba, oa + i * 4, none⟩)) | 4 => .val (.bool x.sc) | 5 | 17 | 30 => .val (.slice (some ⟨bb, ob, none⟩) n cb) | 7 | 8 | 19 | 32 => .val (.pointer (some ⟨bb, ob + i * 4, none⟩)) | 9 => .val (.bool y.sc) | 10 | 11 | 22 | 23 | 24 => .val (.bool false) | 15 => .val (.pointer (some ⟨ba, oa + i * 4 + 1, none⟩)) | 16 => .val (.string x.k) | 20 => .val (.pointer (some ⟨bb, ob + i * 4 + 1, none⟩)) | 21 => .val (.string y.k) | 28 => .val (.pointer (some ⟨ba, oa + i * 4 + 2, none⟩)) | 29 => .val (.string x.t) | 33 => .val (.pointer (some ⟨bb, ob + i * 4 + 2, none⟩)) | 34 => .val (.string y.t) | 35 | 36 | 37 | 50 => .val (.bool true) | _ => .free)) 68 rfl (by decide +kernel) (KS_mono _) ?_ ?_
              · refine AllFrom.cons (fun a' w' hg hk hd => ?_) (AllFrom.cons (fun a' w' hg hk hd => ?_) (AllFrom.cons (fun a' w' hg hk hd => ?_) (AllFrom.cons (fun a' w' hg hk hd => ?_) (AllFrom.cons (fun a' w' hg hk hd => ?_) (AllFrom.cons (fun a' w' hg hk hd => ?_) (AllFrom.cons (fun a' w' hg hk hd => ?_) (AllFrom.cons (fun a' w' hg hk hd => ?_) (AllFrom.cons (fun a' w' hg hk hd => ?_) (AllFrom.cons (fun a' w' hg hk hd => ?_) (AllFrom.cons (fun a' w' hg hk hd => ?_) (AllFrom.cons (fun a' w' hg hk hd => ?_) (AllFrom.cons (fun a' w' hg hk hd => ?_) (AllFrom.cons (fun a' w' hg hk hd => ?_) (AllFrom.cons (fun a' w' hg hk hd => ?_) (AllFrom.cons (fun a' w' hg hk hd => ?_) (AllFrom.cons (fun a' w' hg hk hd => ?_) (AllFrom.cons (fun a' w' hg hk hd => ?_) (AllFrom.cons (fun a' w' hg hk hd => ?_) (AllFrom.cons (fun a' w' hg hk hd => ?_) (AllFrom.cons (fun a' w' hg hk hd => ?_) (AllFrom.cons (fun a' w' hg hk hd => ?_) (AllFrom.cons (fun a' w' hg hk hd => ?_) (AllFrom.cons (fun a' w' hg hk hd => ?_) (AllFrom.cons (fun a' w' hg hk hd => ?_) (AllFrom.cons (fun a' w' hg hk hd => ?_) (AllFrom.cons (fun a' w' hg hk hd => ?_) (AllFrom.cons (fun a' w' hg hk hd => ?_) (AllFrom.cons (fun a' w' hg hk hd => ?_) (AllFrom.cons (fun a' w' hg hk hd => ?_) (AllFrom.cons (fun a' w' hg hk hd => ?_) (AllFrom.cons (fun a' w' hg hk hd => ?_) (AllFrom.cons (fun a' w' hg hk hd => ?_) (AllFrom.cons (fun a' w' hg hk hd => ?_) (AllFrom.cons (fun a' w' hg hk hd => ?_) (AllFrom.cons (fun a' w' hg hk hd => ?_) (AllFrom.cons (fun a' w' hg hk hd => ?_) (AllFrom.cons (fun a' w' hg hk hd => ?_) (AllFrom.cons (fun a' w' hg hk hd => ?_) (AllFrom.cons (fun a' w' hg hk hd => ?_) (AllFrom.cons (fun a' w' hg hk hd => ?_) (AllFrom.cons (fun a' w' hg hk hd => ?_) (AllFrom.cons (fun a' w' hg hk hd => ?_) (AllFrom.cons (fun a' w' hg hk hd => ?_) (AllFrom.cons (fun a' w' hg hk hd => ?_) (AllFrom.cons (fun a' w' hg hk hd => ?_) (AllFrom.cons (fun a' w' hg hk hd => ?_) (AllFrom.cons (fun a' w' hg hk hd => ?_) (AllFrom.cons (fun a' w' hg hk hd => ?_) (AllFrom.cons (fun a' w' hg hk hd => ?_) (AllFrom.cons (fun a' w' hg hk hd => ?_) AllFrom.nil))))))))))))))))))))))))))))))))))))))))))))))))))
                · skip
                  intro Q
                  have e0 : a'.eval (.tmp 0) = .slice (some ⟨ba, oa, none⟩) n ca := hk.at 0 (by decide +kernel)
                  exact wp_value _ (by simp only [execOp, e0]; rfl) (KS_mkv rfl rfl)
                · skip
                  intro Q
                  have e5 : a'.eval (.tmp 5) = .int .i64 (i : Int) := hk.at 5 (by decide +kernel)
                  exact wp_value _ (by simp only [execOp, e5]; rfl) (KS_mkv rfl rfl)
                · skip
                  intro Q
                  have e16 : a'.eval (.tmp 16) = .slice (some ⟨ba, oa, none⟩) n ca := KS_val (hd.val 0 16 (by decide +kernel)) rfl
                  have e17 : a'.eval (.tmp 17) = .int .i64 (i : Int) := KS_val (hd.val 1 17 (by decide +kernel)) rfl
                  clear hd hk
                  exact wp_value (.pointer (some ⟨ba, oa + i * 4, none⟩)) (by simp only [execOp, e16, e17]; go_simp) (KS_mkv rfl rfl)
                · skip
                  intro Q
                  have e18 : a'.eval (.tmp 18) = .pointer (some ⟨ba, oa + i * 4, none⟩) := KS_val (hd.val 2 18 (by decide +kernel)) rfl
                  clear hd hk
                  exact wp_value (.pointer (some ⟨ba, oa + i * 4, none⟩)) (by simp only [execOp, e18]; go_simp) (KS_mkv rfl rfl)
                · skip
                  intro Q
                  have e19 : a'.eval (.tmp 19) = .pointer (some ⟨ba, oa + i * 4, none⟩) := KS_val (hd.val 3 19 (by decide +kernel)) rfl
                  have hc := (show w'.cell? ⟨ba, oa + i * 4, none⟩ = some (.bool x.sc) from XA.out w' hg 0 (.bool x.sc) rfl)
                  clear hd hk
                  exact wp_value (.bool x.sc) (by simp only [execOp, e19]; go_simp) (KS_mkv rfl rfl)
                · skip
                  intro Q
                  have e1 : a'.eval (.tmp 1) = .slice (some ⟨bb, ob, none⟩) n cb := hk.at 1 (by decide +kernel)
                  exact wp_value _ (by simp only [execOp, e1]; rfl) (KS_mkv rfl rfl)
                · skip
                  intro Q
                  have e5 : a'.eval (.tmp 5) = .int .i64 (i : Int) := hk.at 5 (by decide +kernel)
                  exact wp_value _ (by simp only [execOp, e5]; rfl) (KS_mkv rfl rfl)
                · skip
                  intro Q
                  have e21 : a'.eval (.tmp 21) = .slice (some ⟨bb, ob, none⟩) n cb := KS_val (hd.val 5 21 (by decide +kernel)) rfl
                  have e22 : a'.eval (.tmp 22) = .int .i64 (i : Int) := KS_val (hd.val 6 22 (by decide +kernel)) rfl
                  clear hd hk
                  exact wp_value (.pointer (some ⟨bb, ob + i * 4, none⟩)) (by simp only [execOp, e21, e22]; go_simp) (KS_mkv rfl rfl)
                · skip
                  intro Q
                  have e23 : a'.eval (.tmp 23) = .pointer (some ⟨bb, ob + i * 4, none⟩) := KS_val (hd.val 7 23 (by decide +kernel)) rfl
                  clear hd hk
                  exact wp_value (.pointer (some ⟨bb, ob + i * 4, none⟩)) (by simp only [execOp, e23]; go_simp) (KS_mkv rfl rfl)
                · skip
                  intro Q
                  have e24 : a'.eval (.tmp 24) = .pointer (some ⟨bb, ob + i * 4, none⟩) := KS_val (hd.val 8 24 (by decide +kernel)) rfl
                  have hc := (show w'.cell? ⟨bb, ob + i * 4, none⟩ = some (.bool y.sc) from YA.out w' hg 0 (.bool y.sc) rfl)
                  clear hd hk
                  exact wp_value (.bool y.sc) (by simp only [execOp, e24]; go_simp) (KS_mkv rfl rfl)
                · skip
                  intro Q
                  have e20 : a'.eval (.tmp 20) = .bool x.sc := KS_val (hd.val 4 20 (by decide +kernel)) rfl
                  have e25 : a'.eval (.tmp 25) = .bool y.sc := KS_val (hd.val 9 25 (by decide +kernel)) rfl
                  exact wp_value _ (by simp only [execOp, e20, e25, Sem.run_bind, eqg_b, Result.andThen_ok]; rw [HD0.out]; rfl) (KS_mkv rfl rfl)
                · skip
                  intro Q
                  have e26 : a'.eval (.tmp 26) = .bool false := KS_val (hd.val 10 26 (by decide +kernel)) rfl
                  exact wp_value _ (by simp only [execOp, e26]; rfl) (KS_mkv rfl rfl)
                · skip
                  have eg : a'.eval (.tmp 27) = .bool false := KS_val (hd.val 11 27 (by decide +kernel)) rfl
                  refine ⟨27, false, rfl, eg, fun _ Q => ?_, fun h => absurd rfl h⟩
                  have e0 : a'.eval (.tmp 0) = .slice (some ⟨ba, oa, none⟩) n ca := hk.at 0 (by decide +kernel)
                  exact wp_value _ (by simp only [execOp, e0]; rfl) (KS_mkv rfl rfl)
                · skip
                  have eg : a'.eval (.tmp 27) = .bool false := KS_val (hd.val 11 27 (by decide +kernel)) rfl
                  refine ⟨27, false, rfl, eg, fun _ Q => ?_, fun h => absurd rfl h⟩
                  have e5 : a'.eval (.tmp 5) = .int .i64 (i : Int) := hk.at 5 (by decide +kernel)
                  exact wp_value _ (by simp only [execOp, e5]; rfl) (KS_mkv rfl rfl)
                · skip
                  have eg : a'.eval (.tmp 27) = .bool false := KS_val (hd.val 11 27 (by decide +kernel)) rfl
                  refine ⟨27, false, rfl, eg, fun _ Q => ?_, fun h => absurd rfl h⟩
                  have e28 : a'.eval (.tmp 28) = .slice (some ⟨ba, oa, none⟩) n ca := KS_val (hd.val 12 28 (by decide +kernel)) rfl
                  have e29 : a'.eval (.tmp 29) = .int .i64 (i : Int) := KS_val (hd.val 13 29 (by decide +kernel)) rfl
                  clear hd hk
                  exact wp_value (.pointer (some ⟨ba, oa + i * 4, none⟩)) (by simp only [execOp, e28, e29]; go_simp) (KS_mkv rfl rfl)
                · skip
                  have eg : a'.eval (.tmp 27) = .bool false := KS_val (hd.val 11 27 (by decide +kernel)) rfl
                  refine ⟨27, false, rfl, eg, fun _ Q => ?_, fun h => absurd rfl h⟩
                  have e30 : a'.eval (.tmp 30) = .pointer (some ⟨ba, oa + i * 4, none⟩) := KS_val (hd.val 14 30 (by decide +kernel)) rfl
                  clear hd hk
                  exact wp_value (.pointer (some ⟨ba, oa + i * 4 + 1, none⟩)) (by simp only [execOp, e30]; go_simp) (KS_mkv rfl rfl)
                · skip
                  have eg : a'.eval (.tmp 27) = .bool false := KS_val (hd.val 11 27 (by decide +kernel)) rfl
                  refine ⟨27, false, rfl, eg, fun _ Q => ?_, fun h => absurd rfl h⟩
                  have e31 : a'.eval (.tmp 31) = .pointer (some ⟨ba, oa + i * 4 + 1, none⟩) := KS_val (hd.val 15 31 (by decide +kernel)) rfl
                  have hc := XA.out w' hg 1 (.string x.k) rfl
                  clear hd hk
                  exact wp_value (.string x.k) (by simp only [execOp, e31]; go_simp) (KS_mkv rfl rfl)
                · skip
                  have eg : a'.eval (.tmp 27) = .bool false := KS_val (hd.val 11 27 (by decide +kernel)) rfl
                  refine ⟨27, false, rfl, eg, fun _ Q => ?_, fun h => absurd rfl h⟩
                  have e1 : a'.eval (.tmp 1) = .slice (some ⟨bb, ob, none⟩) n cb := hk.at 1 (by decide +kernel)
                  exact wp_value _ (by simp only [execOp, e1]; rfl) (KS_mkv rfl rfl)
                · skip
                  have eg : a'.eval (.tmp 27) = .bool false := KS_val (hd.val 11 27 (by decide +kernel)) rfl
                  refine ⟨27, false, rfl, eg, fun _ Q => ?_, fun h => absurd rfl h⟩
                  have e5 : a'.eval (.tmp 5) = .int .i64 (i : Int) := hk.at 5 (by decide +kernel)
                  exact wp_value _ (by simp only [execOp, e5]; rfl) (KS_mkv rfl rfl)
                · skip
                  have eg : a'.eval (.tmp 27) = .bool false := KS_val (hd.val 11 27 (by decide +kernel)) rfl
                  refine ⟨27, false, rfl, eg, fun _ Q => ?_, fun h => absurd rfl h⟩
                  have e33 : a'.eval (.tmp 33) = .slice (some ⟨bb, ob, none⟩) n cb := KS_val (hd.val 17 33 (by decide +kernel)) rfl
                  have e34 : a'.eval (.tmp 34) = .int .i64 (i : Int) := KS_val (hd.val 18 34 (by decide +kernel)) rfl
                  clear hd hk
                  exact wp_value (.pointer (some ⟨bb, ob + i * 4, none⟩)) (by simp only [execOp, e33, e34]; go_simp) (KS_mkv rfl rfl)
                · skip
                  have eg : a'.eval (.tmp 27) = .bool false := KS_val (hd.val 11 27 (by decide +kernel)) rfl
                  refine ⟨27, false, rfl, eg, fun _ Q => ?_, fun h => absurd rfl h⟩
                  have e35 : a'.eval (.tmp 35) = .pointer (some ⟨bb, ob + i * 4, none⟩) := KS_val (hd.val 19 35 (by decide +kernel)) rfl
                  clear hd hk
                  exact wp_value (.pointer (some ⟨bb, ob + i * 4 + 1, none⟩)) (by simp only [execOp, e35]; go_simp) (KS_mkv rfl rfl)
                · skip
                  have eg : a'.eval (.tmp 27) = .bool false := KS_val (hd.val 11 27 (by decide +kernel)) rfl
                  refine ⟨27, false, rfl, eg, fun _ Q => ?_, fun h => absurd rfl h⟩
                  have e36 : a'.eval (.tmp 36) = .pointer (some ⟨bb, ob + i * 4 + 1, none⟩) := KS_val (hd.val 20 36 (by decide +kernel)) rfl
                  have hc := YA.out w' hg 1 (.string y.k) rfl
                  clear hd hk
                  exact wp_value (.string y.k) (by simp only [execOp, e36]; go_simp) (KS_mkv rfl rfl)
                · skip
                  have eg : a'.eval (.tmp 27) = .bool false := KS_val (hd.val 11 27 (by decide +kernel)) rfl
                  refine ⟨27, false, rfl, eg, fun _ Q => ?_, fun h => absurd rfl h⟩
                  have e32 : a'.eval (.tmp 32) = .string x.k := KS_val (hd.val 16 32 (by decide +kernel)) rfl
                  have e37 : a'.eval (.tmp 37) = .string y.k := KS_val (hd.val 21 37 (by decide +kernel)) rfl
                  exact wp_value _ (by simp only [execOp, e32, e37, Sem.run_bind, eqg_s, Result.andThen_ok]; rw [HD1.out]; rfl) (KS_mkv rfl rfl)
                · skip
                  intro Q
                  have e27 : a'.eval (.tmp 27) = .bool false := KS_val (hd.val 11 27 (by decide +kernel)) rfl
                  have e38 : a'.eval (.tmp 38) = .bool false := KS_val (hd.val 22 38 (by decide +kernel)) rfl
                  clear hd hk
                  exact wp_value (.bool false) (by simp only [execOp, e27, e38]; go_simp) (KS_mkv rfl rfl)
                · skip
                  intro Q
                  have e39 : a'.eval (.tmp 39) = .bool false := KS_val (hd.val 23 39 (by decide +kernel)) rfl
                  exact wp_value _ (by simp only [execOp, e39]; rfl) (KS_mkv rfl rfl)
                · skip
                  have eg : a'.eval (.tmp 40) = .bool false := KS_val (hd.val 24 40 (by decide +kernel)) rfl
                  refine ⟨40, false, rfl, eg, fun _ Q => ?_, fun h => absurd rfl h⟩
                  have e0 : a'.eval (.tmp 0) = .slice (some ⟨ba, oa, none⟩) n ca := hk.at 0 (by decide +kernel)
                  exact wp_value _ (by simp only [execOp, e0]; rfl) (KS_mkv rfl rfl)
                · skip
                  have eg : a'.eval (.tmp 40) = .bool false := KS_val (hd.val 24 40 (by decide +kernel)) rfl
                  refine ⟨40, false, rfl, eg, fun _ Q => ?_, fun h => absurd rfl h⟩
                  have e5 : a'.eval (.tmp 5) = .int .i64 (i : Int) := hk.at 5 (by decide +kernel)
                  exact wp_value _ (by simp only [execOp, e5]; rfl) (KS_mkv rfl rfl)
                · skip
                  have eg : a'.eval (.tmp 40) = .bool false := KS_val (hd.val 24 40 (by decide +kernel)) rfl
                  refine ⟨40, false, rfl, eg, fun _ Q => ?_, fun h => absurd rfl h⟩
                  have e41 : a'.eval (.tmp 41) = .slice (some ⟨ba, oa, none⟩) n ca := KS_val (hd.val 25 41 (by decide +kernel)) rfl
                  have e42 : a'.eval (.tmp 42) = .int .i64 (i : Int) := KS_val (hd.val 26 42 (by decide +kernel)) rfl
                  clear hd hk
                  exact wp_value (.pointer (some ⟨ba, oa + i * 4, none⟩)) (by simp only [execOp, e41, e42]; go_simp) (KS_mkv rfl rfl)
                · skip
                  have eg : a'.eval (.tmp 40) = .bool false := KS_val (hd.val 24 40 (by decide +kernel)) rfl
                  refine ⟨40, false, rfl, eg, fun _ Q => ?_, fun h => absurd rfl h⟩
                  have e43 : a'.eval (.tmp 43) = .pointer (some ⟨ba, oa + i * 4, none⟩) := KS_val (hd.val 27 43 (by decide +kernel)) rfl
                  clear hd hk
                  exact wp_value (.pointer (some ⟨ba, oa + i * 4 + 2, none⟩)) (by simp only [execOp, e43]; go_simp) (KS_mkv rfl rfl)
                · skip
                  have eg : a'.eval (.tmp 40) = .bool false := KS_val (hd.val 24 40 (by decide +kernel)) rfl
                  refine ⟨40, false, rfl, eg, fun _ Q => ?_, fun h => absurd rfl h⟩
                  have e44 : a'.eval (.tmp 44) = .pointer (some ⟨ba, oa + i * 4 + 2, none⟩) := KS_val (hd.val 28 44 (by decide +kernel)) rfl
                  have hc := XA.out w' hg 2 (.string x.t) rfl
                  clear hd hk
                  exact wp_value (.string x.t) (by simp only [execOp, e44]; go_simp) (KS_mkv rfl rfl)
                · skip
                  have eg : a'.eval (.tmp 40) = .bool false := KS_val (hd.val 24 40 (by decide +kernel)) rfl
                  refine ⟨40, false, rfl, eg, fun _ Q => ?_, fun h => absurd rfl h⟩
                  have e1 : a'.eval (.tmp 1) = .slice (some ⟨bb, ob, none⟩) n cb := hk.at 1 (by decide +kernel)
                  exact wp_value _ (by simp only [execOp, e1]; rfl) (KS_mkv rfl rfl)
                · skip
                  have eg : a'.eval (.tmp 40) = .bool false := KS_val (hd.val 24 40 (by decide +kernel)) rfl
                  refine ⟨40, false, rfl, eg, fun _ Q => ?_, fun h => absurd rfl h⟩
                  have e5 : a'.eval (.tmp 5) = .int .i64 (i : Int) := hk.at 5 (by decide +kernel)
                  exact wp_value _ (by simp only [execOp, e5]; rfl) (KS_mkv rfl rfl)
                · skip
                  have eg : a'.eval (.tmp 40) = .bool false := KS_val (hd.val 24 40 (by decide +kernel)) rfl
                  refine ⟨40, false, rfl, eg, fun _ Q => ?_, fun h => absurd rfl h⟩
                  have e46 : a'.eval (.tmp 46) = .slice (some ⟨bb, ob, none⟩) n cb := KS_val (hd.val 30 46 (by decide +kernel)) rfl
                  have e47 : a'.eval (.tmp 47) = .int .i64 (i : Int) := KS_val (hd.val 31 47 (by decide +kernel)) rfl
                  clear hd hk
                  exact wp_value (.pointer (some ⟨bb, ob + i * 4, none⟩)) (by simp only [execOp, e46, e47]; go_simp) (KS_mkv rfl rfl)
                · skip
                  have eg : a'.eval (.tmp 40) = .bool false := KS_val (hd.val 24 40 (by decide +kernel)) rfl
                  refine ⟨40, false, rfl, eg, fun _ Q => ?_, fun h => absurd rfl h⟩
                  have e48 : a'.eval (.tmp 48) = .pointer (some ⟨bb, ob + i * 4, none⟩) := KS_val (hd.val 32 48 (by decide +kernel)) rfl
                  clear hd hk
                  exact wp_value (.pointer (some ⟨bb, ob + i * 4 + 2, none⟩)) (by simp only [execOp, e48]; go_simp) (KS_mkv rfl rfl)
                · skip
                  have eg : a'.eval (.tmp 40) = .bool false := KS_val (hd.val 24 40 (by decide +kernel)) rfl
                  refine ⟨40, false, rfl, eg, fun _ Q => ?_, fun h => absurd rfl h⟩
                  have e49 : a'.eval (.tmp 49) = .pointer (some ⟨bb, ob + i * 4 + 2, none⟩) := KS_val (hd.val 33 49 (by decide +kernel)) rfl
                  have hc := YA.out w' hg 2 (.string y.t) rfl
                  clear hd hk
                  exact wp_value (.string y.t) (by simp only [execOp, e49]; go_simp) (KS_mkv rfl rfl)
                · skip
                  have eg : a'.eval (.tmp 40) = .bool false := KS_val (hd.val 24 40 (by decide +kernel)) rfl
                  refine ⟨40, false, rfl, eg, fun _ Q => ?_, fun h => absurd rfl h⟩
                  have e45 : a'.eval (.tmp 45) = .string x.t := KS_val (hd.val 29 45 (by decide +kernel)) rfl
                  have e50 : a'.eval (.tmp 50) = .string y.t := KS_val (hd.val 34 50 (by decide +kernel)) rfl
                  exact wp_value _ (by simp only [execOp, e45, e50, Sem.run_bind, eqg_s, Result.andThen_ok]; rw [HD2.out]; rfl) (KS_mkv rfl rfl)
                · skip
                  intro Q
                  have e40 : a'.eval (.tmp 40) = .bool false := KS_val (hd.val 24 40 (by decide +kernel)) rfl
                  have e51 : a'.eval (.tmp 51) = .bool true := KS_val (hd.val 35 51 (by decide +kernel)) rfl
                  clear hd hk
                  exact wp_value (.bool true) (by simp only [execOp, e40, e51]; go_simp) (KS_mkv rfl rfl)
                · skip
                  intro Q
                  have e52 : a'.eval (.tmp 52) = .bool true := KS_val (hd.val 36 52 (by decide +kernel)) rfl
                  exact wp_value _ (by simp only [execOp, e52]; rfl) (KS_mkv rfl rfl)
                · skip
                  have eg : a'.eval (.tmp 53) = .bool true := KS_val (hd.val 37 53 (by decide +kernel)) rfl
                  exact ⟨53, true, rfl, eg, fun h => absurd h (by decide), fun _ => KS_mkf rfl⟩
                · skip
                  have eg : a'.eval (.tmp 53) = .bool true := KS_val (hd.val 37 53 (by decide +kernel)) rfl
                  exact ⟨53, true, rfl, eg, fun h => absurd h (by decide), fun _ => KS_mkf rfl⟩
                · skip
                  have eg : a'.eval (.tmp 53) = .bool true := KS_val (hd.val 37 53 (by decide +kernel)) rfl
                  exact ⟨53, true, rfl, eg, fun h => absurd h (by decide), fun _ => KS_mkf rfl⟩
                · skip
                  have eg : a'.eval (.tmp 53) = .bool true := KS_val (hd.val 37 53 (by decide +kernel)) rfl
                  exact ⟨53, true, rfl, eg, fun h => absurd h (by decide), fun _ => KS_mkf rfl⟩
                · skip
                  have eg : a'.eval (.tmp 53) = .bool true := KS_val (hd.val 37 53 (by decide +kernel)) rfl
                  exact ⟨53, true, rfl, eg, fun h => absurd h (by decide), fun _ => KS_mkf rfl⟩
                · skip
                  have eg : a'.eval (.tmp 53) = .bool true := KS_val (hd.val 37 53 (by decide +kernel)) rfl
                  exact ⟨53, true, rfl, eg, fun h => absurd h (by decide), fun _ => KS_mkf rfl⟩
                · skip
                  have eg : a'.eval (.tmp 53) = .bool true := KS_val (hd.val 37 53 (by decide +kernel)) rfl
                  exact ⟨53, true, rfl, eg, fun h => absurd h (by decide), fun _ => KS_mkf rfl⟩
                · skip
                  have eg : a'.eval (.tmp 53) = .bool true := KS_val (hd.val 37 53 (by decide +kernel)) rfl
                  exact ⟨53, true, rfl, eg, fun h => absurd h (by decide), fun _ => KS_mkf rfl⟩
                · skip
                  have eg : a'.eval (.tmp 53) = .bool true := KS_val (hd.val 37 53 (by decide +kernel)) rfl
                  exact ⟨53, true, rfl, eg, fun h => absurd h (by decide), fun _ => KS_mkf rfl⟩
                · skip
                  have eg : a'.eval (.tmp 53) = .bool true := KS_val (hd.val 37 53 (by decide +kernel)) rfl
                  exact ⟨53, true, rfl, eg, fun h => absurd h (by decide), fun _ => KS_mkf rfl⟩
                · skip
                  have eg : a'.eval (.tmp 53) = .bool true := KS_val (hd.val 37 53 (by decide +kernel)) rfl
                  exact ⟨53, true, rfl, eg, fun h => absurd h (by decide), fun _ => KS_mkf rfl⟩
                · skip
                  have eg : a'.eval (.tmp 53) = .bool true := KS_val (hd.val 37 53 (by decide +kernel)) rfl
                  exact ⟨53, true, rfl, eg, fun h => absurd h (by decide), fun _ => KS_mkf rfl⟩
                · skip
                  intro Q
                  have e53 : a'.eval (.tmp 53) = .bool true := KS_val (hd.val 37 53 (by decide +kernel)) rfl
                  clear hd hk
                  exact wp_value (.bool true) (by simp only [execOp, e53]; go_simp) (KS_mkv rfl rfl)
              · intro a' w5 hsz hdf hk hall hg
                have L5 : Hid (Below w.heap.size w w5) := (show _ from BL.out.trans (hg.mono BL.out.size))
                have e16 : a'.eval (.tmp 16) = .slice (some ⟨ba, oa, none⟩) n ca := KS_val (hall 0 _ 16 rfl rfl) rfl
                have e17 : a'.eval (.tmp 17) = .int .i64 (i : Int) := KS_val (hall 1 _ 17 rfl rfl) rfl
                have e18 : a'.eval (.tmp 18) = .pointer (some ⟨ba, oa + i * 4, none⟩) := KS_val (hall 2 _ 18 rfl rfl) rfl
                have e19 : a'.eval (.tmp 19) = .pointer (some ⟨ba, oa + i * 4, none⟩) := KS_val (hall 3 _ 19 rfl rfl) rfl
                have e20 : a'.eval (.tmp 20) = .bool x.sc := KS_val (hall 4 _ 20 rfl rfl) rfl
                have e21 : a'.eval (.tmp 21) = .slice (some ⟨bb, ob, none⟩) n cb := KS_val (hall 5 _ 21 rfl rfl) rfl
                have e22 : a'.eval (.tmp 22) = .int .i64 (i : Int) := KS_val (hall 6 _ 22 rfl rfl) rfl
                have e23 : a'.eval (.tmp 23) = .pointer (some ⟨bb, ob + i * 4, none⟩) := KS_val (hall 7 _ 23 rfl rfl) rfl
                have e24 : a'.eval (.tmp 24) = .pointer (some ⟨bb, ob + i * 4, none⟩) := KS_val (hall 8 _ 24 rfl rfl) rfl
                have e25 : a'.eval (.tmp 25) = .bool y.sc := KS_val (hall 9 _ 25 rfl rfl) rfl
                have e26 : a'.eval (.tmp 26) = .bool false := KS_val (hall 10 _ 26 rfl rfl) rfl
                have e27 : a'.eval (.tmp 27) = .bool false := KS_val (hall 11 _ 27 rfl rfl) rfl
                have e28 : a'.eval (.tmp 28) = .slice (some ⟨ba, oa, none⟩) n ca := KS_val (hall 12 _ 28 rfl rfl) rfl
                have e29 : a'.eval (.tmp 29) = .int .i64 (i : Int) := KS_val (hall 13 _ 29 rfl rfl) rfl
                have e30 : a'.eval (.tmp 30) = .pointer (some ⟨ba, oa + i * 4, none⟩) := KS_val (hall 14 _ 30 rfl rfl) rfl
                have e31 : a'.eval (.tmp 31) = .pointer (some ⟨ba, oa + i * 4 + 1, none⟩) := KS_val (hall 15 _ 31 rfl rfl) rfl
                have e32 : a'.eval (.tmp 32) = .string x.k := KS_val (hall 16 _ 32 rfl rfl) rfl
                have e33 : a'.eval (.tmp 33) = .slice (some ⟨bb, ob, none⟩) n cb := KS_val (hall 17 _ 33 rfl rfl) rfl
                have e34 : a'.eval (.tmp 34) = .int .i64 (i : Int) := KS_val (hall 18 _ 34 rfl rfl) rfl
                have e35 : a'.eval (.tmp 35) = .pointer (some ⟨bb, ob + i * 4, none⟩) := KS_val (hall 19 _ 35 rfl rfl) rfl
                have e36 : a'.eval (.tmp 36) = .pointer (some ⟨bb, ob + i * 4 + 1, none⟩) := KS_val (hall 20 _ 36 rfl rfl) rfl
                have e37 : a'.eval (.tmp 37) = .string y.k := KS_val (hall 21 _ 37 rfl rfl) rfl
                have e38 : a'.eval (.tmp 38) = .bool false := KS_val (hall 22 _ 38 rfl rfl) rfl
                have e39 : a'.eval (.tmp 39) = .bool false := KS_val (hall 23 _ 39 rfl rfl) rfl
                have e40 : a'.eval (.tmp 40) = .bool false := KS_val (hall 24 _ 40 rfl rfl) rfl
                have e41 : a'.eval (.tmp 41) = .slice (some ⟨ba, oa, none⟩) n ca := KS_val (hall 25 _ 41 rfl rfl) rfl
                have e42 : a'.eval (.tmp 42) = .int .i64 (i : Int) := KS_val (hall 26 _ 42 rfl rfl) rfl
                have e43 : a'.eval (.tmp 43) = .pointer (some ⟨ba, oa + i * 4, none⟩) := KS_val (hall 27 _ 43 rfl rfl) rfl
                have e44 : a'.eval (.tmp 44) = .pointer (some ⟨ba, oa + i * 4 + 2, none⟩) := KS_val (hall 28 _ 44 rfl rfl) rfl
                have e45 : a'.eval (.tmp 45) = .string x.t := KS_val (hall 29 _ 45 rfl rfl) rfl
                have e46 : a'.eval (.tmp 46) = .slice (some ⟨bb, ob, none⟩) n cb := KS_val (hall 30 _ 46 rfl rfl) rfl
                have e47 : a'.eval (.tmp 47) = .int .i64 (i : Int) := KS_val (hall 31 _ 47 rfl rfl) rfl
                have e48 : a'.eval (.tmp 48) = .pointer (some ⟨bb, ob + i * 4, none⟩) := KS_val (hall 32 _ 48 rfl rfl) rfl
                have e49 : a'.eval (.tmp 49) = .pointer (some ⟨bb, ob + i * 4 + 2, none⟩) := KS_val (hall 33 _ 49 rfl rfl) rfl
                have e50 : a'.eval (.tmp 50) = .string y.t := KS_val (hall 34 _ 50 rfl rfl) rfl
                have e51 : a'.eval (.tmp 51) = .bool true := KS_val (hall 35 _ 51 rfl rfl) rfl
                have e52 : a'.eval (.tmp 52) = .bool true := KS_val (hall 36 _ 52 rfl rfl) rfl
                have e53 : a'.eval (.tmp 53) = .bool true := KS_val (hall 37 _ 53 rfl rfl) rfl
                obtain ⟨x54, hx54⟩ : ∃ v, a'.eval (.tmp 54) = v := ⟨_, rfl⟩
                obtain ⟨x55, hx55⟩ : ∃ v, a'.eval (.tmp 55) = v := ⟨_, rfl⟩
                obtain ⟨x56, hx56⟩ : ∃ v, a'.eval (.tmp 56) = v := ⟨_, rfl⟩
                obtain ⟨x57, hx57⟩ : ∃ v, a'.eval (.tmp 57) = v := ⟨_, rfl⟩
                obtain ⟨x58, hx58⟩ : ∃ v, a'.eval (.tmp 58) = v := ⟨_, rfl⟩
                obtain ⟨x59, hx59⟩ : ∃ v, a'.eval (.tmp 59) = v := ⟨_, rfl⟩
                obtain ⟨x60, hx60⟩ : ∃ v, a'.eval (.tmp 60) = v := ⟨_, rfl⟩
                obtain ⟨x61, hx61⟩ : ∃ v, a'.eval (.tmp 61) = v := ⟨_, rfl⟩
                obtain ⟨x62, hx62⟩ : ∃ v, a'.eval (.tmp 62) = v := ⟨_, rfl⟩
                obtain ⟨x63, hx63⟩ : ∃ v, a'.eval (.tmp 63) = v := ⟨_, rfl⟩
                obtain ⟨x64, hx64⟩ : ∃ v, a'.eval (.tmp 64) = v := ⟨_, rfl⟩
                obtain ⟨x65, hx65⟩ : ∃ v, a'.eval (.tmp 65) = v := ⟨_, rfl⟩
                have e66 : a'.eval (.tmp 66) = .bool true := KS_val (hall 50 _ 66 rfl rfl) rfl
                have ha := act_puts 68 rfl hsz hdf hk [16, 17, 18, 19, 20, 21, 22, 23, 24, 25, 26, 27, 28, 29, 30, 31, 32, 33, 34, 35, 36, 37, 38, 39, 40, 41, 42, 43, 44, 45, 46, 47, 48, 49, 50, 51, 52, 53, 54, 55, 56, 57, 58, 59, 60, 61, 62, 63, 64, 65, 66] (by decide +kernel)
                simp only [puts, List.foldl_cons, List.foldl_nil, e16, e17, e18, e19, e20, e21, e22, e23, e24, e25, e26, e27, e28, e29, e30, e31, e32, e33, e34, e35, e36, e37, e38, e39, e40, e41, e42, e43, e44, e45, e46, e47, e48, e49, e50, e51, e52, e53, hx54, hx55, hx56, hx57, hx58, hx59, hx60, hx61, hx62, hx63, hx64, hx65, e66] at ha
                simp only [Act.put, List.setIfInBounds_toArray, List.set_cons_succ, List.set_cons_zero] at ha
                clear hall hk hsz hdf e16 e17 e18 e19 e20 e21 e22 e23 e24 e25 e26 e27 e28 e29 e30 e31 e32 e33 e34 e35 e36 e37 e38 e39 e40 e41 e42 e43 e44 e45 e46 e47 e48 e49 e50 e51 e52 e53 hx54 hx55 hx56 hx57 hx58 hx59 hx60 hx61 hx62 hx63 hx64 hx65 e66
                subst ha
                have HF : z = false := (show _ = _ by
                  rw [Bool.eq_false_iff]
                  intro e
                  replace e := HZ.out.1 e
                  have e1 : (A.map plR)[i]? = (B.map plR)[i]? := by rw [e]
                  rw [List.getElem?_map, List.getElem?_map, List.getElem?_eq_getElem hltA, List.getElem?_eq_getElem hltB, HXx.out, HYy.out] at e1
                  simp only [Option.map_some, Option.some.injEq, plR, Prod.mk.injEq] at e1
                  exact HTt.out e1.2.2.1)
                subst HF
                go_wp2_with fail
                go_ret
                exact ⟨rfl, L5.out⟩
          · have HD1 : Hid (∀ W, (binOp .neq 9 (.string x.k) (.string y.k)).run Try.prog W = .ok (.bool true) W) := (show _ from fun W => by rw [HD1', decide_eq_false hkk]; rfl)
            have HKk := hide hkk
            clear HD0' HD1' HD2' hs hkk
            refine wp_region_inv Try.mixed (KS (fun i_ => match i_ with | 0 | 12 => .val (.slice (some ⟨ba, oa, none⟩) n ca) | 1 | 6 | 13 | 18 => .val (.int .i64 (i : Int)) | 2 | 3 | 14 => .val (.pointer (some ⟨ba, oa + i * 4, none⟩)) | 4 => .val (.bool x.sc) | 5 | 17 => .val (.slice (some ⟨bb, ob, none⟩) n cb) | 7 | 8 | 19 => .val (.pointer (some ⟨bb, ob + i * 4, none⟩)) | 9 => .val (.bool y.sc) | 10 | 11 => .val (.bool false) | 15 => .val (.pointer (some ⟨ba, oa + i * 4 + 1, none⟩)) | 16 => .val (.string x.k) | 20 => .val (.pointer (some ⟨bb, ob + i * 4 + 1, none⟩)) | 21 => .val (.string y.k) | 22 | 23 | 24 | 36 | 37 | 50 => .val (.bool true) | _ => .free)) 68 rfl (by decide +kernel) (KS_mono _) ?_ ?_
            · refine AllFrom.cons (fun a' w' hg hk hd => ?_) (AllFrom.cons (fun a' w' hg hk hd => ?_) (AllFrom.cons (fun a' w' hg hk hd => ?_) (AllFrom.cons (fun a' w' hg hk hd => ?_) (AllFrom.cons (fun a' w' hg hk hd => ?_) (AllFrom.cons (fun a' w' hg hk hd => ?_) (AllFrom.cons (fun a' w' hg hk hd => ?_) (AllFrom.cons (fun a' w' hg hk hd => ?_) (AllFrom.cons (fun a' w' hg hk hd => ?_) (AllFrom.cons (fun a' w' hg hk hd => ?_) (AllFrom.cons (fun a' w' hg hk hd => ?_) (AllFrom.cons (fun a' w' hg hk hd => ?_) (AllFrom.cons (fun a' w' hg hk hd => ?_) (AllFrom.cons (fun a' w' hg hk hd => ?_) (AllFrom.cons (fun a' w' hg hk hd => ?_) (AllFrom.cons (fun a' w' hg hk hd => ?_) (AllFrom.cons (fun a' w' hg hk hd => ?_) (AllFrom.cons (fun a' w' hg hk hd => ?_) (AllFrom.cons (fun a' w' hg hk hd => ?_) (AllFrom.cons (fun a' w' hg hk hd => ?_) (AllFrom.cons (fun a' w' hg hk hd => ?_) (AllFrom.cons (fun a' w' hg hk hd => ?_) (AllFrom.cons (fun a' w' hg hk hd => ?_) (AllFrom.cons (fun a' w' hg hk hd => ?_) (AllFrom.cons (fun a' w' hg hk hd => ?_) (AllFrom.cons (fun a' w' hg hk hd => ?_) (AllFrom.cons (fun a' w' hg hk hd => ?_) (AllFrom.cons (fun a' w' hg hk hd => ?_) (AllFrom.cons (fun a' w' hg hk hd => ?_) (AllFrom.cons (fun a' w' hg hk hd => ?_) (AllFrom.cons (fun a' w' hg hk hd => ?_) (AllFrom.cons (fun a' w' hg hk hd => ?_) (AllFrom.cons (fun a' w' hg hk hd => ?_) (AllFrom.cons (fun a' w' hg hk hd => ?_) (AllFrom.cons (fun a' w' hg hk hd => ?_) (AllFrom.cons (fun a' w' hg hk hd => ?_) (AllFrom.cons (fun a' w' hg hk hd => ?_) (AllFrom.cons (fun a' w' hg hk hd => ?_) (AllFrom.cons (fun a' w' hg hk hd => ?_) (AllFrom.cons (fun a' w' hg hk hd => ?_) (AllFrom.cons (fun a' w' hg hk hd => ?_) (AllFrom.cons (fun a' w' hg hk hd => ?_) (AllFrom.cons (fun a' w' hg hk hd => ?_) (AllFrom.cons (fun a' w' hg hk hd => ?_) (AllFrom.cons (fun a' w' hg hk hd => ?_) (AllFrom.cons (fun a' w' hg hk hd => ?_) (AllFrom.cons (fun a' w' hg hk hd => ?_) (AllFrom.cons (fun a' w' hg hk hd => ?_) (AllFrom.cons (fun a' w' hg hk hd => ?_) (AllFrom.cons (fun a' w' hg hk hd => ?_) (AllFrom.cons (fun a' w' hg hk hd => ?_) AllFrom.nil))))))))))))))))))))))))))))))))))))))))))))))))))
              · skip
                intro Q
                have e0 : a'.eval (.tmp 0) = .slice (some ⟨ba, oa, none⟩) n ca := hk.at 0 (by decide +kernel)
                exact wp_value _ (by simp only [execOp, e0]; rfl) (KS_mkv rfl rfl)
              · skip
                intro Q
                have e5 : a'.eval (.tmp 5) = .int .i64 (i : Int) := hk.at 5 (by decide +kernel)
                exact wp_value _ (by simp only [execOp, e5]; rfl) (KS_mkv rfl rfl)
              · skip
                intro Q
                have e16 : a'.eval (.tmp 16) = .slice (some ⟨ba, oa, none⟩) n ca := KS_val (hd.val 0 16 (by decide +kernel)) rfl
                have e17 : a'.eval (.tmp 17) = .int .i64 (i : Int) := KS_val (hd.val 1 17 (by decide +kernel)) rfl
                clear hd hk
                exact wp_value (.pointer (some ⟨ba, oa + i * 4, none⟩)) (by simp only [execOp, e16, e17]; go_simp) (KS_mkv rfl rfl)
              · skip
                intro Q
                have e18 : a'.eval (.tmp 18) = .pointer (some ⟨ba, oa + i * 4, none⟩) := KS_val (hd.val 2 18 (by decide +kernel)) rfl
                clear hd hk
                exact wp_value (.pointer (some ⟨ba, oa + i * 4, none⟩)) (by simp only [execOp, e18]; go_simp) (KS_mkv rfl rfl)
              · skip
                intro Q
                have e19 : a'.eval (.tmp 19) = .pointer (some ⟨ba, oa + i * 4, none⟩) := KS_val (hd.val 3 19 (by decide +kernel)) rfl
                have hc := (show w'.cell? ⟨ba, oa + i * 4, none⟩ = some (.bool x.sc) from XA.out w' hg 0 (.bool x.sc) rfl)
                clear hd hk
                exact wp_value (.bool x.sc) (by simp only [execOp, e19]; go_simp) (KS_mkv rfl rfl)
              · skip
                intro Q
                have e1 : a'.eval (.tmp 1) = .slice (some ⟨bb, ob, none⟩) n cb := hk.at 1 (by decide +kernel)
                exact wp_value _ (by simp only [execOp, e1]; rfl) (KS_mkv rfl rfl)
              · skip
                intro Q
                have e5 : a'.eval (.tmp 5) = .int .i64 (i : Int) := hk.at 5 (by decide +kernel)
                exact wp_value _ (by simp only [execOp, e5]; rfl) (KS_mkv rfl rfl)
              · skip
                intro Q
                have e21 : a'.eval (.tmp 21) = .slice (some ⟨bb, ob, none⟩) n cb := KS_val (hd.val 5 21 (by decide +kernel)) rfl
                have e22 : a'.eval (.tmp 22) = .int .i64 (i : Int) := KS_val (hd.val 6 22 (by decide +kernel)) rfl
                clear hd hk
                exact wp_value (.pointer (some ⟨bb, ob + i * 4, none⟩)) (by simp only [execOp, e21, e22]; go_simp) (KS_mkv rfl rfl)
              · skip
                intro Q
                have e23 : a'.eval (.tmp 23) = .pointer (some ⟨bb, ob + i * 4, none⟩) := KS_val (hd.val 7 23 (by decide +kernel)) rfl
                clear hd hk
                exact wp_value (.pointer (some ⟨bb, ob + i * 4, none⟩)) (by simp only [execOp, e23]; go_simp) (KS_mkv rfl rfl)
              · skip
                intro Q
                have e24 : a'.eval (.tmp 24) = .pointer (some ⟨bb, ob + i * 4, none⟩) := KS_val (hd.val 8 24 (by decide +kernel)) rfl
                have hc := (show w'.cell? ⟨bb, ob + i * 4, none⟩ = some (.bool y.sc) from YA.out w' hg 0 (.bool y.sc) rfl)
                clear hd hk
                exact wp_value (.bool y.sc) (by simp only [execOp, e24]; go_simp) (KS_mkv rfl rfl)
              · skip
                intro Q
                have e20 : a'.eval (.tmp 20) = .bool x.sc := KS_val (hd.val 4 20 (by decide +kernel)) rfl
                have e25 : a'.eval (.tmp 25) = .bool y.sc := KS_val (hd.val 9 25 (by decide +kernel)) rfl
                exact wp_value _ (by simp only [execOp, e20, e25, Sem.run_bind, eqg_b, Result.andThen_ok]; rw [HD0.out]; rfl) (KS_mkv rfl rfl)
              · skip
                intro Q
                have e26 : a'.eval (.tmp 26) = .bool false := KS_val (hd.val 10 26 (by decide +kernel)) rfl
                exact wp_value _ (by simp only [execOp, e26]; rfl) (KS_mkv rfl rfl)
              · skip
                have eg : a'.eval (.tmp 27) = .bool false := KS_val (hd.val 11 27 (by decide +kernel)) rfl
                refine ⟨27, false, rfl, eg, fun _ Q => ?_, fun h => absurd rfl h⟩
                have e0 : a'.eval (.tmp 0) = .slice (some ⟨ba, oa, none⟩) n ca := hk.at 0 (by decide +kernel)
                exact wp_value _ (by simp only [execOp, e0]; rfl) (KS_mkv rfl rfl)
              · skip
                have eg : a'.eval (.tmp 27) = .bool false := KS_val (hd.val 11 27 (by decide +kernel)) rfl
                refine ⟨27, false, rfl, eg, fun _ Q => ?_, fun h => absurd rfl h⟩
                have e5 : a'.eval (.tmp 5) = .int .i64 (i : Int) := hk.at 5 (by decide +kernel)
                exact wp_value _ (by simp only [execOp, e5]; rfl) (KS_mkv rfl rfl)
              · skip
                have eg : a'.eval (.tmp 27) = .bool false := KS_val (hd.val 11 27 (by decide +kernel)) rfl
                refine ⟨27, false, rfl, eg, fun _ Q => ?_, fun h => absurd rfl h⟩
                have e28 : a'.eval (.tmp 28) = .slice (some ⟨ba, oa, none⟩) n ca := KS_val (hd.val 12 28 (by decide +kernel)) rfl
                have e29 : a'.eval (.tmp 29) = .int .i64 (i : Int) := KS_val (hd.val 13 29 (by decide +kernel)) rfl
                clear hd hk
                exact wp_value (.pointer (some ⟨ba, oa + i * 4, none⟩)) (by simp only [execOp, e28, e29]; go_simp) (KS_mkv rfl rfl)
              · skip
                have eg : a'.eval (.tmp 27) = .bool false := KS_val (hd.val 11 27 (by decide +kernel)) rfl
                refine ⟨27, false, rfl, eg, fun _ Q => ?_, fun h => absurd rfl h⟩
                have e30 : a'.eval (.tmp 30) = .pointer (some ⟨ba, oa + i * 4, none⟩) := KS_val (hd.val 14 30 (by decide +kernel)) rfl
                clear hd hk
                exact wp_value (.pointer (some ⟨ba, oa + i * 4 + 1, none⟩)) (by simp only [execOp, e30]; go_simp) (KS_mkv rfl rfl)
              · skip
                have eg : a'.eval (.tmp 27) = .bool false := KS_val (hd.val 11 27 (by decide +kernel)) rfl
                refine ⟨27, false, rfl, eg, fun _ Q => ?_, fun h => absurd rfl h⟩
                have e31 : a'.eval (.tmp 31) = .pointer (some ⟨ba, oa + i * 4 + 1, none⟩) := KS_val (hd.val 15 31 (by decide +kernel)) rfl
                have hc := XA.out w' hg 1 (.string x.k) rfl
                clear hd hk
                exact wp_value (.string x.k) (by simp only [execOp, e31]; go_simp) (KS_mkv rfl rfl)
              · skip
                have eg : a'.eval (.tmp 27) = .bool false := KS_val (hd.val 11 27 (by decide +kernel)) rfl
                refine ⟨27, false, rfl, eg, fun _ Q => ?_, fun h => absurd rfl h⟩
                have e1 : a'.eval (.tmp 1) = .slice (some ⟨bb, ob, none⟩) n cb := hk.at 1 (by decide +kernel)
                exact wp_value _ (by simp only [execOp, e1]; rfl) (KS_mkv rfl rfl)
              · skip
                have eg : a'.eval (.tmp 27) = .bool false := KS_val (hd.val 11 27 (by decide +kernel)) rfl
                refine ⟨27, false, rfl, eg, fun _ Q => ?_, fun h => absurd rfl h⟩
                have e5 : a'.eval (.tmp 5) = .int .i64 (i : Int) := hk.at 5 (by decide +kernel)
                exact wp_value _ (by simp only [execOp, e5]; rfl) (KS_mkv rfl rfl)
              · skip
                have eg : a'.eval (.tmp 27) = .bool false := KS_val (hd.val 11 27 (by decide +kernel)) rfl
                refine ⟨27, false, rfl, eg, fun _ Q => ?_, fun h => absurd rfl h⟩
                have e33 : a'.eval (.tmp 33) = .slice (some ⟨bb, ob, none⟩) n cb := KS_val (hd.val 17 33 (by decide +kernel)) rfl
                have e34 : a'.eval (.tmp 34) = .int .i64 (i : Int) := KS_val (hd.val 18 34 (by decide +kernel)) rfl
                clear hd hk
                exact wp_value (.pointer (some ⟨bb, ob + i * 4, none⟩)) (by simp only [execOp, e33, e34]; go_simp) (KS_mkv rfl rfl)
              · skip
                have eg : a'.eval (.tmp 27) = .bool false := KS_val (hd.val 11 27 (by decide +kernel)) rfl
                refine ⟨27, false, rfl, eg, fun _ Q => ?_, fun h => absurd rfl h⟩
                have e35 : a'.eval (.tmp 35) = .pointer (some ⟨bb, ob + i * 4, none⟩) := KS_val (hd.val 19 35 (by decide +kernel)) rfl
                clear hd hk
                exact wp_value (.pointer (some ⟨bb, ob + i * 4 + 1, none⟩)) (by simp only [execOp, e35]; go_simp) (KS_mkv rfl rfl)
              · skip
                have eg : a'.eval (.tmp 27) = .bool false := KS_val (hd.val 11 27 (by decide +kernel)) rfl
                refine ⟨27, false, rfl, eg, fun _ Q => ?_, fun h => absurd rfl h⟩
                have e36 : a'.eval (.tmp 36) = .pointer (some ⟨bb, ob + i * 4 + 1, none⟩) := KS_val (hd.val 20 36 (by decide +kernel)) rfl
                have hc := YA.out w' hg 1 (.string y.k) rfl
                clear hd hk
                exact wp_value (.string y.k) (by simp only [execOp, e36]; go_simp) (KS_mkv rfl rfl)
              · skip
                have eg : a'.eval (.tmp 27) = .bool false := KS_val (hd.val 11 27 (by decide +kernel)) rfl
                refine ⟨27, false, rfl, eg, fun _ Q => ?_, fun h => absurd rfl h⟩
                have e32 : a'.eval (.tmp 32) = .string x.k := KS_val (hd.val 16 32 (by decide +kernel)) rfl
                have e37 : a'.eval (.tmp 37) = .string y.k := KS_val (hd.val 21 37 (by decide +kernel)) rfl
                exact wp_value _ (by simp only [execOp, e32, e37, Sem.run_bind, eqg_s, Result.andThen_ok]; rw [HD1.out]; rfl) (KS_mkv rfl rfl)
              · skip
                intro Q
                have e27 : a'.eval (.tmp 27) = .bool false := KS_val (hd.val 11 27 (by decide +kernel)) rfl
                have e38 : a'.eval (.tmp 38) = .bool true := KS_val (hd.val 22 38 (by decide +kernel)) rfl
                clear hd hk
                exact wp_value (.bool true) (by simp only [execOp, e27, e38]; go_simp) (KS_mkv rfl rfl)
              · skip
                intro Q
                have e39 : a'.eval (.tmp 39) = .bool true := KS_val (hd.val 23 39 (by decide +kernel)) rfl
                exact wp_value _ (by simp only [execOp, e39]; rfl) (KS_mkv rfl rfl)
              · skip
                have eg : a'.eval (.tmp 40) = .bool true := KS_val (hd.val 24 40 (by decide +kernel)) rfl
                exact ⟨40, true, rfl, eg, fun h => absurd h (by decide), fun _ => KS_mkf rfl⟩
              · skip
                have eg : a'.eval (.tmp 40) = .bool true := KS_val (hd.val 24 40 (by decide +kernel)) rfl
                exact ⟨40, true, rfl, eg, fun h => absurd h (by decide), fun _ => KS_mkf rfl⟩
              · skip
                have eg : a'.eval (.tmp 40) = .bool true := KS_val (hd.val 24 40 (by decide +kernel)) rfl
                exact ⟨40, true, rfl, eg, fun h => absurd h (by decide), fun _ => KS_mkf rfl⟩
              · skip
                have eg : a'.eval (.tmp 40) = .bool true := KS_val (hd.val 24 40 (by decide +kernel)) rfl
                exact ⟨40, true, rfl, eg, fun h => absurd h (by decide), fun _ => KS_mkf rfl⟩
              · skip
                have eg : a'.eval (.tmp 40) = .bool true := KS_val (hd.val 24 40 (by decide +kernel)) rfl
                exact ⟨40, true, rfl, eg, fun h => absurd h (by decide), fun _ => KS_mkf rfl⟩
              · skip
                have eg : a'.eval (.tmp 40) = .bool true := KS_val (hd.val 24 40 (by decide +kernel)) rfl
                exact ⟨40, true, rfl, eg, fun h => absurd h (by decide), fun _ => KS_mkf rfl⟩
              · skip
                have eg : a'.eval (.tmp 40) = .bool true := KS_val (hd.val 24 40 (by decide +kernel)) rfl
                exact ⟨40, true, rfl, eg, fun h => absurd h (by decide), fun _ => KS_mkf rfl⟩
              · skip
                have eg : a'.eval (.tmp 40) = .bool true := KS_val (hd.val 24 40 (by decide +kernel)) rfl
                exact ⟨40, true, rfl, eg, fun h => absurd h (by decide), fun _ => KS_mkf rfl⟩
              · skip
                have eg : a'.eval (.tmp 40) = .bool true := KS_val (hd.val 24 40 (by decide +kernel)) rfl
                exact ⟨40, true, rfl, eg, fun h => absurd h (by decide), fun _ => KS_mkf rfl⟩
              · skip
                have eg : a'.eval (.tmp 40) = .bool true := KS_val (hd.val 24 40 (by decide +kernel)) rfl
                exact ⟨40, true, rfl, eg, fun h => absurd h (by decide), fun _ => KS_mkf rfl⟩
              · skip
                have eg : a'.eval (.tmp 40) = .bool true := KS_val (hd.val 24 40 (by decide +kernel)) rfl
                exact ⟨40, true, rfl, eg, fun h => absurd h (by decide), fun _ => KS_mkf rfl⟩
              · skip
                intro Q
                have e40 : a'.eval (.tmp 40) = .bool true := KS_val (hd.val 24 40 (by decide +kernel)) rfl
                clear hd hk
                exact wp_value (.bool true) (by simp only [execOp, e40]; go_simp) (KS_mkv rfl rfl)
              · skip
                intro Q
                have e52 : a'.eval (.tmp 52) = .bool true := KS_val (hd.val 36 52 (by decide +kernel)) rfl
                exact wp_value _ (by simp only [execOp, e52]; rfl) (KS_mkv rfl rfl)
              · skip
                have eg : a'.eval (.tmp 53) = .bool true := KS_val (hd.val 37 53 (by decide +kernel)) rfl
                exact ⟨53, true, rfl, eg, fun h => absurd h (by decide), fun _ => KS_mkf rfl⟩
              · skip
                have eg : a'.eval (.tmp 53) = .bool true := KS_val (hd.val 37 53 (by decide +kernel)) rfl
                exact ⟨53, true, rfl, eg, fun h => absurd h (by decide), fun _ => KS_mkf rfl⟩
              · skip
                have eg : a'.eval (.tmp 53) = .bool true := KS_val (hd.val 37 53 (by decide +kernel)) rfl
                exact ⟨53, true, rfl, eg, fun h => absurd h (by decide), fun _ => KS_mkf rfl⟩
              · skip
                have eg : a'.eval (.tmp 53) = .bool true := KS_val (hd.val 37 53 (by decide +kernel)) rfl
                exact ⟨53, true, rfl, eg, fun h => absurd h (by decide), fun _ => KS_mkf rfl⟩
              · skip
                have eg : a'.eval (.tmp 53) = .bool true := KS_val (hd.val 37 53 (by decide +kernel)) rfl
                exact ⟨53, true, rfl, eg, fun h => absurd h (by decide), fun _ => KS_mkf rfl⟩
              · skip
                have eg : a'.eval (.tmp 53) = .bool true := KS_val (hd.val 37 53 (by decide +kernel)) rfl
                exact ⟨53, true, rfl, eg, fun h => absurd h (by decide), fun _ => KS_mkf rfl⟩
              · skip
                have eg : a'.eval (.tmp 53) = .bool true := KS_val (hd.val 37 53 (by decide +kernel)) rfl
                exact ⟨53, true, rfl, eg, fun h => absurd h (by decide), fun _ => KS_mkf rfl⟩
              · skip
                have eg : a'.eval (.tmp 53) = .bool true := KS_val (hd.val 37 53 (by decide +kernel)) rfl
                exact ⟨53, true, rfl, eg, fun h => absurd h (by decide), fun _ => KS_mkf rfl⟩
              · skip
                have eg : a'.eval (.tmp 53) = .bool true := KS_val (hd.val 37 53 (by decide +kernel)) rfl
                exact ⟨53, true, rfl, eg, fun h => absurd h (by decide), fun _ => KS_mkf rfl⟩
              · skip
                have eg : a'.eval (.tmp 53) = .bool true := KS_val (hd.val 37 53 (by decide +kernel)) rfl
                exact ⟨53, true, rfl, eg, fun h => absurd h (by decide), fun _ => KS_mkf rfl⟩
              · skip
                have eg : a'.eval (.tmp 53) = .bool true := KS_val (hd.val 37 53 (by decide +kernel)) rfl
                exact ⟨53, true, rfl, eg, fun h => absurd h (by decide), fun _ => KS_mkf rfl⟩
              · skip
                have eg : a'.eval (.tmp 53) = .bool true := KS_val (hd.val 37 53 (by decide +kernel)) rfl
                exact ⟨53, true, rfl, eg, fun h => absurd h (by decide), fun _ => KS_mkf rfl⟩
              · skip
                intro Q
                have e53 : a'.eval (.tmp 53) = .bool true := KS_val (hd.val 37 53 (by decide +kernel)) rfl
                clear hd hk
                exact wp_value (.bool true) (by simp only [execOp, e53]; go_simp) (KS_mkv rfl rfl)
            · intro a' w5 hsz hdf hk hall hg
              have L5 : Hid (Below w.heap.size w w5) := (show _ from BL.out.trans (hg.mono BL.out.size))
              have e16 : a'.eval (.tmp 16) = .slice (some ⟨ba, oa, none⟩) n ca := KS_val (hall 0 _ 16 rfl rfl) rfl
              have e17 : a'.eval (.tmp 17) = .int .i64 (i : Int) := KS_val (hall 1 _ 17 rfl rfl) rfl
              have e18 : a'.eval (.tmp 18) = .pointer (some ⟨ba, oa + i * 4, none⟩) := KS_val (hall 2 _ 18 rfl rfl) rfl
              have e19 : a'.eval (.tmp 19) = .pointer (some ⟨ba, oa + i * 4, none⟩) := KS_val (hall 3 _ 19 rfl rfl) rfl
              have e20 : a'.eval (.tmp 20) = .bool x.sc := KS_val (hall 4 _ 20 rfl rfl) rfl
              have e21 : a'.eval (.tmp 21) = .slice (some ⟨bb, ob, none⟩) n cb := KS_val (hall 5 _ 21 rfl rfl) rfl
              have e22 : a'.eval (.tmp 22) = .int .i64 (i : Int) := KS_val (hall 6 _ 22 rfl rfl) rfl
              have e23 : a'.eval (.tmp 23) = .pointer (some ⟨bb, ob + i * 4, none⟩) := KS_val (hall 7 _ 23 rfl rfl) rfl
              have e24 : a'.eval (.tmp 24) = .pointer (some ⟨bb, ob + i * 4, none⟩) := KS_val (hall 8 _ 24 rfl rfl) rfl
              have e25 : a'.eval (.tmp 25) = .bool y.sc := KS_val (hall 9 _ 25 rfl rfl) rfl
              have e26 : a'.eval (.tmp 26) = .bool false := KS_val (hall 10 _ 26 rfl rfl) rfl
              have e27 : a'.eval (.tmp 27) = .bool false := KS_val (hall 11 _ 27 rfl rfl) rfl
              have e28 : a'.eval (.tmp 28) = .slice (some ⟨ba, oa, none⟩) n ca := KS_val (hall 12 _ 28 rfl rfl) rfl
              have e29 : a'.eval (.tmp 29) = .int .i64 (i : Int) := KS_val (hall 13 _ 29 rfl rfl) rfl
              have e30 : a'.eval (.tmp 30) = .pointer (some ⟨ba, oa + i * 4, none⟩) := KS_val (hall 14 _ 30 rfl rfl) rfl
              have e31 : a'.eval (.tmp 31) = .pointer (some ⟨ba, oa + i * 4 + 1, none⟩) := KS_val (hall 15 _ 31 rfl rfl) rfl
              have e32 : a'.eval (.tmp 32) = .string x.k := KS_val (hall 16 _ 32 rfl rfl) rfl
              have e33 : a'.eval (.tmp 33) = .slice (some ⟨bb, ob, none⟩) n cb := KS_val (hall 17 _ 33 rfl rfl) rfl
              have e34 : a'.eval (.tmp 34) = .int .i64 (i : Int) := KS_val (hall 18 _ 34 rfl rfl) rfl
              have e35 : a'.eval (.tmp 35) = .pointer (some ⟨bb, ob + i * 4, none⟩) := KS_val (hall 19 _ 35 rfl rfl) rfl
              have e36 : a'.eval (.tmp 36) = .pointer (some ⟨bb, ob + i * 4 + 1, none⟩) := KS_val (hall 20 _ 36 rfl rfl) rfl
              have e37 : a'.eval (.tmp 37) = .string y.k := KS_val (hall 21 _ 37 rfl rfl) rfl
              have e38 : a'.eval (.tmp 38) = .bool true := KS_val (hall 22 _ 38 rfl rfl) rfl
              have e39 : a'.eval (.tmp 39) = .bool true := KS_val (hall 23 _ 39 rfl rfl) rfl
              have e40 : a'.eval (.tmp 40) = .bool true := KS_val (hall 24 _ 40 rfl rfl) rfl
              obtain ⟨x41, hx41⟩ : ∃ v, a'.eval (.tmp 41) = v := ⟨_, rfl⟩
              obtain ⟨x42, hx42⟩ : ∃ v, a'.eval (.tmp 42) = v := ⟨_, rfl⟩
              obtain ⟨x43, hx43⟩ : ∃ v, a'.eval (.tmp 43) = v := ⟨_, rfl⟩
              obtain ⟨x44, hx44⟩ : ∃ v, a'.eval (.tmp 44) = v := ⟨_, rfl⟩
              obtain ⟨x45, hx45⟩ : ∃ v, a'.eval (.tmp 45) = v := ⟨_, rfl⟩
              obtain ⟨x46, hx46⟩ : ∃ v, a'.eval (.tmp 46) = v := ⟨_, rfl⟩
              obtain ⟨x47, hx47⟩ : ∃ v, a'.eval (.tmp 47) = v := ⟨_, rfl⟩
              obtain ⟨x48, hx48⟩ : ∃ v, a'.eval (.tmp 48) = v := ⟨_, rfl⟩
              obtain ⟨x49, hx49⟩ : ∃ v, a'.eval (.tmp 49) = v := ⟨_, rfl⟩
              obtain ⟨x50, hx50⟩ : ∃ v, a'.eval (.tmp 50) = v := ⟨_, rfl⟩
              obtain ⟨x51, hx51⟩ : ∃ v, a'.eval (.tmp 51) = v := ⟨_, rfl⟩
              have e52 : a'.eval (.tmp 52) = .bool true := KS_val (hall 36 _ 52 rfl rfl) rfl
              have e53 : a'.eval (.tmp 53) = .bool true := KS_val (hall 37 _ 53 rfl rfl) rfl
              obtain ⟨x54, hx54⟩ : ∃ v, a'.eval (.tmp 54) = v := ⟨_, rfl⟩
              obtain ⟨x55, hx55⟩ : ∃ v, a'.eval (.tmp 55) = v := ⟨_, rfl⟩
              obtain ⟨x56, hx56⟩ : ∃ v, a'.eval (.tmp 56) = v := ⟨_, rfl⟩
              obtain ⟨x57, hx57⟩ : ∃ v, a'.eval (.tmp 57) = v := ⟨_, rfl⟩
              obtain ⟨x58, hx58⟩ : ∃ v, a'.eval (.tmp 58) = v := ⟨_, rfl⟩
              obtain ⟨x59, hx59⟩ : ∃ v, a'.eval (.tmp 59) = v := ⟨_, rfl⟩
              obtain ⟨x60, hx60⟩ : ∃ v, a'.eval (.tmp 60) = v := ⟨_, rfl⟩
              obtain ⟨x61, hx61⟩ : ∃ v, a'.eval (.tmp 61) = v := ⟨_, rfl⟩
              obtain ⟨x62, hx62⟩ : ∃ v, a'.eval (.tmp 62) = v := ⟨_, rfl⟩
              obtain ⟨x63, hx63⟩ : ∃ v, a'.eval (.tmp 63) = v := ⟨_, rfl⟩
              obtain ⟨x64, hx64⟩ : ∃ v, a'.eval (.tmp 64) = v := ⟨_, rfl⟩
              obtain ⟨x65, hx65⟩ : ∃ v, a'.eval (.tmp 65) = v := ⟨_, rfl⟩
              have e66 : a'.eval (.tmp 66) = .bool true := KS_val (hall 50 _ 66 rfl rfl) rfl
              have ha := act_puts 68 rfl hsz hdf hk [16, 17, 18, 19, 20, 21, 22, 23, 24, 25, 26, 27, 28, 29, 30, 31, 32, 33, 34, 35, 36, 37, 38, 39, 40, 41, 42, 43, 44, 45, 46, 47, 48, 49, 50, 51, 52, 53, 54, 55, 56, 57, 58, 59, 60, 61, 62, 63, 64, 65, 66] (by decide +kernel)
              simp only [puts, List.foldl_cons, List.foldl_nil, e16, e17, e18, e19, e20, e21, e22, e23, e24, e25, e26, e27, e28, e29, e30, e31, e32, e33, e34, e35, e36, e37, e38, e39, e40, hx41, hx42, hx43, hx44, hx45, hx46, hx47, hx48, hx49, hx50, hx51, e52, e53, hx54, hx55, hx56, hx57, hx58, hx59, hx60, hx61, hx62, hx63, hx64, hx65, e66] at ha
              simp only [Act.put, List.setIfInBounds_toArray, List.set_cons_succ, List.set_cons_zero] at ha
              clear hall hk hsz hdf e16 e17 e18 e19 e20 e21 e22 e23 e24 e25 e26 e27 e28 e29 e30 e31 e32 e33 e34 e35 e36 e37 e38 e39 e40 hx41 hx42 hx43 hx44 hx45 hx46 hx47 hx48 hx49 hx50 hx51 e52 e53 hx54 hx55 hx56 hx57 hx58 hx59 hx60 hx61 hx62 hx63 hx64 hx65 e66
              subst ha
              have HF : z = false := (show _ = _ by
                rw [Bool.eq_false_iff]
                intro e
                replace e := HZ.out.1 e
                have e1 : (A.map plR)[i]? = (B.map plR)[i]? := by rw [e]
                rw [List.getElem?_map, List.getElem?_map, List.getElem?_eq_getElem hltA, List.getElem?_eq_getElem hltB, HXx.out, HYy.out] at e1
                simp only [Option.map_some, Option.some.injEq, plR, Prod.mk.injEq] at e1
                exact HKk.out e1.2.1)
              subst HF
              go_wp2_with fail
              go_ret
              exact ⟨rfl, L5.out⟩
        · have HD0 : Hid (∀ W, (binOp .neq 4 (.bool x.sc) (.bool y.sc)).run Try.prog W = .ok (.bool true) W) := (show _ from fun W => by rw [HD0']; simp [hs])
          have HS := hide hs
          clear HD0' HD1' HD2' hs
          refine wp_region_inv Try.mixed (KS (fun i_ => match i_ with | 0 => .val (.slice (some ⟨ba, oa, none⟩) n ca) | 1 | 6 => .val (.int .i64 (i : Int)) | 2 | 3 => .val (.pointer (some ⟨ba, oa + i * 4, none⟩)) | 4 => .val (.bool x.sc) | 5 => .val (.slice (some ⟨bb, ob, none⟩) n cb) | 7 | 8 => .val (.pointer (some ⟨bb, ob + i * 4, none⟩)) | 9 => .val (.bool y.sc) | 10 | 11 | 23 | 24 | 36 | 37 | 50 => .val (.bool true) | _ => .free)) 68 rfl (by decide +kernel) (KS_mono _) ?_ ?_
          · refine AllFrom.cons (fun a' w' hg hk hd => ?_) (AllFrom.cons (fun a' w' hg hk hd => ?_) (AllFrom.cons (fun a' w' hg hk hd => ?_) (AllFrom.cons (fun a' w' hg hk hd => ?_) (AllFrom.cons (fun a' w' hg hk hd => ?_) (AllFrom.cons (fun a' w' hg hk hd => ?_) (AllFrom.cons (fun a' w' hg hk hd => ?_) (AllFrom.cons (fun a' w' hg hk hd => ?_) (AllFrom.cons (fun a' w' hg hk hd => ?_) (AllFrom.cons (fun a' w' hg hk hd => ?_) (AllFrom.cons (fun a' w' hg hk hd => ?_) (AllFrom.cons (fun a' w' hg hk hd => ?_) (AllFrom.cons (fun a' w' hg hk hd => ?_) (AllFrom.cons (fun a' w' hg hk hd => ?_) (AllFrom.cons (fun a' w' hg hk hd => ?_) (AllFrom.cons (fun a' w' hg hk hd => ?_) (AllFrom.cons (fun a' w' hg hk hd => ?_) (AllFrom.cons (fun a' w' hg hk hd => ?_) (AllFrom.cons (fun a' w' hg hk hd => ?_) (AllFrom.cons (fun a' w' hg hk hd => ?_) (AllFrom.cons (fun a' w' hg hk hd => ?_) (AllFrom.cons (fun a' w' hg hk hd => ?_) (AllFrom.cons (fun a' w' hg hk hd => ?_) (AllFrom.cons (fun a' w' hg hk hd => ?_) (AllFrom.cons (fun a' w' hg hk hd => ?_) (AllFrom.cons (fun a' w' hg hk hd => ?_) (AllFrom.cons (fun a' w' hg hk hd => ?_) (AllFrom.cons (fun a' w' hg hk hd => ?_) (AllFrom.cons (fun a' w' hg hk hd => ?_) (AllFrom.cons (fun a' w' hg hk hd => ?_) (AllFrom.cons (fun a' w' hg hk hd => ?_) (AllFrom.cons (fun a' w' hg hk hd => ?_) (AllFrom.cons (fun a' w' hg hk hd => ?_) (AllFrom.cons (fun a' w' hg hk hd => ?_) (AllFrom.cons (fun a' w' hg hk hd => ?_) (AllFrom.cons (fun a' w' hg hk hd => ?_) (AllFrom.cons (fun a' w' hg hk hd => ?_) (AllFrom.cons (fun a' w' hg hk hd => ?_) (AllFrom.cons (fun a' w' hg hk hd => ?_) (AllFrom.cons (fun a' w' hg hk hd => ?_) (AllFrom.cons (fun a' w' hg hk hd => ?_) (AllFrom.cons (fun a' w' hg hk hd => ?_) (AllFrom.cons (fun a' w' hg hk hd => ?_) (AllFrom.cons (fun a' w' hg hk hd => ?_) (AllFrom.cons (fun a' w' hg hk hd => ?_) (AllFrom.cons (fun a' w' hg hk hd => ?_) (AllFrom.cons (fun a' w' hg hk hd => ?_) (AllFrom.cons (fun a' w' hg hk hd => ?_) (AllFrom.cons (fun a' w' hg hk hd => ?_) (AllFrom.cons (fun a' w' hg hk hd => ?_) (AllFrom.cons (fun a' w' hg hk hd => ?_) AllFrom.nil))))))))))))))))))))))))))))))))))))))))))))))))))
            · skip
              intro Q
              have e0 : a'.eval (.tmp 0) = .slice (some ⟨ba, oa, none⟩) n ca := hk.at 0 (by decide +kernel)
              exact wp_value _ (by simp only [execOp, e0]; rfl) (KS_mkv rfl rfl)
            · skip
              intro Q
              have e5 : a'.eval (.tmp 5) = .int .i64 (i : Int) := hk.at 5 (by decide +kernel)
              exact wp_value _ (by simp only [execOp, e5]; rfl) (KS_mkv rfl rfl)
            · skip
              intro Q
              have e16 : a'.eval (.tmp 16) = .slice (some ⟨ba, oa, none⟩) n ca := KS_val (hd.val 0 16 (by decide +kernel)) rfl
              have e17 : a'.eval (.tmp 17) = .int .i64 (i : Int) := KS_val (hd.val 1 17 (by decide +kernel)) rfl
              clear hd hk
              exact wp_value (.pointer (some ⟨ba, oa + i * 4, none⟩)) (by simp only [execOp, e16, e17]; go_simp) (KS_mkv rfl rfl)
            · skip
              intro Q
              have e18 : a'.eval (.tmp 18) = .pointer (some ⟨ba, oa + i * 4, none⟩) := KS_val (hd.val 2 18 (by decide +kernel)) rfl
              clear hd hk
              exact wp_value (.pointer (some ⟨ba, oa + i * 4, none⟩)) (by simp only [execOp, e18]; go_simp) (KS_mkv rfl rfl)
            · skip
              intro Q
              have e19 : a'.eval (.tmp 19) = .pointer (some ⟨ba, oa + i * 4, none⟩) := KS_val (hd.val 3 19 (by decide +kernel)) rfl
              have hc := (show w'.cell? ⟨ba, oa + i * 4, none⟩ = some (.bool x.sc) from XA.out w' hg 0 (.bool x.sc) rfl)
              clear hd hk
              exact wp_value (.bool x.sc) (by simp only [execOp, e19]; go_simp) (KS_mkv rfl rfl)
            · skip
              intro Q
              have e1 : a'.eval (.tmp 1) = .slice (some ⟨bb, ob, none⟩) n cb := hk.at 1 (by decide +kernel)
              exact wp_value _ (by simp only [execOp, e1]; rfl) (KS_mkv rfl rfl)
            · skip
              intro Q
              have e5 : a'.eval (.tmp 5) = .int .i64 (i : Int) := hk.at 5 (by decide +kernel)
              exact wp_value _ (by simp only [execOp, e5]; rfl) (KS_mkv rfl rfl)
            · skip
              intro Q
              have e21 : a'.eval (.tmp 21) = .slice (some ⟨bb, ob, none⟩) n cb := KS_val (hd.val 5 21 (by decide +kernel)) rfl
              have e22 : a'.eval (.tmp 22) = .int .i64 (i : Int) := KS_val (hd.val 6 22 (by decide +kernel)) rfl
              clear hd hk
              exact wp_value (.pointer (some ⟨bb, ob + i * 4, none⟩)) (by simp only [execOp, e21, e22]; go_simp) (KS_mkv rfl rfl)
            · skip
              intro Q
              have e23 : a'.eval (.tmp 23) = .pointer (some ⟨bb, ob + i * 4, none⟩) := KS_val (hd.val 7 23 (by decide +kernel)) rfl
              clear hd hk
              exact wp_value (.pointer (some ⟨bb, ob + i * 4, none⟩)) (by simp only [execOp, e23]; go_simp) (KS_mkv rfl rfl)
            · skip
              intro Q
              have e24 : a'.eval (.tmp 24) = .pointer (some ⟨bb, ob + i * 4, none⟩) := KS_val (hd.val 8 24 (by decide +kernel)) rfl
              have hc := (show w'.cell? ⟨bb, ob + i * 4, none⟩ = some (.bool y.sc) from YA.out w' hg 0 (.bool y.sc) rfl)
              clear hd hk
              exact wp_value (.bool y.sc) (by simp only [execOp, e24]; go_simp) (KS_mkv rfl rfl)
            · skip
              intro Q
              have e20 : a'.eval (.tmp 20) = .bool x.sc := KS_val (hd.val 4 20 (by decide +kernel)) rfl
              have e25 : a'.eval (.tmp 25) = .bool y.sc := KS_val (hd.val 9 25 (by decide +kernel)) rfl
              exact wp_value _ (by simp only [execOp, e20, e25, Sem.run_bind, eqg_b, Result.andThen_ok]; rw [HD0.out]; rfl) (KS_mkv rfl rfl)
            · skip
              intro Q
              have e26 : a'.eval (.tmp 26) = .bool true := KS_val (hd.val 10 26 (by decide +kernel)) rfl
              exact wp_value _ (by simp only [execOp, e26]; rfl) (KS_mkv rfl rfl)
            · skip
              have eg : a'.eval (.tmp 27) = .bool true := KS_val (hd.val 11 27 (by decide +kernel)) rfl
              exact ⟨27, true, rfl, eg, fun h => absurd h (by decide), fun _ => KS_mkf rfl⟩
            · skip
              have eg : a'.eval (.tmp 27) = .bool true := KS_val (hd.val 11 27 (by decide +kernel)) rfl
              exact ⟨27, true, rfl, eg, fun h => absurd h (by decide), fun _ => KS_mkf rfl⟩
            · skip
              have eg : a'.eval (.tmp 27) = .bool true := KS_val (hd.val 11 27 (by decide +kernel)) rfl
              exact ⟨27, true, rfl, eg, fun h => absurd h (by decide), fun _ => KS_mkf rfl⟩
            · skip
              have eg : a'.eval (.tmp 27) = .bool true := KS_val (hd.val 11 27 (by decide +kernel)) rfl
              exact ⟨27, true, rfl, eg, fun h => absurd h (by decide), fun _ => KS_mkf rfl⟩
            · skip
              have eg : a'.eval (.tmp 27) = .bool true := KS_val (hd.val 11 27 (by decide +kernel)) rfl
              exact ⟨27, true, rfl, eg, fun h => absurd h (by decide), fun _ => KS_mkf rfl⟩
            · skip
              have eg : a'.eval (.tmp 27) = .bool true := KS_val (hd.val 11 27 (by decide +kernel)) rfl
              exact ⟨27, true, rfl, eg, fun h => absurd h (by decide), fun _ => KS_mkf rfl⟩
            · skip
              have eg : a'.eval (.tmp 27) = .bool true := KS_val (hd.val 11 27 (by decide +kernel)) rfl
              exact ⟨27, true, rfl, eg, fun h => absurd h (by decide), fun _ => KS_mkf rfl⟩
            · skip
              have eg : a'.eval (.tmp 27) = .bool true := KS_val (hd.val 11 27 (by decide +kernel)) rfl
              exact ⟨27, true, rfl, eg, fun h => absurd h (by decide), fun _ => KS_mkf rfl⟩
            · skip
              have eg : a'.eval (.tmp 27) = .bool true := KS_val (hd.val 11 27 (by decide +kernel)) rfl
              exact ⟨27, true, rfl, eg, fun h => absurd h (by decide), fun _ => KS_mkf rfl⟩
            · skip
              have eg : a'.eval (.tmp 27) = .bool true := KS_val (hd.val 11 27 (by decide +kernel)) rfl
              exact ⟨27, true, rfl, eg, fun h => absurd h (by decide), fun _ => KS_mkf rfl⟩
            · skip
              have eg : a'.eval (.tmp 27) = .bool true := KS_val (hd.val 11 27 (by decide +kernel)) rfl
              exact ⟨27, true, rfl, eg, fun h => absurd h (by decide), fun _ => KS_mkf rfl⟩
            · skip
              intro Q
              have e27 : a'.eval (.tmp 27) = .bool true := KS_val (hd.val 11 27 (by decide +kernel)) rfl
              clear hd hk
              exact wp_value (.bool true) (by simp only [execOp, e27]; go_simp) (KS_mkv rfl rfl)
            · skip
              intro Q
              have e39 : a'.eval (.tmp 39) = .bool true := KS_val (hd.val 23 39 (by decide +kernel)) rfl
              exact wp_value _ (by simp only [execOp, e39]; rfl) (KS_mkv rfl rfl)
            · skip
              have eg : a'.eval (.tmp 40) = .bool true := KS_val (hd.val 24 40 (by decide +kernel)) rfl
              exact ⟨40, true, rfl, eg, fun h => absurd h (by decide), fun _ => KS_mkf rfl⟩
            · skip
              have eg : a'.eval (.tmp 40) = .bool true := KS_val (hd.val 24 40 (by decide +kernel)) rfl
              exact ⟨40, true, rfl, eg, fun h => absurd h (by decide), fun _ => KS_mkf rfl⟩
            · skip
              have eg : a'.eval (.tmp 40) = .bool true := KS_val (hd.val 24 40 (by decide +kernel)) rfl
              exact ⟨40, true, rfl, eg, fun h => absurd h (by decide), fun _ => KS_mkf rfl⟩
            · skip
              have eg : a'.eval (.tmp 40) = .bool true := KS_val (hd.val 24 40 (by decide +kernel)) rfl
              exact ⟨40, true, rfl, eg, fun h => absurd h (by decide), fun _ => KS_mkf rfl⟩
            · skip
              have eg : a'.eval (.tmp 40) = .bool true := KS_val (hd.val 24 40 (by decide +kernel)) rfl
              exact ⟨40, true, rfl, eg, fun h => absurd h (by decide), fun _ => KS_mkf rfl⟩
            · skip
              have eg : a'.eval (.tmp 40) = .bool true := KS_val (hd.val 24 40 (by decide +kernel)) rfl
              exact ⟨40, true, rfl, eg, fun h => absurd h (by decide), fun _ => KS_mkf rfl⟩
            · skip
              have eg : a'.eval (.tmp 40) = .bool true := KS_val (hd.val 24 40 (by decide +kernel)) rfl
              exact ⟨40, true, rfl, eg, fun h => absurd h (by decide), fun _ => KS_mkf rfl⟩
            · skip
              have eg : a'.eval (.tmp 40) = .bool true := KS_val (hd.val 24 40 (by decide +kernel)) rfl
              exact ⟨40, true, rfl, eg, fun h => absurd h (by decide), fun _ => KS_mkf rfl⟩
            · skip
              have eg : a'.eval (.tmp 40) = .bool true := KS_val (hd.val 24 40 (by decide +kernel)) rfl
              exact ⟨40, true, rfl, eg, fun h => absurd h (by decide), fun _ => KS_mkf rfl⟩
            · skip
              have eg : a'.eval (.tmp 40) = .bool true := KS_val (hd.val 24 40 (by decide +kernel)) rfl
              exact ⟨40, true, rfl, eg, fun h => absurd h (by decide), fun _ => KS_mkf rfl⟩
            · skip
              have eg : a'.eval (.tmp 40) = .bool true := KS_val (hd.val 24 40 (by decide +kernel)) rfl
              exact ⟨40, true, rfl, eg, fun h => absurd h (by decide), fun _ => KS_mkf rfl⟩
            · skip
              intro Q
              have e40 : a'.eval (.tmp 40) = .bool true := KS_val (hd.val 24 40 (by decide +kernel)) rfl
              clear hd hk
              exact wp_value (.bool true) (by simp only [execOp, e40]; go_simp) (KS_mkv rfl rfl)
            · skip
              intro Q
              have e52 : a'.eval (.tmp 52) = .bool true := KS_val (hd.val 36 52 (by decide +kernel)) rfl
              exact wp_value _ (by simp only [execOp, e52]; rfl) (KS_mkv rfl rfl)
            · skip
              have eg : a'.eval (.tmp 53) = .bool true := KS_val (hd.val 37 53 (by decide +kernel)) rfl
              exact ⟨53, true, rfl, eg, fun h => absurd h (by decide), fun _ => KS_mkf rfl⟩
            · skip
              have eg : a'.eval (.tmp 53) = .bool true := KS_val (hd.val 37 53 (by decide +kernel)) rfl
              exact ⟨53, true, rfl, eg, fun h => absurd h (by decide), fun _ => KS_mkf rfl⟩
            · skip
              have eg : a'.eval (.tmp 53) = .bool true := KS_val (hd.val 37 53 (by decide +kernel)) rfl
              exact ⟨53, true, rfl, eg, fun h => absurd h (by decide), fun _ => KS_mkf rfl⟩
            · skip
              have eg : a'.eval (.tmp 53) = .bool true := KS_val (hd.val 37 53 (by decide +kernel)) rfl
              exact ⟨53, true, rfl, eg, fun h => absurd h (by decide), fun _ => KS_mkf rfl⟩
            · skip
              have eg : a'.eval (.tmp 53) = .bool true := KS_val (hd.val 37 53 (by decide +kernel)) rfl
              exact ⟨53, true, rfl, eg, fun h => absurd h (by decide), fun _ => KS_mkf rfl⟩
            · skip
              have eg : a'.eval (.tmp 53) = .bool true := KS_val (hd.val 37 53 (by decide +kernel)) rfl
              exact ⟨53, true, rfl, eg, fun h => absurd h (by decide), fun _ => KS_mkf rfl⟩
            · skip
              have eg : a'.eval (.tmp 53) = .bool true := KS_val (hd.val 37 53 (by decide +kernel)) rfl
              exact ⟨53, true, rfl, eg, fun h => absurd h (by decide), fun _ => KS_mkf rfl⟩
            · skip
              have eg : a'.eval (.tmp 53) = .bool true := KS_val (hd.val 37 53 (by decide +kernel)) rfl
              exact ⟨53, true, rfl, eg, fun h => absurd h (by decide), fun _ => KS_mkf rfl⟩
            · skip
              have eg : a'.eval (.tmp 53) = .bool true := KS_val (hd.val 37 53 (by decide +kernel)) rfl
              exact ⟨53, true, rfl, eg, fun h => absurd h (by decide), fun _ => KS_mkf rfl⟩
            · skip
              have eg : a'.eval (.tmp 53) = .bool true := KS_val (hd.val 37 53 (by decide +kernel)) rfl
              exact ⟨53, true, rfl, eg, fun h => absurd h (by decide), fun _ => KS_mkf rfl⟩
            · skip
              have eg : a'.eval (.tmp 53) = .bool true := KS_val (hd.val 37 53 (by decide +kernel)) rfl
              exact ⟨53, true, rfl, eg, fun h => absurd h (by decide), fun _ => KS_mkf rfl⟩
            · skip
              have eg : a'.eval (.tmp 53) = .bool true := KS_val (hd.val 37 53 (by decide +kernel)) rfl
              exact ⟨53, true, rfl, eg, fun h => absurd h (by decide), fun _ => KS_mkf rfl⟩
            · skip
              intro Q
              have e53 : a'.eval (.tmp 53) = .bool true := KS_val (hd.val 37 53 (by decide +kernel)) rfl
              clear hd hk
              exact wp_value (.bool true) (by simp only [execOp, e53]; go_simp) (KS_mkv rfl rfl)
          · intro a' w5 hsz hdf hk hall hg
            have L5 : Hid (Below w.heap.size w w5) := (show _ from BL.out.trans (hg.mono BL.out.size))
            have e16 : a'.eval (.tmp 16) = .slice (some ⟨ba, oa, none⟩) n ca := KS_val (hall 0 _ 16 rfl rfl) rfl
            have e17 : a'.eval (.tmp 17) = .int .i64 (i : Int) := KS_val (hall 1 _ 17 rfl rfl) rfl
            have e18 : a'.eval (.tmp 18) = .pointer (some ⟨ba, oa + i * 4, none⟩) := KS_val (hall 2 _ 18 rfl rfl) rfl
            have e19 : a'.eval (.tmp 19) = .pointer (some ⟨ba, oa + i * 4, none⟩) := KS_val (hall 3 _ 19 rfl rfl) rfl
            have e20 : a'.eval (.tmp 20) = .bool x.sc := KS_val (hall 4 _ 20 rfl rfl) rfl
            have e21 : a'.eval (.tmp 21) = .slice (some ⟨bb, ob, none⟩) n cb := KS_val (hall 5 _ 21 rfl rfl) rfl
            have e22 : a'.eval (.tmp 22) = .int .i64 (i : Int) := KS_val (hall 6 _ 22 rfl rfl) rfl
            have e23 : a'.eval (.tmp 23) = .pointer (some ⟨bb, ob + i * 4, none⟩) := KS_val (hall 7 _ 23 rfl rfl) rfl
            have e24 : a'.eval (.tmp 24) = .pointer (some ⟨bb, ob + i * 4, none⟩) := KS_val (hall 8 _ 24 rfl rfl) rfl
            have e25 : a'.eval (.tmp 25) = .bool y.sc := KS_val (hall 9 _ 25 rfl rfl) rfl
            have e26 : a'.eval (.tmp 26) = .bool true := KS_val (hall 10 _ 26 rfl rfl) rfl
            have e27 : a'.eval (.tmp 27) = .bool true := KS_val (hall 11 _ 27 rfl rfl) rfl
            obtain ⟨x28, hx28⟩ : ∃ v, a'.eval (.tmp 28) = v := ⟨_, rfl⟩
            obtain ⟨x29, hx29⟩ : ∃ v, a'.eval (.tmp 29) = v := ⟨_, rfl⟩
            obtain ⟨x30, hx30⟩ : ∃ v, a'.eval (.tmp 30) = v := ⟨_, rfl⟩
            obtain ⟨x31, hx31⟩ : ∃ v, a'.eval (.tmp 31) = v := ⟨_, rfl⟩
            obtain ⟨x32, hx32⟩ : ∃ v, a'.eval (.tmp 32) = v := ⟨_, rfl⟩
            obtain ⟨x33, hx33⟩ : ∃ v, a'.eval (.tmp 33) = v := ⟨_, rfl⟩
            obtain ⟨x34, hx34⟩ : ∃ v, a'.eval (.tmp 34) = v := ⟨_, rfl⟩
            obtain ⟨x35, hx35⟩ : ∃ v, a'.eval (.tmp 35) = v := ⟨_, rfl⟩
            obtain ⟨x36, hx36⟩ : ∃ v, a'.eval (.tmp 36) = v := ⟨_, rfl⟩
            obtain ⟨x37, hx37⟩ : ∃ v, a'.eval (.tmp 37) = v := ⟨_, rfl⟩
            obtain ⟨x38, hx38⟩ : ∃ v, a'.eval (.tmp 38) = v := ⟨_, rfl⟩
            have e39 : a'.eval (.tmp 39) = .bool true := KS_val (hall 23 _ 39 rfl rfl) rfl
            have e40 : a'.eval (.tmp 40) = .bool true := KS_val (hall 24 _ 40 rfl rfl) rfl
            obtain ⟨x41, hx41⟩ : ∃ v, a'.eval (.tmp 41) = v := ⟨_, rfl⟩
            obtain ⟨x42, hx42⟩ : ∃ v, a'.eval (.tmp 42) = v := ⟨_, rfl⟩
            obtain ⟨x43, hx43⟩ : ∃ v, a'.eval (.tmp 43) = v := ⟨_, rfl⟩
            obtain ⟨x44, hx44⟩ : ∃ v, a'.eval (.tmp 44) = v := ⟨_, rfl⟩
            obtain ⟨x45, hx45⟩ : ∃ v, a'.eval (.tmp 45) = v := ⟨_, rfl⟩
            obtain ⟨x46, hx46⟩ : ∃ v, a'.eval (.tmp 46) = v := ⟨_, rfl⟩
            obtain ⟨x47, hx47⟩ : ∃ v, a'.eval (.tmp 47) = v := ⟨_, rfl⟩
            obtain ⟨x48, hx48⟩ : ∃ v, a'.eval (.tmp 48) = v := ⟨_, rfl⟩
            obtain ⟨x49, hx49⟩ : ∃ v, a'.eval (.tmp 49) = v := ⟨_, rfl⟩
            obtain ⟨x50, hx50⟩ : ∃ v, a'.eval (.tmp 50) = v := ⟨_, rfl⟩
            obtain ⟨x51, hx51⟩ : ∃ v, a'.eval (.tmp 51) = v := ⟨_, rfl⟩
            have e52 : a'.eval (.tmp 52) = .bool true := KS_val (hall 36 _ 52 rfl rfl) rfl
            have e53 : a'.eval (.tmp 53) = .bool true := KS_val (hall 37 _ 53 rfl rfl) rfl
            obtain ⟨x54, hx54⟩ : ∃ v, a'.eval (.tmp 54) = v := ⟨_, rfl⟩
            obtain ⟨x55, hx55⟩ : ∃ v, a'.eval (.tmp 55) = v := ⟨_, rfl⟩
            obtain ⟨x56, hx56⟩ : ∃ v, a'.eval (.tmp 56) = v := ⟨_, rfl⟩
            obtain ⟨x57, hx57⟩ : ∃ v, a'.eval (.tmp 57) = v := ⟨_, rfl⟩
            obtain ⟨x58, hx58⟩ : ∃ v, a'.eval (.tmp 58) = v := ⟨_, rfl⟩
            obtain ⟨x59, hx59⟩ : ∃ v, a'.eval (.tmp 59) = v := ⟨_, rfl⟩
            obtain ⟨x60, hx60⟩ : ∃ v, a'.eval (.tmp 60) = v := ⟨_, rfl⟩
            obtain ⟨x61, hx61⟩ : ∃ v, a'.eval (.tmp 61) = v := ⟨_, rfl⟩
            obtain ⟨x62, hx62⟩ : ∃ v, a'.eval (.tmp 62) = v := ⟨_, rfl⟩
            obtain ⟨x63, hx63⟩ : ∃ v, a'.eval (.tmp 63) = v := ⟨_, rfl⟩
            obtain ⟨x64, hx64⟩ : ∃ v, a'.eval (.tmp 64) = v := ⟨_, rfl⟩
            obtain ⟨x65, hx65⟩ : ∃ v, a'.eval (.tmp 65) = v := ⟨_, rfl⟩
            have e66 : a'.eval (.tmp 66) = .bool true := KS_val (hall 50 _ 66 rfl rfl) rfl
            have ha := act_puts 68 rfl hsz hdf hk [16, 17, 18, 19, 20, 21, 22, 23, 24, 25, 26, 27, 28, 29, 30, 31, 32, 33, 34, 35, 36, 37, 38, 39, 40, 41, 42, 43, 44, 45, 46, 47, 48, 49, 50, 51, 52, 53, 54, 55, 56, 57, 58, 59, 60, 61, 62, 63, 64, 65, 66] (by decide +kernel)
            simp only [puts, List.foldl_cons, List.foldl_nil, e16, e17, e18, e19, e20, e21, e22, e23, e24, e25, e26, e27, hx28, hx29, hx30, hx31, hx32, hx33, hx34, hx35, hx36, hx37, hx38, e39, e40, hx41, hx42, hx43, hx44, hx45, hx46, hx47, hx48, hx49, hx50, hx51, e52, e53, hx54, hx55, hx56, hx57, hx58, hx59, hx60, hx61, hx62, hx63, hx64, hx65, e66] at ha
            simp only [Act.put, List.setIfInBounds_toArray, List.set_cons_succ, List.set_cons_zero] at ha
            clear hall hk hsz hdf e16 e17 e18 e19 e20 e21 e22 e23 e24 e25 e26 e27 hx28 hx29 hx30 hx31 hx32 hx33 hx34 hx35 hx36 hx37 hx38 e39 e40 hx41 hx42 hx43 hx44 hx45 hx46 hx47 hx48 hx49 hx50 hx51 e52 e53 hx54 hx55 hx56 hx57 hx58 hx59 hx60 hx61 hx62 hx63 hx64 hx65 e66
            subst ha
            have HF : z = false := (show _ = _ by
              rw [Bool.eq_false_iff]
              intro e
              replace e := HZ.out.1 e
              have e1 : (A.map plR)[i]? = (B.map plR)[i]? := by rw [e]
              rw [List.getElem?_map, List.getElem?_map, List.getElem?_eq_getElem hltA, List.getElem?_eq_getElem hltB, HXx.out, HYy.out] at e1
              simp only [Option.map_some, Option.some.injEq, plR, Prod.mk.injEq] at e1
              exact HS.out e1.1)
            subst HF
            go_wp2_with fail
            go_ret
            exact ⟨rfl, L5.out⟩
      · obtain rfl : i = n := by omega
        have hlt' : ¬ (i : Int) < i := by omega
        have HF : z = true := (show _ = _ by
          rw [HZ.out]
          have := HT.out
          rwa [List.take_of_length_le (by rw [HN.out]; exact Nat.le_refl _), List.take_of_length_le (by rw [HNB.out]; exact Nat.le_refl _)] at this)
        subst HF
        go_wp2_with fail
        go_ret
        exact ⟨rfl, BL.out⟩
  · have hne : ((A.length : Int) != (B.length : Int)) = true := by simp; omega
    have HF : z = false := (show _ = _ by
      rw [Bool.eq_false_iff]
      exact fun e => hlen (by have := congrArg List.length (HZ.out.1 e); simpa using this))
    subst HF
    clear hlen
    go_enter Try.func23, Try.ntmps23
    go_wp2_with fail
    go_ret
    exact ⟨rfl, Below.refl _ _⟩
#print axioms sameX_any
end Go.Proofs.Ytmicmbjbclkbjaa
