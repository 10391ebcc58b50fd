/-
  The reference's Same: what the call does.
-/
import Derived.Test.YtgdhjgfoalianaaDoorQScan
namespace Go.Proofs.YtgdhjgfoalianaaDoor
open Go.RowKit

theorem ba_eq {s t : List UInt8} : ((⟨s.toArray⟩ : ByteArray).toList == (⟨t.toArray⟩ : ByteArray).toList) = decide (s = t) := by
  rw [ByteArray.toList_eq, ByteArray.toList_eq]
  show (s.toArray.toList == t.toArray.toList) = _
  rw [List.toList_toArray, List.toList_toArray]
  by_cases h : s = t
  · subst h; simp
  · simp [h]

set_option maxRecDepth 100000 in
set_option maxHeartbeats 1000000 in
theorem qsame_any (u v : Value) (A B : List (List UInt8)) (w : World) (hu : RdR w u A) (hv : RdR w v B) (hl : A.length ≤ 1000000) (hl2 : B.length ≤ 1000000) :
    Calls Tryd.prog 31 #[u, v] w fun e w' => e = .returned (.bool (decide (A = B))) ∧ Below w.heap.size w w' := by
  obtain ⟨a, cap, rfl, h4⟩ := hu
  obtain ⟨a2, cap2, rfl, h5⟩ := hv
  by_cases hlen : A.length = B.length
  · have hne : ((A.length : Int) != (B.length : Int)) = false := by simp [hlen]
    have HLEN := hide hlen
    clear hlen
    have H4 := hide h4
    have H5 := hide h5
    clear h4 h5
    go_enter Tryd.func31, Tryd.ntmps31
    go_wp2_with fail
    go_loopg [13] (A.length + 1) (fun g z wr => ∃ i : Nat, i ≤ A.length ∧ g + i = A.length + 1 ∧ z = .int .i64 (i : Int) ∧ Hid (A.take i = B.take i) ∧ Hid (Below w.heap.size w wr))
    case atStart => exact ⟨0, Nat.zero_le _, rfl, rfl, rfl, Below.refl _ _⟩
    case round =>
      obtain ⟨i, hi, hg, rfl, HT, BL⟩ := hrel
      by_cases hlt : i < A.length
      · have hlt2 : i < B.length := by have := HLEN.out; omega
        obtain ⟨b, off, rfl, hb1, hc⟩ := H4.out (by omega)
        obtain ⟨b2, off2, rfl, hb2, hc2⟩ := H5.out (by omega)
        obtain ⟨x, hx, rx⟩ := hc i hlt
        obtain ⟨y, hy, ry⟩ := hc2 i hlt2
        have hd : Below w.heap.size w wr.drew := BL.out.trans ⟨rfl, rfl, rfl, Nat.le_refl _, fun _ _ => rfl⟩
        have cx : wr.drew.cell? ⟨b, off + i, none⟩ = some x := (hd.cell (p := ⟨b, off + i, none⟩) hb1).trans hx
        have cy : wr.drew.cell? ⟨b2, off2 + i, none⟩ = some y := (hd.cell (p := ⟨b2, off2 + i, none⟩) hb2).trans hy
        have kx := (rx.kept hd).conv (P := Tryd.prog) 33 9 Tryd.underlying33 Tryd.underlying5 Tryd.underlying9
        have ky := (ry.kept hd).conv (P := Tryd.prog) 33 9 Tryd.underlying33 Tryd.underlying5 Tryd.underlying9
        obtain ⟨xa, xc, rfl⟩ := rx.slice
        obtain ⟨ya, yc, rfl⟩ := ry.slice
        have hlt' : (i : Int) < A.length := by omega
        have hlt2' : (i : Int) < B.length := by omega
        have HD := hide hd
        obtain ⟨q, hq⟩ : ∃ q, decide (A[i] = B[i]) = q := ⟨_, rfl⟩
        have hba := ba_eq (s := A[i]) (t := B[i])
        rw [hq] at hba
        have HQ := hide hq
        clear hc hc2 hx hy rx ry hd hq
        go_upto_region 6 with fail
        refine wp_region_still_tail 10 Tryd.mixed (by kernel_rfl) ?_
        simp only [List.take_succ_cons, List.take_zero, List.drop_succ_cons, List.drop_zero]
        iterate 10 still_step
        refine wpStill_nil ?_
        clear cx cy kx ky
        cases q with
        | true =>
          have HT2 : Hid (A.take (i + 1) = B.take (i + 1)) := (show _ = _ by rw [List.take_succ_eq_append_getElem hlt, List.take_succ_eq_append_getElem hlt2, HT.out, of_decide_eq_true HQ.out])
          generalize (⟨A[i].toArray⟩ : ByteArray) = s1 at hba ⊢
          generalize (⟨B[i].toArray⟩ : ByteArray) = s2 at hba ⊢
          go_wp2_with fail
          go_roundg (gk - 1)
          case measure => omega
          case rel => exact ⟨i + 1, by omega, by omega, by go_num, HT2, HD⟩
        | false =>
          have HF : Hid (decide (A = B) = false) := (show _ = _ by
            rw [decide_eq_false_iff_not]
            intro e
            have := of_decide_eq_false HQ.out
            subst e
            exact this rfl)
          generalize (⟨A[i].toArray⟩ : ByteArray) = s1 at hba ⊢
          generalize (⟨B[i].toArray⟩ : ByteArray) = s2 at hba ⊢
          go_wp2_with fail
          go_ret
          exact ⟨by rw [HF.out]; rfl, HD.out⟩
      · obtain rfl : i = A.length := by omega
        have HF : Hid (decide (A = B) = true) := (show _ = _ by
          rw [decide_eq_true_eq]
          have := HT.out
          rwa [List.take_of_length_le (Nat.le_refl _), HLEN.out, List.take_of_length_le (Nat.le_refl _)] at this)
        have hlt' : ¬ (A.length : Int) < A.length := by omega
        go_wp2_with fail
        go_ret
        exact ⟨by rw [HF.out]; rfl, BL.out⟩
  · have hne : ((A.length : Int) != (B.length : Int)) = true := by simp; omega
    have HF : Hid (decide (A = B) = false) := (show _ = _ by
      rw [decide_eq_false_iff_not]
      exact fun e => hlen (by rw [e]))
    clear hlen h4 h5
    go_enter Tryd.func31, Tryd.ntmps31
    go_wp2_with fail
    go_ret
    exact ⟨by rw [HF.out]; rfl, Below.refl _ _⟩
#print axioms qsame_any
end Go.Proofs.YtgdhjgfoalianaaDoor
