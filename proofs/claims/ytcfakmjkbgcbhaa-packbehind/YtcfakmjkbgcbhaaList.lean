/-
  pack.List, indentureref01.List: what the calls do.
-/
import Derived.Test.YtcfakmjkbgcbhaaStr
namespace Go.Proofs.Ytcfakmjkbgcbhaa
open Go.RowKit

/-- The slice value v reads as the texts ss. -/
def RdS (w : World) (v : Value) (ss : List ByteArray) : Prop :=
  ∃ a cap, v = .slice a ss.length cap ∧ ss.length ≤ cap ∧ cap ≤ maxLen ∧ (a = none → cap = 0) ∧
    (0 < ss.length → ∃ b off, a = some ⟨b, off, none⟩ ∧ b < w.heap.size ∧ ∀ j (hj : j < ss.length), w.cell? ⟨b, off + j, none⟩ = some (.string ss[j]))

theorem RdS.kept {w w' : World} {v : Value} {ss : List ByteArray} (h : RdS w v ss) (hb : Below w.heap.size w w') : RdS w' v ss := by
  obtain ⟨a, cap, rfl, h1, h2, h3, h4⟩ := h
  refine ⟨a, cap, rfl, h1, h2, h3, fun hl => ?_⟩
  obtain ⟨b, off, rfl, hlt, hc⟩ := h4 hl
  exact ⟨b, off, rfl, Nat.lt_of_lt_of_le hlt hb.size, fun j hj => (hb.cell (p := ⟨b, off + j, none⟩) hlt).trans (hc j hj)⟩
theorem RdS_nil (w : World) : RdS w (.slice none 0 0) [] := ⟨none, 0, rfl, by simp, by simp, fun _ => rfl, fun h => by simp at h⟩

/-- The texts' bytes. -/
def sls (ss : List ByteArray) : List (List UInt8) := ss.map sl
theorem sls_length (ss : List ByteArray) : (sls ss).length = ss.length := by simp [sls]
theorem sls_get {ss : List ByteArray} {i : Nat} (h : i < ss.length) : (sls ss)[i]'(by rw [sls_length]; exact h) = sl ss[i] := by simp [sls]

theorem own_step {w : World} {B i : Nat} {v : Value} {l : List UInt8} {ss : List ByteArray} (h : i < ss.length) (ho : Own w B v (l ++ encT ((sls ss).take i) ++ encS (sl ss[i]))) : Own w B v (l ++ encT ((sls ss).take (i + 1))) := by
  rw [encT_take (sls ss) i (by rw [sls_length]; exact h), sls_get h, ← List.append_assoc]
  exact ho

theorem step_len {i : Nat} {ss : List ByteArray} (h : i < ss.length) : (encT ((sls ss).take i)).length + ss[i].size ≤ (encT (sls ss)).length := by
  have h1 := encT_take_le (sls ss) (i + 1)
  rw [encT_take (sls ss) i (by rw [sls_length]; exact h), sls_get h] at h1
  simp only [encS, List.length_append, sl_length] at h1
  omega

set_option maxRecDepth 100000 in
set_option maxHeartbeats 800000 in
theorem list_any (v u : Value) (l : List UInt8) (ss : List ByteArray) (w : World) (h : Rd w v l) (hu : RdS w u ss) (hl : l.length + ss.length + (encT (sls ss)).length ≤ 140737488100000) :
    Calls Try.prog 25 #[v, u] w fun e w' => ∃ v', e = .returned v' ∧ Own w' w.heap.size v' (l ++ encL (sls ss)) ∧ Below w.heap.size w w' := by
  have hu0 := hu
  obtain ⟨a, cap, rfl, h1, h2, h3, h4⟩ := hu
  have hel := enc_length ss.length
  have hsl : (ss.length : Int) ≤ 140737488100000 := by omega
  go_enter Try.func25, Try.ntmps25
  go_wp2_with fail
  refine (fresh_any v l 9 _ h (by omega)).mono ?_
  rintro e w1 ⟨v1, rfl, ho1, hb1⟩
  go_wp2_with fail
  refine (addNum_any v1 l ss.length w.heap.size _ ho1 hb1.size (small_pow (by omega)) (by omega)).mono ?_
  rintro e w2 ⟨v2, rfl, ho2, hb2⟩
  have hbw := hb1.trans hb2
  clear ho1 hb1 hb2 h
  go_wp2_with fail
  go_loopw [5, 16] (fun y z wr => ∃ i : Nat, i ≤ ss.length ∧ z = .int .i64 i ∧ Hid (Own wr w.heap.size y (l ++ enc ss.length ++ encT ((sls ss).take i))) ∧ Below w.heap.size w wr)
    (fun _ z _ => ss.length - (intOf z).toNat)
  case atStart => exact ⟨0, Nat.zero_le _, rfl, (show Own _ _ _ _ by simpa [encT] using ho2), hbw⟩
  case round =>
    clear ho2 hbw
    obtain ⟨i, hi, rfl, how, hbel⟩ := hrel
    by_cases hlt : i < ss.length
    · obtain ⟨b, off, rfl, hbl, hc⟩ := h4 (by omega)
      have hlt' : (i : Int) < ss.length := by omega
      have hcell : wr.cell? ⟨b, off + i, none⟩ = some (.string ss[i]) := (hbel.cell (p := ⟨b, off + i, none⟩) hbl).trans (hc i hlt)
      have hsn := step_len hlt
      have HO : Hid (∀ v' w', Own w' w.heap.size v' (l ++ enc ss.length ++ encT ((sls ss).take i) ++ encS (sl ss[i])) → Own w' w.heap.size v' (l ++ enc ss.length ++ encT ((sls ss).take (i + 1)))) := (show ∀ v' w', _ from fun v' w' ho => own_step hlt ho)
      generalize ss[i] = s at *
      go_wp2_with fail
      refine (addStr_any _ _ s w.heap.size _ how.out hbel.size (by simp; omega)).mono ?_
      rintro e w3 ⟨v3, rfl, ho3, hb3⟩
      go_wp2_with fail
      go_roundw
      case rel => exact ⟨i + 1, by omega, by go_num, HO.out _ _ ho3, hbel.trans hb3⟩
      case measure => simp [intOf]; omega
    · obtain rfl : i = ss.length := by omega
      go_wp2_with fail
      go_ret
      refine ⟨_, rfl, ?_, hbel⟩
      unfold encL
      rw [sls_length, ← List.append_assoc]
      have := how.out
      rwa [List.take_of_length_le (by rw [sls_length]; omega)] at this

set_option maxRecDepth 100000 in
set_option maxHeartbeats 800000 in
theorem refList_any (v u : Value) (l : List UInt8) (ss : List ByteArray) (w : World) (h : Rd w v l) (hu : RdS w u ss) (hl : l.length + ss.length + (encT (sls ss)).length ≤ 140737488100000) :
    Calls Try.prog 26 #[v, u] w fun e w' => ∃ v', e = .returned v' ∧ Own w' w.heap.size v' (l ++ encL (sls ss)) ∧ Below w.heap.size w w' := by
  have hu0 := hu
  obtain ⟨a, cap, rfl, h1, h2, h3, h4⟩ := hu
  have hel := enc_length ss.length
  have hsl : (ss.length : Int) ≤ 140737488100000 := by omega
  go_enter Try.func26, Try.ntmps26
  go_wp2_with fail
  refine (refNum_any v l ss.length _ h (small_pow (by omega)) (by omega)).mono ?_
  rintro e w2 ⟨v2, rfl, ho2, hbw⟩
  clear h
  go_wp2_with fail
  go_loopw [5, 15] (fun y z wr => ∃ i : Nat, i ≤ ss.length ∧ z = .int .i64 i ∧ Hid (Own wr w.heap.size y (l ++ enc ss.length ++ encT ((sls ss).take i))) ∧ Below w.heap.size w wr)
    (fun _ z _ => ss.length - (intOf z).toNat)
  case atStart => exact ⟨0, Nat.zero_le _, rfl, (show Own _ _ _ _ by simpa [encT] using ho2), hbw⟩
  case round =>
    clear ho2 hbw
    obtain ⟨i, hi, rfl, how, hbel⟩ := hrel
    by_cases hlt : i < ss.length
    · obtain ⟨b, off, rfl, hbl, hc⟩ := h4 (by omega)
      have hlt' : (i : Int) < ss.length := by omega
      have hcell : wr.cell? ⟨b, off + i, none⟩ = some (.string ss[i]) := (hbel.cell (p := ⟨b, off + i, none⟩) hbl).trans (hc i hlt)
      have hsn := step_len hlt
      have HO : Hid (∀ v' w', Own w' w.heap.size v' (l ++ enc ss.length ++ encT ((sls ss).take i) ++ encS (sl ss[i])) → Own w' w.heap.size v' (l ++ enc ss.length ++ encT ((sls ss).take (i + 1)))) := (show ∀ v' w', _ from fun v' w' ho => own_step hlt ho)
      generalize ss[i] = s at *
      go_wp2_with fail
      refine (refStr_any _ _ s _ how.out.rd (by simp; omega)).mono ?_
      rintro e w3 ⟨v3, rfl, ho3, hb3⟩
      go_wp2_with fail
      go_roundw
      case rel => exact ⟨i + 1, by omega, by go_num, HO.out _ _ (ho3.mono hbel.size), hbel.trans (hb3.mono hbel.size)⟩
      case measure => simp [intOf]; omega
    · obtain rfl : i = ss.length := by omega
      go_wp2_with fail
      go_ret
      refine ⟨_, rfl, ?_, hbel⟩
      unfold encL
      rw [sls_length, ← List.append_assoc]
      have := how.out
      rwa [List.take_of_length_le (by rw [sls_length]; omega)] at this
#print axioms list_any
#print axioms refList_any
end Go.Proofs.Ytcfakmjkbgcbhaa
