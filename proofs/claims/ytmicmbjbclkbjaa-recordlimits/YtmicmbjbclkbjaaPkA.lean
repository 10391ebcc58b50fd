/-
  pack.addStr, Str, Flag; the reference's: what the calls do.
-/
import Derived.Test.YtmicmbjbclkbjaaRef
namespace Go.Proofs.Ytmicmbjbclkbjaa
open Go.RowKit
set_option maxRecDepth 100000 in
set_option maxHeartbeats 800000 in
theorem addStr_any (v : Value) (l : List UInt8) (s : ByteArray) (B : Nat) (w : World) (h : Own w B v l) (hB : B ≤ w.heap.size) (hl : l.length + s.size ≤ 140737488200000) :
    Calls Try.prog 82 #[v, .string s] w fun e w' => ∃ v', e = .returned v' ∧ Own w' B v' (l ++ encS (sl s)) ∧ Below B w w' := by
  obtain ⟨i0, hi, hz0, hz1, hz2⟩ := info_parts Try.info5S
  have hs := sl_length s
  have HS : Hid ((sl s).length = s.size) := hs
  have hs2 : (s.size : Int) ≤ 140737488200000 := by omega
  have hel := enc_length s.size
  clear hs
  go_enter Try.func82, Try.ntmps82
  go_wp2_with fail
  refine (addNum_any v l s.size B _ h hB (small_pow (by omega)) (by omega)).mono ?_
  rintro e w1 ⟨v1, rfl, ho1, hb1⟩
  go_wp2_with (at_builtin; refine wpList_append_bytes _ rfl (.tmp 9) (.tmp 10) 22 9 rfl B i0 Try.underlying22 hi hz0 hz1 hz2 v1 (l ++ enc s.size) rfl ho1 _ (sl s) rfl (src_str _ 9 Try.underlying9 s) (by have := HS.out; simp; omega) (by have := hb1.size; omega) ?_; intro v2 w2 ho2 hb2)
  go_ret
  refine ⟨_, rfl, ?_, hb1.trans hb2⟩
  unfold encS
  rw [HS.out, ← List.append_assoc]
  exact ho2

set_option maxRecDepth 100000 in
set_option maxHeartbeats 800000 in
theorem str_any (v : Value) (l : List UInt8) (s : ByteArray) (w : World) (h : Rd w v l) (hl : l.length + s.size ≤ 140737488200000) :
    Calls Try.prog 79 #[v, .string s] w fun e w' => ∃ v', e = .returned v' ∧ Own w' w.heap.size v' (l ++ encS (sl s)) ∧ Below w.heap.size w w' := by
  have hs2 : (s.size : Int) ≤ 140737488200000 := by omega
  go_enter Try.func79, Try.ntmps79
  go_wp2_with fail
  rw [show (9 + (s.size : Int)) = ((9 + s.size : Nat) : Int) from by omega]
  refine (fresh_any v l (9 + s.size) _ h (by omega)).mono ?_
  rintro e w1 ⟨v1, rfl, ho1, hb1⟩
  go_wp2_with fail
  refine (addStr_any v1 l s w.heap.size _ ho1 hb1.size hl).mono ?_
  rintro e w2 ⟨v2, rfl, ho2, hb2⟩
  go_wp2_with fail
  go_ret
  exact ⟨_, rfl, ho2, hb1.trans hb2⟩

set_option maxRecDepth 100000 in
set_option maxHeartbeats 800000 in
theorem flag_any (v : Value) (l : List UInt8) (f : Bool) (w : World) (h : Rd w v l) (hl : l.length ≤ 140737488200000) :
    Calls Try.prog 70 #[v, .bool f] w fun e w' => ∃ v', e = .returned v' ∧ Own w' w.heap.size v' (l ++ [if f then 1 else 0]) ∧ Below w.heap.size w w' := by
  obtain ⟨i0, hi, hz0, hz1, hz2⟩ := info_parts Try.info5S
  cases f
  · go_enter Try.func70, Try.ntmps70
    go_wp2_with fail
    refine (fresh_any v l 1 _ h (by omega)).mono ?_
    rintro e w1 ⟨v1, rfl, ho1, hb1⟩
    go_wp2_with (at_builtin; refine wpList_append_bytes _ rfl _ _ 22 22 rfl w.heap.size i0 Try.underlying22 hi hz0 hz1 hz2 v1 l rfl (by exact ho1.kept ((Below.refl _ _).alloc (Nat.le_refl _) _)) _ [0] rfl (by exact (rd_one _ 0 _ rfl).src 22 Try.underlying22) (by simp; omega) (by have := hb1.size; simp; omega) ?_; intro v2 w2 ho2 hb2)
    go_ret
    exact ⟨_, rfl, ho2, (hb1.trans ((Below.refl _ _).alloc hb1.size _)).trans hb2⟩
  · go_enter Try.func70, Try.ntmps70
    go_wp2_with fail
    refine (fresh_any v l 1 _ h (by omega)).mono ?_
    rintro e w1 ⟨v1, rfl, ho1, hb1⟩
    go_wp2_with (at_builtin; refine wpList_append_bytes _ rfl _ _ 22 22 rfl w.heap.size i0 Try.underlying22 hi hz0 hz1 hz2 v1 l rfl (by exact ho1.kept ((Below.refl _ _).alloc (Nat.le_refl _) _)) _ [1] rfl (by exact (rd_one _ 1 _ rfl).src 22 Try.underlying22) (by simp; omega) (by have := hb1.size; simp; omega) ?_; intro v2 w2 ho2 hb2)
    go_ret
    exact ⟨_, rfl, ho2, (hb1.trans ((Below.refl _ _).alloc hb1.size _)).trans hb2⟩
set_option maxRecDepth 100000 in
set_option maxHeartbeats 800000 in
theorem refStr_any (v : Value) (l : List UInt8) (s : ByteArray) (w : World) (h : Rd w v l) (hl : l.length + s.size ≤ 140737488200000) :
    Calls Try.prog 68 #[v, .string s] w fun e w' => ∃ v', e = .returned v' ∧ Own w' w.heap.size v' (l ++ encS (sl s)) ∧ Below w.heap.size w w' := by
  obtain ⟨i0, hi, hz0, hz1, hz2⟩ := info_parts Try.info5S
  have HS : Hid ((sl s).length = s.size) := sl_length s
  have hs2 : (s.size : Int) ≤ 140737488200000 := by omega
  have hel := enc_length s.size
  go_enter Try.func68, Try.ntmps68
  go_wp2_with fail
  refine (refNum_any v l s.size _ h (small_pow (by omega)) (by omega)).mono ?_
  rintro e w1 ⟨v1, rfl, ho1, hb1⟩
  go_wp2_with (at_builtin; refine wpList_append_bytes _ rfl (.tmp 9) (.tmp 10) 22 9 rfl w.heap.size i0 Try.underlying22 hi hz0 hz1 hz2 v1 (l ++ enc s.size) rfl ho1 _ (sl s) rfl (src_str _ 9 Try.underlying9 s) (by have := HS.out; simp; omega) hb1.size ?_; intro v2 w2 ho2 hb2)
  go_ret
  refine ⟨_, rfl, ?_, hb1.trans hb2⟩
  unfold encS
  rw [HS.out, ← List.append_assoc]
  exact ho2

set_option maxRecDepth 100000 in
set_option maxHeartbeats 800000 in
theorem refFlag_any (v : Value) (l : List UInt8) (f : Bool) (w : World) (h : Rd w v l) (hl : l.length ≤ 140737488200000) :
    Calls Try.prog 66 #[v, .bool f] w fun e w' => ∃ v', e = .returned v' ∧ Own w' w.heap.size v' (l ++ [if f then 1 else 0]) ∧ Below w.heap.size w w' := by
  obtain ⟨i0, hi, hz0, hz1, hz2⟩ := info_parts Try.info5S
  have hr1 : Rd (w.alloc (.cells #[] 5 (0, 0))) v l := h.kept ((Below.refl _ _).alloc (Nat.le_refl _) _)
  cases f
  · go_enter Try.func66, Try.ntmps66
    go_wp2_with (first
      | (at_builtin; refine wpList_append_bytes _ rfl (.tmp 11) (.tmp 12) 22 22 rfl w.heap.size i0 Try.underlying22 hi hz0 hz1 hz2 _ [] rfl (own_noneS w _ (Nat.le_refl _)) _ l rfl (hr1.src 22 Try.underlying22) (by simp; omega) (by simp) ?_; intro v1 w1 ho1 hb1; simp only [List.nil_append] at ho1)
      | (at_builtin; refine wpList_append_bytes _ rfl (.tmp 13) (.tmp 14) 22 22 rfl w.heap.size i0 Try.underlying22 hi hz0 hz1 hz2 v1 l rfl (by exact ho1.kept ((Below.refl _ _).alloc (Nat.le_refl _) _)) _ [0] rfl (by exact (rd_one _ 0 _ rfl).src 22 Try.underlying22) (by simp; omega) (by have := hb1.size; simp at this ⊢; omega) ?_; intro v2 w2 ho2 hb2))
    go_ret
    exact ⟨_, rfl, ho2, ((((Below.refl _ _).alloc (Nat.le_refl _) _).trans hb1).trans ((Below.refl _ _).alloc (by have := hb1.size; simp at this; omega) _)).trans hb2⟩
  · go_enter Try.func66, Try.ntmps66
    go_wp2_with (first
      | (at_builtin; refine wpList_append_bytes _ rfl (.tmp 6) (.tmp 7) 22 22 rfl w.heap.size i0 Try.underlying22 hi hz0 hz1 hz2 _ [] rfl (own_noneS w _ (Nat.le_refl _)) _ l rfl (hr1.src 22 Try.underlying22) (by simp; omega) (by simp) ?_; intro v1 w1 ho1 hb1; simp only [List.nil_append] at ho1)
      | (at_builtin; refine wpList_append_bytes _ rfl (.tmp 8) (.tmp 9) 22 22 rfl w.heap.size i0 Try.underlying22 hi hz0 hz1 hz2 v1 l rfl (by exact ho1.kept ((Below.refl _ _).alloc (Nat.le_refl _) _)) _ [1] rfl (by exact (rd_one _ 1 _ rfl).src 22 Try.underlying22) (by simp; omega) (by have := hb1.size; simp at this ⊢; omega) ?_; intro v2 w2 ho2 hb2))
    go_ret
    exact ⟨_, rfl, ho2, ((((Below.refl _ _).alloc (Nat.le_refl _) _).trans hb1).trans ((Below.refl _ _).alloc (by have := hb1.size; simp at this; omega) _)).trans hb2⟩

end Go.Proofs.Ytmicmbjbclkbjaa
