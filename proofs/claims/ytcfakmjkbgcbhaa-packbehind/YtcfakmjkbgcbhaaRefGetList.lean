/-
  indentureref01.GetList: what the call does.
-/
import Derived.Test.YtcfakmjkbgcbhaaGetList
namespace Go.Proofs.Ytcfakmjkbgcbhaa
open Go.RowKit

/-- What a call that reads a list leaves. -/
def LPost (w : World) (l : List UInt8) (c m : Nat) (e : Ending) (w' : World) : Prop :=
  ∃ v' ts x ok, e = .returned (.tuple #[v', .int .i64 ((x : Nat) : Int), .bool ok]) ∧ OwnS w' w.heap.size v' ts ∧ gL l c m = (ts, x, ok) ∧ Below w.heap.size w w'
theorem LPost.mk {w : World} {l : List UInt8} {c m : Nat} {e : Ending} {w' : World} (v' : Value) (ts : List (List UInt8)) (x : Nat) (ok : Bool) (he : e = .returned (.tuple #[v', .int .i64 (x : Int), .bool ok])) (h1 : OwnS w' w.heap.size v' ts) (h2 : gL l c m = (ts, x, ok)) (h3 : Below w.heap.size w w') : LPost w l c m e w' :=
  ⟨v', ts, x, ok, he, h1, h2, h3⟩

/-- b[x:] where nothing stands behind x, nor may. -/
theorem slice_end (b off n cap x : Nat) (hx : x ≤ n) (hc : cap = x) (W : World) : (Instr.slice 22 (.slice (some ⟨b, off, none⟩) n cap) (some (.int .i64 (x : Int))) none none).run Try.prog W = .ok (.slice (some ⟨b, off, none⟩) (n - x) 0) W := by
  have hu : Try.prog.underlying 22 = some (.slice (Try.prog.elem 22)) := by kernel_rfl
  have hs : (sizeOf (Try.prog.elem 22)).run Try.prog W = .ok 1 W := by
    have he : Try.prog.elem 22 = 5 := by kernel_rfl
    obtain ⟨i0, hi, hz0, hz1, hz2⟩ := info_parts Try.info5
    rw [he]
    simp [sizeOf, typeInfo, hi, hz1]
  rw [run_slice_l W 22 _ _ _ hu .i64 (x : Int) (by omega) (by omega), hs]
  subst hc
  simp [Result.andThen, sliced]

theorem refGetStr_k (v : Value) (l : List UInt8) (m : Int) (w : World) (X : List UInt8) (Y : Nat) (Z : Bool) (HG : Hid (gs l m.toNat = (X, Y, Z))) (h : Rd w v l) (hl : l.length ≤ 140737488300000) (hm : (Lit.int .i64 m).wf = true) :
    Calls Try.prog 15 #[v, .int .i64 m] w fun e w' => e = .returned (.tuple #[.string ⟨X.toArray⟩, .int .i64 (Y : Int), .bool Z]) ∧ Below w.heap.size w w' := by
  have := refGetStr_any v l m w h hl hm
  rw [HG.out] at this
  exact this

set_option maxRecDepth 100000 in
set_option maxHeartbeats 2000000 in
theorem refGetListPos_loop (v : Value) (l : List UInt8) (C : Nat) (hC : Hid (C ≤ 9223372036854775807)) (m : Int) (n k : Nat) (w : World) (h : Rd w v l) (hl : l.length ≤ 100000000000) (hmw : (Lit.int .i64 m).wf = true) (hg : gn l = (n, k, true)) (hn : n ≤ C) :
    Calls Try.prog 24 #[v, .int .i64 (C : Int), .int .i64 m] w fun e w' => LPost w l C m.toNat e w' := by
  have hwC : IntKind.u64.wrap (C : Int) = C := by rw [IntKind.wrap_u64]; have := hC.out; omega
  have hC0 : ¬ (C : Int) < 0 := by omega
  obtain ⟨hk1, hk9, hkl, hn8, -⟩ := gn_ok hg
  have h0 := h
  obtain ⟨a, cap, rfl, hcap, -, -, h4⟩ := h
  obtain ⟨b, off, rfl, hblt, -⟩ := h4 (by omega)
  clear h4
  have hn' : (n : Int) ≤ ((C : Nat) : Int) := by omega
  have hdn : decide (C < n) = false := by simp; omega
  have HG : Hid (gn l = (n, k, true)) := hg
  have HN8 : Hid (n < 256 ^ 8) := hn8
  obtain ⟨i0, hi, hz0, hz1, hz2⟩ := info_parts Try.info9
  go_enter Try.func24, Try.ntmps24
  go_wp2_with fail
  refine (refGetNum_any _ l _ h0 (by omega)).mono ?_
  rw [hg]
  rintro e w1 ⟨rfl, hb1⟩
  clear hg hn8
  go_wp2_with fail
  go_loopw [10, 12, 13] (fun at' y z wr => ∃ (i x : Nat) (ts : List (List UInt8)), i ≤ n ∧ z = .int .u64 i ∧ at' = .int .i64 x ∧ Hid (gl l m.toNat k i = some (ts, x)) ∧ Hid (OwnS wr w.heap.size y ts) ∧ Below w.heap.size w wr)
    (fun _ _ z _ => n - (intOf z).toNat)
  case atStart => exact ⟨0, k, [], Nat.zero_le _, rfl, rfl, rfl, OwnS_nil _ _, hb1⟩
  case round =>
    clear hb1
    obtain ⟨i, x, ts, hin, rfl, rfl, HL, HO, hbel⟩ := hrel
    obtain ⟨hx1, hx2, hx3, hx4, -, -⟩ := gl_ok hkl hk1 HL.out
    have hx1' : (x : Int) ≤ l.length := by omega
    by_cases hlt : i < n
    · have hlt' : (i : Int) < n := by omega
      obtain ⟨X, Y, Z, HGS⟩ : ∃ X Y Z, Hid (gs (l.drop x) m.toNat = (X, Y, Z)) := ⟨_, _, _, rfl⟩
      have hY : (Y : Int) ≤ l.length := by
        rcases gs_cases (l.drop x) m.toNat with hh | ⟨t, kk, hh, hk', -⟩
        · rw [HGS.out] at hh; simp at hh; omega
        · rw [HGS.out] at hh; simp at hh hk'; omega
      by_cases hcx : cap = x
      · have hsl := slice_end b off l.length cap x hx1 hcx
        have HCX : Hid (cap = x) := hcx
        have hrd : Rd wr (.slice (some ⟨b, off, none⟩) (l.length - x) 0) (l.drop x) := by
          have := (h0.kept hbel).drop x hx1 off (.inr (by omega))
          rw [show cap - x = 0 from by omega] at this
          exact this
        clear hcx
        have HRD : Hid (Rd wr (.slice (some ⟨b, off, none⟩) (l.length - x) 0) (l.drop x)) := hrd
        clear hrd
        cases Z with
        | false =>
          go_wp2_with fail
          refine (refGetStr_k _ (l.drop x) m _ X Y false HGS HRD.out (by simp; omega) hmw).mono ?_
          rintro e w4 ⟨rfl, hb4⟩
          go_wp2_with fail
          go_ret3
          have hgs0 : gs (l.drop x) m.toNat = ([], 0, false) := by
            rcases gs_cases (l.drop x) m.toNat with hh | ⟨t, kk, hh, -⟩
            · exact hh
            · rw [HGS.out] at hh; simp at hh
          exact LPost.mk _ [] 0 false rfl (OwnS_nil _ _) (gL_none HG.out (gl_none (gl_no HL.out hgs0) n (by omega))) (hbel.trans (hb4.mono hbel.size))
        | true =>
          go_wp2_with fail
          refine (refGetStr_k _ (l.drop x) m _ X Y true HGS HRD.out (by simp; omega) hmw).mono ?_
          rintro e w6 ⟨rfl, hb4⟩
          have HO5 : Hid (OwnS w6 w.heap.size _ ts) := (show OwnS _ _ _ _ from HO.out).kept hb4
          have hb5 : Below w.heap.size w w6 := hbel.trans (hb4.mono hbel.size)
          have HL5 : Hid (gl l m.toNat k (i + 1) = some (ts ++ [X], x + Y)) := gl_yes HL.out HGS.out
          clear hb4 HRD
          go_wp2_with (at_builtin; refine wpList_append_mine _ rfl (.tmp 49) (.tmp 51) 36 36 rfl w.heap.size 9 i0 (.string ByteArray.empty) 1 16 Try.underlying36 hi hz0 hz1 hz2 rfl _ ts.length _ rfl (by exact HO5.out.alloc _) _ 1 [.string ⟨X.toArray⟩] rfl (by exact src_one _ _) (by simp only [maxLen]; omega) (by omega) (by have := hb5.size; simp; omega) ?_; intro v7 w7 ho7 hg7)
          have hb6 : Below w.heap.size w6 w7 := ((Below.refl _ _).alloc hb5.size _).trans (below_of_grown _ (HO5.out.alloc _) hg7 (by have := hb5.size; simp; omega))
          go_roundw
          case rel =>
            refine ⟨i + 1, x + Y, ts ++ [X], by omega, by go_num, by go_num, HL5, ?_, hb5.trans hb6⟩
            show OwnS _ _ _ _
            unfold OwnS
            rw [List.length_append, List.map_append]
            exact ho7
          case measure => simp [intOf]; omega
      · have hrd : Rd wr (.slice (some ⟨b, off + x, none⟩) (l.length - x) (cap - x)) (l.drop x) := (h0.kept hbel).drop x hx1 (off + x) (.inl rfl)
        have HRD : Hid (Rd wr (.slice (some ⟨b, off + x, none⟩) (l.length - x) (cap - x)) (l.drop x)) := hrd
        clear hrd
        cases Z with
        | false =>
          go_wp2_with fail
          refine (refGetStr_k _ (l.drop x) m _ X Y false HGS HRD.out (by simp; omega) hmw).mono ?_
          rintro e w4 ⟨rfl, hb4⟩
          go_wp2_with fail
          go_ret3
          have hgs0 : gs (l.drop x) m.toNat = ([], 0, false) := by
            rcases gs_cases (l.drop x) m.toNat with hh | ⟨t, kk, hh, -⟩
            · exact hh
            · rw [HGS.out] at hh; simp at hh
          exact LPost.mk _ [] 0 false rfl (OwnS_nil _ _) (gL_none HG.out (gl_none (gl_no HL.out hgs0) n (by omega))) (hbel.trans (hb4.mono hbel.size))
        | true =>
          go_wp2_with fail
          refine (refGetStr_k _ (l.drop x) m _ X Y true HGS HRD.out (by simp; omega) hmw).mono ?_
          rintro e w6 ⟨rfl, hb4⟩
          have HO5 : Hid (OwnS w6 w.heap.size _ ts) := (show OwnS _ _ _ _ from HO.out).kept hb4
          have hb5 : Below w.heap.size w w6 := hbel.trans (hb4.mono hbel.size)
          have HL5 : Hid (gl l m.toNat k (i + 1) = some (ts ++ [X], x + Y)) := gl_yes HL.out HGS.out
          clear hb4 HRD
          go_wp2_with (at_builtin; refine wpList_append_mine _ rfl (.tmp 49) (.tmp 51) 36 36 rfl w.heap.size 9 i0 (.string ByteArray.empty) 1 16 Try.underlying36 hi hz0 hz1 hz2 rfl _ ts.length _ rfl (by exact HO5.out.alloc _) _ 1 [.string ⟨X.toArray⟩] rfl (by exact src_one _ _) (by simp only [maxLen]; omega) (by omega) (by have := hb5.size; simp; omega) ?_; intro v7 w7 ho7 hg7)
          have hb6 : Below w.heap.size w6 w7 := ((Below.refl _ _).alloc hb5.size _).trans (below_of_grown _ (HO5.out.alloc _) hg7 (by have := hb5.size; simp; omega))
          go_roundw
          case rel =>
            refine ⟨i + 1, x + Y, ts ++ [X], by omega, by go_num, by go_num, HL5, ?_, hb5.trans hb6⟩
            show OwnS _ _ _ _
            unfold OwnS
            rw [List.length_append, List.map_append]
            exact ho7
          case measure => simp [intOf]; omega
    · obtain rfl : i = n := by omega
      have hlt' : ¬ (i : Int) < i := by omega
      go_wp2_with fail
      go_ret3
      exact LPost.mk _ ts x true rfl HO.out (gL_yes HG.out (by omega) HL.out) hbel

set_option maxRecDepth 100000 in
set_option maxHeartbeats 1000000 in
theorem refGetListPos_no (v : Value) (l : List UInt8) (C : Nat) (hC : Hid (C ≤ 9223372036854775807)) (m : Int) (n k : Nat) (ok : Bool) (w : World) (h : Rd w v l) (hl : l.length ≤ 100000000000) (hg : gn l = (n, k, ok)) (hn : ¬ (ok = true ∧ n ≤ C)) :
    Calls Try.prog 24 #[v, .int .i64 (C : Int), .int .i64 m] w fun e w' => e = .returned (.tuple #[.slice none 0 0, .int .i64 0, .bool false]) ∧ Below w.heap.size w w' := by
  have hwC : IntKind.u64.wrap (C : Int) = C := by rw [IntKind.wrap_u64]; have := hC.out; omega
  have hC0 : ¬ (C : Int) < 0 := by omega
  have h0 := h
  obtain ⟨a, cap, rfl, -⟩ := h
  cases ok with
  | false =>
    clear hn
    go_enter Try.func24, Try.ntmps24
    go_wp2_with fail
    refine (refGetNum_any _ l _ h0 (by omega)).mono ?_
    rw [hg]
    rintro e w1 ⟨rfl, hb1⟩
    go_wp2_with fail
    go_ret3
    exact ⟨rfl, hb1⟩
  | true =>
    have hn' : ¬ (n : Int) ≤ ((C : Nat) : Int) := by simp at hn; omega
    go_enter Try.func24, Try.ntmps24
    go_wp2_with fail
    refine (refGetNum_any _ l _ h0 (by omega)).mono ?_
    rw [hg]
    rintro e w1 ⟨rfl, hb1⟩
    go_wp2_with fail
    go_ret3
    exact ⟨rfl, hb1⟩

set_option maxRecDepth 100000 in
set_option maxHeartbeats 2000000 in
theorem refGetListNeg_loop (v : Value) (l : List UInt8) (c : Int) (hc0 : c < 0) (m : Int) (n k : Nat) (w : World) (h : Rd w v l) (hl : l.length ≤ 100000000000) (hg : gn l = (n, k, true)) (hn : n ≤ 0) :
    Calls Try.prog 24 #[v, .int .i64 c, .int .i64 m] w fun e w' => LPost w l 0 m.toNat e w' := by
  have hw0 : IntKind.u64.wrap 0 = 0 := by rw [IntKind.wrap_u64]; rfl
  obtain ⟨hk1, hk9, hkl, hn8, -⟩ := gn_ok hg
  have h0 := h
  obtain ⟨a, cap, rfl, hcap, -, -, h4⟩ := h
  obtain ⟨b, off, rfl, hblt, -⟩ := h4 (by omega)
  clear h4
  obtain rfl : n = 0 := by omega
  have hn' : (0 : Int) ≤ 0 := by omega
  have HG : Hid (gn l = (0, k, true)) := hg
  have HN8 : Hid (0 < 256 ^ 8) := hn8
  go_enter Try.func24, Try.ntmps24
  go_wp2_with fail
  refine (refGetNum_any _ l _ h0 (by omega)).mono ?_
  rw [hg]
  rintro e w1 ⟨rfl, hb1⟩
  clear hg hn8
  go_wp2_with fail
  go_loopw [10, 12, 13] (fun at' y z wr => ∃ (i x : Nat) (ts : List (List UInt8)), i ≤ 0 ∧ z = .int .u64 i ∧ at' = .int .i64 x ∧ Hid (gl l m.toNat k i = some (ts, x)) ∧ Hid (OwnS wr w.heap.size y ts) ∧ Below w.heap.size w wr)
    (fun _ _ z _ => 0 - (intOf z).toNat)
  case atStart => exact ⟨0, k, [], Nat.zero_le _, rfl, rfl, rfl, OwnS_nil _ _, hb1⟩
  case round =>
    clear hb1
    obtain ⟨i, x, ts, hin, rfl, rfl, HL, HO, hbel⟩ := hrel
    obtain rfl : i = 0 := by omega
    go_wp2_with fail
    go_ret3
    exact LPost.mk _ ts x true rfl HO.out (gL_yes HG.out (by omega) HL.out) hbel

set_option maxRecDepth 100000 in
set_option maxHeartbeats 1000000 in
theorem refGetListNeg_no (v : Value) (l : List UInt8) (c : Int) (hc0 : c < 0) (m : Int) (n k : Nat) (ok : Bool) (w : World) (h : Rd w v l) (hl : l.length ≤ 100000000000) (hg : gn l = (n, k, ok)) (hn : ¬ (ok = true ∧ n ≤ 0)) :
    Calls Try.prog 24 #[v, .int .i64 c, .int .i64 m] w fun e w' => e = .returned (.tuple #[.slice none 0 0, .int .i64 0, .bool false]) ∧ Below w.heap.size w w' := by
  have hw0 : IntKind.u64.wrap 0 = 0 := by rw [IntKind.wrap_u64]; rfl
  have h0 := h
  obtain ⟨a, cap, rfl, -⟩ := h
  cases ok with
  | false =>
    clear hn
    go_enter Try.func24, Try.ntmps24
    go_wp2_with fail
    refine (refGetNum_any _ l _ h0 (by omega)).mono ?_
    rw [hg]
    rintro e w1 ⟨rfl, hb1⟩
    go_wp2_with fail
    go_ret3
    exact ⟨rfl, hb1⟩
  | true =>
    have hn' : ¬ (n : Int) ≤ ((0 : Nat) : Int) := by simp at hn; omega
    go_enter Try.func24, Try.ntmps24
    go_wp2_with fail
    refine (refGetNum_any _ l _ h0 (by omega)).mono ?_
    rw [hg]
    rintro e w1 ⟨rfl, hb1⟩
    go_wp2_with fail
    go_ret3
    exact ⟨rfl, hb1⟩

theorem refGetList_any (v : Value) (l : List UInt8) (c m : Int) (w : World) (h : Rd w v l) (hl : l.length ≤ 100000000000) (hc : (Lit.int .i64 c).wf = true) (hmw : (Lit.int .i64 m).wf = true) :
    Calls Try.prog 24 #[v, .int .i64 c, .int .i64 m] w fun e w' => ∃ v' ts x ok, e = .returned (.tuple #[v', .int .i64 (x : Nat), .bool ok]) ∧ OwnS w' w.heap.size v' ts ∧ gL l c.toNat m.toNat = (ts, x, ok) ∧ Below w.heap.size w w' := by
  have hb := bounds_i64 hc
  obtain ⟨n, k, ok, hg⟩ : ∃ n k ok, gn l = (n, k, ok) := ⟨_, _, _, rfl⟩
  by_cases hyes : ok = true ∧ n ≤ c.toNat
  · obtain ⟨rfl, hn⟩ := hyes
    by_cases h0 : c < 0
    · have e0 : c.toNat = 0 := by omega
      rw [e0] at hn ⊢
      exact refGetListNeg_loop v l c h0 m n k w h hl hg hn
    · obtain ⟨C, rfl⟩ : ∃ C : Nat, c = C := ⟨c.toNat, by omega⟩
      rw [Int.toNat_natCast] at hn ⊢
      exact refGetListPos_loop v l C (show C ≤ 9223372036854775807 by omega) m n k w h hl hmw hg hn
  · have fin : ∀ e w', (e = Ending.returned (.tuple #[.slice none 0 0, .int .i64 0, .bool false]) ∧ Below w.heap.size w w') → ∃ v' ts x ok, e = .returned (.tuple #[v', .int .i64 ((x : Nat) : Int), .bool ok]) ∧ OwnS w' w.heap.size v' ts ∧ gL l c.toNat m.toNat = (ts, x, ok) ∧ Below w.heap.size w w' := by
      rintro e w' ⟨rfl, hb⟩
      exact ⟨_, [], 0, false, rfl, OwnS_nil _ _, gL_no hg hyes, hb⟩
    by_cases h0 : c < 0
    · have e0 : c.toNat = 0 := by omega
      refine (refGetListNeg_no v l c h0 m n k ok w h hl hg (by rw [e0] at hyes; exact hyes)).mono fin
    · obtain ⟨C, rfl⟩ : ∃ C : Nat, c = C := ⟨c.toNat, by omega⟩
      exact (refGetListPos_no v l C (show C ≤ 9223372036854775807 by omega) m n k ok w h hl hg (by rw [Int.toNat_natCast] at hyes; exact hyes)).mono fin
#print axioms refGetList_any
end Go.Proofs.Ytcfakmjkbgcbhaa
