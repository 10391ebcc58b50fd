/-
  indentureref01.Num, Str, Flag: what the calls do.
-/
import Derived.Test.YtmicmbjbclkbjaaNum
namespace Go.Proofs.Ytmicmbjbclkbjaa
open Go.RowKit

/-- A new slice without elements is the call's own. -/
theorem own_noneS (w : World) (B : Nat) (hB : B ≤ w.heap.size) : Own (w.alloc (.cells #[] 5 (0, 0))) B (.slice (some ⟨w.heap.size, 0, none⟩) 0 0) [] :=
  ⟨rfl, .inr ⟨w.heap.size, 0, #[], rfl, hB, heap_alloc_new w _, Nat.le_refl _, by simp [maxLen], rfl, rfl⟩⟩
/-- A new slice of one byte is the call's own. -/
theorem own_oneS (w : World) (B : Nat) (hB : B ≤ w.heap.size) (x : UInt8) : Own (w.alloc (.cells #[.int .u8 (x.toNat : Int)] 5 (0, 0))) B (.slice (some ⟨w.heap.size, 0, none⟩) 1 1) [x] :=
  ⟨rfl, .inr ⟨w.heap.size, 1, _, rfl, hB, heap_alloc_new w _, Nat.le_refl _, by simp [maxLen], rfl, rfl⟩⟩

theorem own_oneS' (w : World) (B : Nat) (hB : B ≤ w.heap.size) (x : UInt8) (y : Int) (hy : Hid (y = (x.toNat : Int))) : Own (w.alloc (.cells #[.int .u8 y] 5 (0, 0))) B (.slice (some ⟨w.heap.size, 0, none⟩) 1 1) [x] := by
  rw [hy.out]; exact own_oneS w B hB x

set_option maxRecDepth 100000 in
set_option maxHeartbeats 400000 in
theorem refNum_any (v : Value) (l : List UInt8) (n : Nat) (w : World) (h : Rd w v l) (h2 : Hid (n < 256 ^ 8)) (hl : l.length ≤ 140737488300000) :
    Calls Try.prog 67 #[v, .int .u64 n] w fun e w' => ∃ v', e = .returned v' ∧ Own w' w.heap.size v' (l ++ enc n) ∧ Below w.heap.size w w' := by
  obtain ⟨i0, hi, hz0, hz1, hz2⟩ := info_parts Try.info5S
  have hr1 : Rd (w.alloc (.cells #[] 5 (0, 0))) v l := h.kept ((Below.refl _ _).alloc (Nat.le_refl _) _)
  by_cases hn : n < 248
  · have hn' : (n : Int) < 248 := by omega
    have HE : Hid (enc n = [UInt8.ofNat n]) := enc_short hn
    have HY : Hid ((n : Int) = ((UInt8.ofNat n).toNat : Int)) := (show _ = _ by simp; omega)
    go_enter Try.func67, Try.ntmps67
    go_wp2_with (first
      | (at_builtin; refine wpList_append_bytes _ rfl (.tmp 8) (.tmp 9) 22 22 rfl w.heap.size i0 Try.underlying22 hi hz0 hz1 hz2 _ [] rfl (own_noneS w _ (Nat.le_refl _)) _ l rfl (hr1.src 22 Try.underlying22) (by simp; omega) (by simp) ?_; intro v1 w1 ho1 hb1; simp only [List.nil_append] at ho1)
      | (at_builtin; refine wpList_append_bytes _ rfl (.tmp 13) (.tmp 16) 22 22 rfl w.heap.size i0 Try.underlying22 hi hz0 hz1 hz2 v1 l rfl (by exact ho1.kept ((Below.refl _ _).alloc (Nat.le_refl _) _)) _ [UInt8.ofNat n] rfl (by exact (own_oneS' _ _ (Nat.le_refl _) _ _ HY).rd.src 22 Try.underlying22) (by simp; omega) (by have := hb1.size; simp at this ⊢; omega) ?_; intro v2 w2 ho2 hb2))
    go_ret
    refine ⟨_, rfl, by rw [HE.out]; exact ho2, ?_⟩
    exact ((((Below.refl _ _).alloc (Nat.le_refl _) _).trans hb1).trans ((Below.refl _ _).alloc (by have := hb1.size; simp at this; omega) _)).trans hb2
  · have hn' : ¬ (n : Int) < 248 := by omega
    have hge : 248 ≤ n := by omega
    have HE : Hid (enc n = UInt8.ofNat (247 + (dg 8 n).length) :: dg 8 n) := enc_long hge
    go_enter Try.func67, Try.ntmps67
    go_wp2_with (first
      | (at_builtin; refine wpList_append_bytes _ rfl (.tmp 8) (.tmp 9) 22 22 rfl w.heap.size i0 Try.underlying22 hi hz0 hz1 hz2 _ [] rfl (own_noneS w _ (Nat.le_refl _)) _ l rfl (hr1.src 22 Try.underlying22) (by simp; omega) (by simp) ?_; intro v1 w1 ho1 hb1; simp only [List.nil_append] at ho1))
    have hbw : Below w.heap.size w w1 := ((Below.refl _ _).alloc (Nat.le_refl _) _).trans hb1
    go_loopw [6, 7] (fun y x wr => ∃ (m q : Nat) (ds : List UInt8), x = .int .u64 m ∧ Hid (m < 256 ^ q) ∧ Hid (ds.length + q = 8) ∧ Hid (dg 8 n = dg q m ++ ds) ∧
        Hid (Own wr w1.heap.size y ds) ∧ Hid (w1.heap.size ≤ wr.heap.size) ∧ Hid (Own wr w.heap.size v1 l) ∧ Below w.heap.size w wr)
      (fun _ x _ => (intOf x).toNat)
    case atStart =>
      exact ⟨n, 8, [], rfl, h2, rfl, (List.append_nil _).symm, World.ownsRow_nil _ _ _ _, Nat.le_refl _, ho1, hbw⟩
    case round =>
      clear hbw
      obtain ⟨m, q, ds, rfl, hm, hq, hd, hrd, hsz, how, hbel⟩ := hrel
      by_cases hz : 0 < m
      · have hz' : (0 : Int) < m := by omega
        obtain ⟨p, rfl⟩ : ∃ p, q = p + 1 := ⟨q - 1, by have := hm.out; cases q with | zero => simp at this; omega | succ q => simp⟩
        have HY : Hid (((m : Int) % 256) = ((UInt8.ofNat m).toNat : Int)) := (show _ = _ by simp)
        go_wp2_with (at_builtin; refine wpList_append_bytes _ rfl (.tmp 25) (.tmp 26) 22 22 rfl wr.heap.size i0 Try.underlying22 hi hz0 hz1 hz2 _ [UInt8.ofNat m] rfl (by exact own_oneS' _ _ (Nat.le_refl _) _ _ HY) _ ds rfl (by exact (hrd.out.kept ((Below.refl _ _).alloc (Nat.le_refl _) _)).rd.src 22 Try.underlying22) (by have := hq.out; simp; omega) (by simp) ?_; intro v3 w3 ho3 hb3)
        have hb4 : Below wr.heap.size wr w3 := ((Below.refl _ _).alloc (Nat.le_refl _) _).trans hb3
        go_roundw
        case rel =>
          refine ⟨m / 256, p, UInt8.ofNat m :: ds, by go_num, pow_step p m hm.out, ?_, ?_, ho3.mono hsz.out, Nat.le_trans hsz.out hb4.size, how.out.kept hb4, hbel.trans (hb4.mono hbel.size)⟩
          · have := hq.out; exact (show _ = _ by simp; omega)
          · exact (show _ = _ by rw [hd.out, dg_step p m hz]; simp)
        case measure => simp [intOf]; omega
      · have hz' : ¬ (0 : Int) < m := by omega
        obtain rfl : m = 0 := by omega
        have hds : Hid (dg 8 n = ds) := (show _ = _ by have := hd.out; rw [dg_zero] at this; simpa using this)
        obtain ⟨ua, ucap, rfl, -⟩ := hrd.out.rd
        have hd8 : (ds.length : Int) ≤ 8 := by have := hq.out; omega
        have HY : Hid ((247 + (ds.length : Int)) = ((UInt8.ofNat (247 + ds.length)).toNat : Int)) := (show _ = _ by simp; omega)
        go_wp2_with (first
          | (at_builtin; refine wpList_append_bytes_g _ rfl (.tmp 28) (.tmp 33) 22 22 rfl w.heap.size i0 Try.underlying22 hi hz0 hz1 hz2 v1 l rfl (by exact how.out.kept ((Below.refl _ _).alloc (Nat.le_refl _) _)) _ [UInt8.ofNat (247 + ds.length)] rfl (by exact (own_oneS' _ _ (Nat.le_refl _) _ _ HY).rd.src 22 Try.underlying22) (by simp; omega) (by have := hbel.size; simp; omega) ?_; intro v3 w3 ho3 hb3 hg3)
          | (at_builtin; refine wpList_append_bytes _ rfl (.tmp 34) (.tmp 35) 22 22 rfl w.heap.size i0 Try.underlying22 hi hz0 hz1 hz2 v3 _ rfl ho3 _ ds rfl (by exact ((hrd.out.kept ((Below.refl _ _).alloc (Nat.le_refl _) _)).apart (fun k hk => (World.ownsRow.lt ho1 k hk).2) hg3).rd.src 22 Try.underlying22) (by simp; omega) (by have := hb3.size; have := hbel.size; simp at *; omega) ?_; intro v4 w4 ho4 hb4))
        go_ret
        refine ⟨_, rfl, ?_, ((hbel.trans ((Below.refl _ _).alloc hbel.size _)).trans hb3).trans hb4⟩
        rw [HE.out, hds.out]
        simpa using ho4

#print axioms refNum_any
end Go.Proofs.Ytmicmbjbclkbjaa
