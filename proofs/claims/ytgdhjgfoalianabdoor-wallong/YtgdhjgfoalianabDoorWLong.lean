/-
  indenturelaw06.WalLong: the walk: the call returns true and makes new memory alone.
-/
import Derived.Test.YtgdhjgfoalianabDoorWalC
namespace Go.Proofs.YtgdhjgfoalianabDoor
open Go.RowKit

theorem pad_le (t : List UInt8) : (pad t).length ≤ t.length + 44 := by
  have := pad_length t
  have := ru_lt (framed t).length
  have := framed_length t
  have := enc_length t.length
  omega

theorem first_any {w0 w : World} {D L : Nat} {c : Nat → Nat} (hT : Tab w0) (h : Log1 w0 w D 800 L [] 0 c) (v : Value) (t : List UInt8) (hr : Rd w v t) (ht : t.length ≤ 8196) :
    Calls Tryd.prog 6 #[.pointer (some ⟨L, 0, none⟩), v] w fun e w' => ∃ er q ts c', e = .returned (.int .i64 ((er : Nat) : Int)) ∧ (er = 0 ∧ q = 1 ∧ t.length ≤ 8192 ∨ er = 12 ∧ q = 0 ∧ 8192 < t.length) ∧ ts.length = q ∧ (pads ts).length ≤ 9000 ∧ Log1 w0 w' D 800 L ts 0 c' := by
  by_cases hl : 8192 < t.length
  · refine (h.long hT v t hr hl).mono ?_
    rintro e w' ⟨rfl, c', hl', -⟩
    exact ⟨12, 0, [], c', rfl, .inr ⟨rfl, rfl, hl⟩, rfl, by simp [pads], hl'⟩
  · have hp := pad_le t
    refine (h.append hT v t hr (by omega) (by simp [pads]; omega)).mono ?_
    rintro e w' ⟨rfl, c', hl', -⟩
    exact ⟨0, 1, [] ++ [t], c', rfl, .inl ⟨rfl, rfl, by omega⟩, rfl, by simp [pads]; omega, hl'⟩

set_option maxRecDepth 100000 in
set_option maxHeartbeats 2000000 in
theorem walLong_any (n k : Nat) (w : World) (hT : Tab w) (_hn : Hid (n < 256 ^ 8)) (_hk : Hid (k < 256 ^ 8)) : Calls Tryd.prog 3 #[.int .u64 (n : Int), .int .u64 (k : Int)] w fun e w' => e = .returned (.bool true) ∧ Below w.heap.size w w' := by
  obtain ⟨i0, hi, hz0, hz1, hz2⟩ := info_parts Tryd.info5
  have HT := hide hT
  obtain ⟨z, hz⟩ : ∃ z : Nat, (n : Int) % 9 = (z : Int) := ⟨n % 9, by omega⟩
  have hz8 : z ≤ 8 := by omega
  obtain ⟨y, hy⟩ : ∃ y : Nat, (k : Int) % 4 = (y : Int) := ⟨k % 4, by omega⟩
  have hy3 : y ≤ 3 := by omega
  obtain ⟨s, hs⟩ : ∃ s : Nat, s = 8188 + z := ⟨_, rfl⟩
  have hs1 : (8188 : Int) + (z : Int) = (s : Int) := by omega
  have hs2 : s ≤ 8196 := by omega
  clear hT hs
  go_enter Tryd.func3, Tryd.ntmps3
  go_wp2_with fail
  refine (OneC.new w 800 (by decide) (by decide)).mono ?_
  rintro e w1 ⟨D, rfl, c1, o1⟩
  have HO := hide (log1_new HT.out o1)
  clear o1
  go_wp2_with fail
  refine HO.out.mono ?_
  rintro e w2 ⟨L, v2, c2, rfl, l2, -⟩
  have L2 := hide l2
  clear l2 HO
  have ba : Below w2.heap.size w2 (w2.alloc (.cells (List.replicate s (Value.int .u8 0)).toArray 5)) := (Below.refl _ _).alloc (Nat.le_refl _) _
  have hrd : Rd (w2.alloc (.cells (List.replicate s (Value.int .u8 0)).toArray 5)) (.slice (some ⟨w2.heap.size, 0, none⟩) s s) (List.replicate s 0) := by
    refine rd_blk0 (T := 5) ?_ (by simp) (by omega)
    have := Blk.new w2 5 (List.replicate s (Value.int .u8 0))
    simpa [By] using this
  have HA := hide (first_any HT.out (L2.out.kept ba) _ _ hrd (by simp; omega))
  rw [List.length_replicate] at HA
  clear ba hrd
  go_wp2_with (first
    | (at_make; refine wpList_make_bytes _ rfl _ _ 31 rfl i0 Tryd.underlying31 hi hz0 hz1 hz2 _ _ _ _ s s rfl rfl rfl rfl (by omega) (by omega) ?_))
  refine HA.out.mono ?_
  rintro e w3 ⟨er, q, ts, c3, rfl, hq, hts, hpl, l3⟩
  have L3 := hide l3
  have HQ := hide hq
  clear l3 HA hq L2
  go_wp2_with fail
  clear hy
  go_loopg [12] y (fun g x wr => ∃ i : Nat, ∃ ts c, x = .int .i64 (i : Int) ∧ g + i = y ∧ ts.length = q + i ∧ (pads ts).length ≤ 9000 + 100 * i ∧ Hid (Log1 w wr D 800 L ts 0 c))
  case atStart => exact ⟨0, ts, c3, rfl, rfl, hts, by omega, L3⟩
  case round =>
    clear L3 hts hpl
    obtain ⟨i, ts, cr, rfl, hgi, htl, hpl, LR⟩ := hrel
    by_cases hlt : i < y
    · have q1 : (i : Int) < (y : Int) := by omega
      have e8 : IntKind.u8.wrap (i : Int) = ((UInt8.ofNat i).toNat : Int) := u8_of i
      obtain ⟨x8, hx8⟩ : ∃ x8, UInt8.ofNat i = x8 := ⟨_, rfl⟩
      rw [hx8] at e8
      have ba : Below wr.heap.size wr (wr.alloc (.cells #[.int .u8 (x8.toNat : Int)] 5)) := (Below.refl _ _).alloc (Nat.le_refl _) _
      have hrd : Rd (wr.alloc (.cells #[.int .u8 (x8.toNat : Int)] 5)) (.slice (some ⟨wr.heap.size, 0, none⟩) 1 1) [x8] := (own_one wr 0 (Nat.zero_le _) x8).rd
      have hp := pad_le [x8]
      have HA := hide ((LR.out.kept ba).append HT.out _ [x8] hrd (by simp) (by simp at hp; omega))
      have hp2 : (pads (ts ++ [[x8]])).length ≤ 9000 + 100 * (i + 1) := by rw [pads_append, pads_one, List.length_append]; simp at hp; omega
      clear ba hrd hx8 hp
      go_wp2_with fail
      refine HA.out.mono ?_
      rintro e w4 ⟨rfl, c4, l4, -⟩
      have L4 := hide l4
      clear l4 HA LR
      go_wp2_with fail
      go_roundg (gk - 1)
      case measure => omega
      case rel => exact ⟨i + 1, _, c4, by go_num, by omega, by simp; omega, hp2, L4⟩
    · obtain rfl : i = y := by omega
      have q1 : ¬ (i : Int) < (i : Int) := by omega
      have hb3 : ts.length ≤ 10 := by rcases HQ.out with ⟨_, h, _⟩ | ⟨_, h, _⟩ <;> omega
      rcases HQ.out with ⟨rfl, rfl, q2⟩ | ⟨rfl, rfl, q2⟩
      · have q3 : (s : Int) ≤ 8192 := by omega
        have q4 : ¬ (8192 : Int) < (s : Int) := by omega
        have q5 : ((ts.length : Nat) : Int) = (i : Int) + 1 := by omega
        have Q5 := hide q5
        clear q5
        go_wp2_with fail
        refine LR.out.synced.mono ?_
        rintro e w4 ⟨rfl, hw⟩; subst w4
        go_wp2_with fail
        refine LR.out.sync.mono ?_
        rintro e w4 ⟨rfl, c4, l4, -⟩
        have L4 := hide l4
        clear l4 LR
        go_wp2_with fail
        refine L4.out.synced.mono ?_
        rw [Q5.out]
        rintro e w5 ⟨rfl, hw⟩; subst w5
        go_wp2_with fail
        refine L4.out.count.mono ?_
        rw [Q5.out]
        rintro e w5 ⟨rfl, hw⟩; subst w5
        go_wp2_with fail
        refine (lives_any w4 (HT.out.kept L4.out.below)).mono ?_
        rintro e w5 ⟨rfl, b5⟩
        have HB : Hid (Below w.heap.size w w5) := L4.out.below.trans (b5.mono L4.out.below.size)
        clear b5
        go_wp2_with fail
        go_ret
        exact ⟨rfl, HB.out⟩
      · have q3 : ¬ (s : Int) ≤ 8192 := by omega
        have q4 : (8192 : Int) < (s : Int) := by omega
        have q5 : ((ts.length : Nat) : Int) = (i : Int) := by omega
        have Q5 := hide q5
        clear q5
        go_wp2_with fail
        refine LR.out.synced.mono ?_
        rintro e w4 ⟨rfl, hw⟩; subst w4
        go_wp2_with fail
        refine LR.out.sync.mono ?_
        rintro e w4 ⟨rfl, c4, l4, -⟩
        have L4 := hide l4
        clear l4 LR
        go_wp2_with fail
        refine L4.out.synced.mono ?_
        rw [Q5.out]
        rintro e w5 ⟨rfl, hw⟩; subst w5
        go_wp2_with fail
        refine L4.out.count.mono ?_
        rw [Q5.out]
        rintro e w5 ⟨rfl, hw⟩; subst w5
        go_wp2_with fail
        refine (lives_any w4 (HT.out.kept L4.out.below)).mono ?_
        rintro e w5 ⟨rfl, b5⟩
        have HB : Hid (Below w.heap.size w w5) := L4.out.below.trans (b5.mono L4.out.below.size)
        clear b5
        go_wp2_with fail
        go_ret
        exact ⟨rfl, HB.out⟩
#print axioms walLong_any
end Go.Proofs.YtgdhjgfoalianabDoor
