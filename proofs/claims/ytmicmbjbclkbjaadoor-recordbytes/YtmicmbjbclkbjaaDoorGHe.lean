/-
  Texts that ride together: Tag0 Tag1 Tag2.
-/
import Derived.Test.YtmicmbjbclkbjaaDoorGHd
import Derived.Test.YtmicmbjbclkbjaaDoorGK
/-
  tag.Bytes, indentureref04.Bytes: what the calls do.
-/
namespace Go.Proofs.YtmicmbjbclkbjaaDoor
open Go.RowKit
set_option maxHeartbeats 1000000 in
set_option maxRecDepth 100000 in
theorem bytes_any (t : UInt8) (v : Value) (L : List (List UInt8)) (w : World) (hv : RdR w v L) (hn : L.flatten.length ≤ 1099511627776) (hl : L.length ≤ 1099511627776) :
    Calls Tryd.prog 69 #[.int .u8 (t.toNat : Int), v] w fun e w' => ∃ v', e = .returned v' ∧ Own w' w.heap.size v' (t :: L.flatten) ∧ Below w.heap.size w w' := by
  obtain ⟨i0, hi0, hz0, hz1, hz2⟩ := info_parts Tryd.info5
  have HV : Hid (RdR w v L) := hv
  obtain ⟨a, cap, rfl, hrow⟩ := hv
  have HROW : Hid _ := hrow
  clear hrow
  obtain ⟨N, HN⟩ : ∃ N, Hid (w.heap.size = N) := ⟨_, rfl⟩
  have hfl : ∀ i, i ≤ L.length → (L.take i).flatten.length ≤ 1099511627776 := fun i _ => by
    have := congrArg (fun l => l.flatten.length) (List.take_append_drop i L)
    simp only [List.flatten_append, List.length_append] at this
    omega
  go_enter Tryd.func69, Tryd.ntmps69
  go_wp2_with fail
  go_loopg [5, 13] (L.length + 1) (fun g y z wr => wr = w ∧ ∃ i : Nat, i ≤ L.length ∧ g + i = L.length + 1 ∧ z = .int .i64 i ∧ ∃ s : Nat, y = .int .i64 s ∧ Hid (s = 1 + (L.take i).flatten.length))
  case atStart => exact ⟨rfl, 0, by omega, by omega, rfl, 1, rfl, rfl⟩
  case round =>
    obtain ⟨hwr, i, hi, hgk, rfl, s, rfl, HS⟩ := hrel
    have hwr' := hwr.symm
    clear hwr
    subst hwr'
    have hs1 : s ≤ 1099511627777 := by have := HS.out; have := hfl i hi; omega
    by_cases hlt : i < L.length
    · have q3 : (i : Int) < (L.length : Int) := by omega
      obtain ⟨b, off, rfl, hbl, hc⟩ := HROW.out (by omega)
      obtain ⟨r, hr1, hr2⟩ := hc i hlt
      have HFL : Hid _ := flat_take L i hlt
      have hf2 := hfl (i + 1) (by omega)
      rw [HFL.out, List.length_append] at hf2
      generalize L[i] = x at *
      obtain ⟨ax, capx, rfl, -, -⟩ := hr2
      clear hc
      go_wp2
      go_roundg (gk - 1)
      case measure => omega
      case rel => exact ⟨rfl, i + 1, by omega, by omega, by go_num, s + x.length, by go_num, (show _ = _ by rw [HFL.out, List.length_append]; have := HS.out; omega)⟩
    · obtain rfl : i = L.length := by omega
      have q3 : ¬ (L.length : Int) < (L.length : Int) := by omega
      have HS1 : Hid (1 ≤ s) := (show _ ≤ _ by have := HS.out; omega)
      have hs0 : (0 : Int) < (s : Int) := by have := HS1.out; omega
      have hB0 := Blk.new w 5 (List.replicate s (Value.int .u8 0))
      obtain ⟨w0, hw0⟩ : ∃ x, x = w.alloc (.cells (List.replicate s (Value.int .u8 0)).toArray 5 (0, 0)) := ⟨_, rfl⟩
      rw [← hw0, HN.out] at hB0
      have c0 := hB0.cell (j := 0) (v := .int .u8 0) (by rw [List.getElem?_replicate]; exact if_pos HS1.out)
      have f0 := hB0.frozen 0
      have HW0 : Hid _ := hw0
      clear hB0 hw0
      go_wp2_with (first
        | (at_make; refine wpList_make_bytes _ rfl _ _ 28 rfl i0 Tryd.underlying28 hi0 hz0 hz1 hz2 _ _ _ _ 1 s rfl rfl rfl rfl (by have := HS1.out; omega) (by omega) ?_; rw [HN.out, ← HW0.out])
        | fail)
      obtain ⟨w1, hw1⟩ : ∃ x, x = w0.setCell ⟨N, 0, none⟩ (.int .u8 (t.toNat : Int)) := ⟨_, rfl⟩
      rw [← hw1]
      rw [HW0.out] at hw1
      have O1 : Hid (Own w1 N (.slice (some ⟨N, 0, none⟩) 1 s) (t :: (L.take 0).flatten)) := (show Own _ _ _ _ by
        rw [hw1, ← HN.out]; exact own_first w _ s (Nat.le_refl _) HS1.out (by simp only [maxLen]; omega) t)
      have L1 : Hid (Below N w w1) := (show Below _ _ _ by
        rw [hw1, ← HN.out]; exact ((Below.refl _ _).alloc (Nat.le_refl _) _).trans ((But.setCell w.heap.size _ _ _).below (Nat.le_refl _) (by simp)))
      clear hw1
      generalize Value.slice (some ⟨N, 0, none⟩) 1 s = y0 at *
      clear HS hs1 HS1 hs0
      go_loopg [8, 29] (L.length + 1) (fun g y z wr => Hid (Below N w wr) ∧ ∃ i : Nat, i ≤ L.length ∧ g + i = L.length + 1 ∧ z = .int .i64 i ∧ Hid (Own wr N y (t :: (L.take i).flatten)))
      case atStart => exact ⟨L1, 0, by omega, by omega, rfl, O1⟩
      case round =>
        clear O1 L1
        obtain ⟨L1, i, hi, hgk2, rfl, O1⟩ := hrel
        have HNw : Hid (N ≤ wr.heap.size) := (show _ ≤ _ by rw [← HN.out]; exact L1.out.size)
        obtain ⟨a2, cap2, hy⟩ := O1.out.form
        by_cases hlt : i < L.length
        · have q4 : (i : Int) < (L.length : Int) := by omega
          obtain ⟨b, off, rfl, hbl, hc⟩ := HROW.out (by omega)
          obtain ⟨r, hr1, hr2⟩ := hc i hlt
          have hcell : wr.cell? ⟨b, off + i, none⟩ = some r := (L1.out.cell (p := ⟨b, off + i, none⟩) (by rw [← HN.out]; exact hbl)).trans hr1
          have HFL : Hid _ := flat_take L i hlt
          have hf2 := hfl (i + 1) (by omega)
          rw [HFL.out, List.length_append] at hf2
          generalize L[i] = x at *
          have HRx : Hid (Rd wr r x) := hr2.kept (by rw [HN.out]; exact L1.out)
          obtain ⟨ax, capx, rfl, -, -⟩ := hr2
          clear hc hr1
          obtain ⟨m, HM⟩ : ∃ m, Hid (t :: (L.take i).flatten = m) := ⟨_, rfl⟩
          have hm1 : m.length ≤ 1099511627777 - x.length := by rw [← HM.out, List.length_cons]; omega
          rw [HM.out] at hy O1
          subst hy
          go_wp2_with (at_builtin; refine wpList_append_bytes _ rfl (.tmp 33) (.tmp 34) 28 28 rfl N i0 Tryd.underlying28 hi0 hz0 hz1 hz2 _ m rfl O1.out _ x rfl (by exact HRx.out.src 28 Tryd.underlying28) (by omega) HNw.out ?_; intro v3 w3 ho3 hb3)
          go_roundg (gk - 1)
          case measure => omega
          case rel => exact ⟨L1.out.trans hb3, i + 1, by omega, by omega, by go_num, (show Own _ _ _ _ by rw [HFL.out, ← List.cons_append, HM.out]; exact ho3)⟩
        · obtain rfl : i = L.length := by omega
          have q4 : ¬ (L.length : Int) < (L.length : Int) := by omega
          rw [List.take_length] at O1 hy
          obtain ⟨m, HM⟩ : ∃ m, Hid (t :: L.flatten = m) := ⟨_, rfl⟩
          rw [HM.out] at hy O1
          subst hy
          go_wp2
          go_ret
          exact ⟨_, rfl, by rw [HN.out, HM.out]; exact O1.out, by rw [HN.out]; exact L1.out⟩

set_option maxHeartbeats 1000000 in
set_option maxRecDepth 100000 in
theorem refBytes_any (t : UInt8) (v : Value) (L : List (List UInt8)) (w : World) (hv : RdR w v L) (hn : L.flatten.length ≤ 1099511627776) (hl : L.length ≤ 1099511627776) :
    Calls Tryd.prog 60 #[.int .u8 (t.toNat : Int), v] w fun e w' => ∃ v', e = .returned v' ∧ Own w' w.heap.size v' (t :: L.flatten) ∧ Below w.heap.size w w' := by
  obtain ⟨i0, hi0, hz0, hz1, hz2⟩ := info_parts Tryd.info5
  have HV : Hid (RdR w v L) := hv
  obtain ⟨a, cap, rfl, hrow⟩ := hv
  have HROW : Hid _ := hrow
  clear hrow
  obtain ⟨N, HN⟩ : ∃ N, Hid (w.heap.size = N) := ⟨_, rfl⟩
  have hfl : ∀ i, i ≤ L.length → (L.take i).flatten.length ≤ 1099511627776 := fun i _ => by
    have := congrArg (fun l => l.flatten.length) (List.take_append_drop i L)
    simp only [List.flatten_append, List.length_append] at this
    omega
  go_enter Tryd.func60, Tryd.ntmps60
  go_wp2_with fail
  rw [HN.out]
  obtain ⟨w1, hw1⟩ : ∃ x, x = w.alloc (.cells #[.int .u8 (t.toNat : Int)] 5 (0, 0)) := ⟨_, rfl⟩
  rw [← hw1]
  have O1 : Hid (Own w1 N (.slice (some ⟨N, 0, none⟩) 1 1) (t :: (L.take 0).flatten)) := (show Own _ _ _ _ by
    rw [hw1, ← HN.out]; exact own_one w _ (Nat.le_refl _) t)
  have L1 : Hid (Below N w w1) := (show Below _ _ _ by rw [hw1, ← HN.out]; exact (Below.refl _ _).alloc (Nat.le_refl _) _)
  clear hw1
  generalize Value.slice (some ⟨N, 0, none⟩) 1 1 = y0 at *
  go_loopg [5, 12] (L.length + 1) (fun g y z w2 => Hid (Below N w w2) ∧ ∃ i : Nat, i ≤ L.length ∧ g + i = L.length + 1 ∧ z = .int .i64 i ∧ Hid (Own w2 N y (t :: (L.take i).flatten)))
  case atStart => exact ⟨L1, 0, by omega, by omega, rfl, O1⟩
  case round =>
    clear O1 L1
    obtain ⟨L1, i, hi, hgk2, rfl, O1⟩ := hrel
    have HNw : Hid (N ≤ wr.heap.size) := (show _ ≤ _ by rw [← HN.out]; exact L1.out.size)
    obtain ⟨a2, cap2, hy⟩ := O1.out.form
    by_cases hlt : i < L.length
    · have q4 : (i : Int) < (L.length : Int) := by omega
      obtain ⟨b, off, rfl, hbl, hc⟩ := HROW.out (by omega)
      obtain ⟨r, hr1, hr2⟩ := hc i hlt
      have hcell : wr.cell? ⟨b, off + i, none⟩ = some r := (L1.out.cell (p := ⟨b, off + i, none⟩) (by rw [← HN.out]; exact hbl)).trans hr1
      have HFL : Hid _ := flat_take L i hlt
      have hf2 := hfl (i + 1) (by omega)
      rw [HFL.out, List.length_append] at hf2
      generalize L[i] = x at *
      have HRx : Hid (Rd wr r x) := hr2.kept (by rw [HN.out]; exact L1.out)
      obtain ⟨ax, capx, rfl, -, -⟩ := hr2
      clear hc hr1
      obtain ⟨m, HM⟩ : ∃ m, Hid (t :: (L.take i).flatten = m) := ⟨_, rfl⟩
      have hm1 : m.length ≤ 1099511627777 - x.length := by rw [← HM.out, List.length_cons]; omega
      rw [HM.out] at hy O1
      subst hy
      go_wp2_with (at_builtin; refine wpList_append_bytes _ rfl (.tmp 16) (.tmp 17) 28 28 rfl N i0 Tryd.underlying28 hi0 hz0 hz1 hz2 _ m rfl O1.out _ x rfl (by exact HRx.out.src 28 Tryd.underlying28) (by omega) HNw.out ?_; intro v3 w3 ho3 hb3)
      go_roundg (gk - 1)
      case measure => omega
      case rel => exact ⟨L1.out.trans hb3, i + 1, by omega, by omega, by go_num, (show Own _ _ _ _ by rw [HFL.out, ← List.cons_append, HM.out]; exact ho3)⟩
    · obtain rfl : i = L.length := by omega
      have q4 : ¬ (L.length : Int) < (L.length : Int) := by omega
      rw [List.take_length] at O1 hy
      obtain ⟨m, HM⟩ : ∃ m, Hid (t :: L.flatten = m) := ⟨_, rfl⟩
      rw [HM.out] at hy O1
      subst hy
      go_wp2
      go_ret
      exact ⟨_, rfl, by rw [HN.out, HM.out]; exact O1.out, by rw [HN.out]; exact L1.out⟩
end Go.Proofs.YtmicmbjbclkbjaaDoor

/-
  tag.hashed, indentureref04.sum, tag.Leaf, tag.Key, tag.Value, tag.Empty, tag.Nothing and the reference's: what the calls do.
-/
namespace Go.Proofs.YtmicmbjbclkbjaaDoor
open Go.RowKit
/-- The hash of a kind. -/
def tg (t : UInt8) (L : List (List UInt8)) : List UInt8 := sha (t :: L.flatten)
theorem tg_length (t : UInt8) (L : List (List UInt8)) : (tg t L).length = 32 := sha_length _
set_option maxHeartbeats 1000000 in
set_option maxRecDepth 100000 in
theorem hashed_any (t : UInt8) (v : Value) (L : List (List UInt8)) (w : World) (hT : Tabs w) (hv : RdR w v L) (hn : L.flatten.length ≤ 1099511627000) (hl : L.length ≤ 1099511627776) :
    Calls Tryd.prog 45 #[.int .u8 (t.toNat : Int), v] w fun e w' => e = .returned (.agg (By (tg t L)).toArray) ∧ Below w.heap.size w w' := by
  have HV : Hid (RdR w v L) := hv
  clear hv
  have HT : Hid (Tabs w) := hT
  clear hT
  obtain ⟨N, HN⟩ : ∃ N, Hid (w.heap.size = N) := ⟨_, rfl⟩
  have HNT : Hid (2 ≤ N) := (show _ by rw [← HN.out]; exact HT.out.size)
  go_enter Tryd.func45, Tryd.ntmps45
  go_wp2_with fail
  rw [HN.out]
  obtain ⟨w0, hw0⟩ : ∃ x, x = w.alloc (.cells (By (List.replicate 32 0)).toArray 31 (0, 0)) := ⟨_, rfl⟩
  change Calls _ _ _ (w.alloc (.cells (By (List.replicate 32 0)).toArray 31 (0, 0))) _
  rw [← hw0]
  have O0 : Hid (Blk w0 N 31 (By (List.replicate 32 0))) := (show Blk _ _ _ _ by rw [hw0, ← HN.out]; exact Blk.new w 31 (By (List.replicate 32 0)))
  have L0 : Hid (Below N w w0) := (show Below _ _ _ by rw [hw0]; exact (Below.refl _ _).alloc (by rw [HN.out]; exact Nat.le_refl _) _)
  clear hw0
  refine (bytes_any t v L w0 (HV.out.kept (by rw [HN.out]; exact L0.out)) (by omega) hl).mono ?_
  rintro e w1 ⟨v1, rfl, ho1, hb1⟩
  have O1 : Hid (Blk w1 N 31 (By (List.replicate 32 0))) := O0.out.kept hb1
  have L1 : Hid (Below N w w1) := L0.out.trans (hb1.mono (Nat.le_of_lt O0.out.lt))
  have R1 : Hid (Rd w1 v1 (t :: L.flatten)) := ho1.rd
  clear hb1 ho1 O0 L0
  go_wp2_with fail
  refine (sum_any v1 (t :: L.flatten) (by rw [List.length_cons]; omega) w1 (HT.out.kept (L1.out.mono HNT.out)) R1.out).mono ?_
  rintro e w2 ⟨rfl, hb2⟩
  have O2 : Hid (Blk w2 N 31 (By (List.replicate 32 0))) := O1.out.kept hb2
  have L2 : Hid (Below N w w2) := L1.out.trans (hb2.mono (Nat.le_of_lt O1.out.lt))
  clear hb2 O1 L1 R1
  have HL : Hid (tg t L = sha (t :: L.flatten)) := rfl
  rw [← HL.out]
  have hl32 : (tg t L).length = 32 := sha_length _
  have t0 := O2.out.there 0 32 (by rw [By_length]; simp)
  obtain ⟨X, HX⟩ : ∃ X, Hid (tg t L = X) := ⟨_, rfl⟩
  rw [HX.out] at hl32 ⊢
  go_wp2_with (first
    | (refine wpList_store_mid rfl 31 _ _ rfl N 0 _ rfl rfl (by simpa [By_length, hl32] using t0) (by simpa [By_length, hl32] using Tryd.size31) (all_one (By_one _)) ?_)
    | fail)
  have hB := Blk.over (By X) O2.out 0 (by rw [By_length, By_length, hl32]; simp)
  rw [over_all _ _ (by rw [By_length, By_length, hl32]; simp)] at hB
  refine bodyPost_ret (results_cell_row rfl _ _ N 31 _ (0, 0) _ rfl hB Tryd.underlying31 rfl (by simpa [By_length, hl32] using Tryd.size31)) rfl ⟨by rw [HX.out], ?_⟩
  rw [HN.out]
  exact L2.out.trans ((But.setCells N _ 0 w2).below (by omega) (by have := O2.out.lt; omega))

set_option maxHeartbeats 1000000 in
set_option maxRecDepth 100000 in
theorem refsum_any (t : UInt8) (v : Value) (L : List (List UInt8)) (w : World) (hv : RdR w v L) (hn : L.flatten.length ≤ 1099511627000) (hl : L.length ≤ 1099511627776) :
    Calls Tryd.prog 33 #[.int .u8 (t.toNat : Int), v] w fun e w' => e = .returned (.agg (By (tg t L)).toArray) ∧ Below w.heap.size w w' := by
  have HV : Hid (RdR w v L) := hv
  clear hv
  obtain ⟨N, HN⟩ : ∃ N, Hid (w.heap.size = N) := ⟨_, rfl⟩
  go_enter Tryd.func33, Tryd.ntmps33
  go_wp2_with fail
  rw [HN.out]
  obtain ⟨w0, hw0⟩ : ∃ x, x = w.alloc (.cells (By (List.replicate 32 0)).toArray 31 (0, 0)) := ⟨_, rfl⟩
  change Calls _ _ _ (w.alloc (.cells (By (List.replicate 32 0)).toArray 31 (0, 0))) _
  rw [← hw0]
  have O0 : Hid (Blk w0 N 31 (By (List.replicate 32 0))) := (show Blk _ _ _ _ by rw [hw0, ← HN.out]; exact Blk.new w 31 (By (List.replicate 32 0)))
  have L0 : Hid (Below N w w0) := (show Below _ _ _ by rw [hw0]; exact (Below.refl _ _).alloc (by rw [HN.out]; exact Nat.le_refl _) _)
  clear hw0
  refine (refBytes_any t v L w0 (HV.out.kept (by rw [HN.out]; exact L0.out)) (by omega) hl).mono ?_
  rintro e w1 ⟨v1, rfl, ho1, hb1⟩
  have O1 : Hid (Blk w1 N 31 (By (List.replicate 32 0))) := O0.out.kept hb1
  have L1 : Hid (Below N w w1) := L0.out.trans (hb1.mono (Nat.le_of_lt O0.out.lt))
  have R1 : Hid (Rd w1 v1 (t :: L.flatten)) := ho1.rd
  clear hb1 ho1 O0 L0
  go_wp2_with fail
  refine (refSum_any v1 (t :: L.flatten) (by rw [List.length_cons]; omega) w1 R1.out).mono ?_
  rintro e w2 ⟨rfl, hb2⟩
  have O2 : Hid (Blk w2 N 31 (By (List.replicate 32 0))) := O1.out.kept hb2
  have L2 : Hid (Below N w w2) := L1.out.trans (hb2.mono (Nat.le_of_lt O1.out.lt))
  clear hb2 O1 L1 R1
  have HL : Hid (tg t L = sha (t :: L.flatten)) := rfl
  rw [← HL.out]
  have hl32 : (tg t L).length = 32 := sha_length _
  have t0 := O2.out.there 0 32 (by rw [By_length]; simp)
  obtain ⟨X, HX⟩ : ∃ X, Hid (tg t L = X) := ⟨_, rfl⟩
  rw [HX.out] at hl32 ⊢
  go_wp2_with (first
    | (refine wpList_store_mid rfl 31 _ _ rfl N 0 _ rfl rfl (by simpa [By_length, hl32] using t0) (by simpa [By_length, hl32] using Tryd.size31) (all_one (By_one _)) ?_)
    | fail)
  have hB := Blk.over (By X) O2.out 0 (by rw [By_length, By_length, hl32]; simp)
  rw [over_all _ _ (by rw [By_length, By_length, hl32]; simp)] at hB
  refine bodyPost_ret (results_cell_row rfl _ _ N 31 _ (0, 0) _ rfl hB Tryd.underlying31 rfl (by simpa [By_length, hl32] using Tryd.size31)) rfl ⟨by rw [HX.out], ?_⟩
  rw [HN.out]
  exact L2.out.trans ((But.setCells N _ 0 w2).below (by omega) (by have := O2.out.lt; omega))

set_option maxHeartbeats 1000000 in
set_option maxRecDepth 100000 in
theorem leaf_any (v : Value) (l : List UInt8) (w : World) (hT : Tabs w) (hv : Rd w v l) (hn : l.length ≤ 1099511627000) :
    Calls Tryd.prog 23 #[v] w fun e w' => e = .returned (.agg (By (tg 0 [l])).toArray) ∧ Below w.heap.size w w' := by
  have HV : Hid (Rd w v l) := hv
  obtain ⟨a, cap, rfl, -⟩ := hv
  have HT : Hid (Tabs w) := hT
  clear hT
  obtain ⟨N, HN⟩ : ∃ N, Hid (w.heap.size = N) := ⟨_, rfl⟩
  have HNT : Hid (2 ≤ N) := (show _ by rw [← HN.out]; exact HT.out.size)
  go_enter Tryd.func23, Tryd.ntmps23
  go_wp2_with fail
  rw [HN.out]
  obtain ⟨w0, hw0⟩ : ∃ x, x = w.alloc (.cells (By (List.replicate 32 0)).toArray 31 (0, 0)) := ⟨_, rfl⟩
  have HN0 : Hid (w0.heap.size = N + 1) := (show _ = _ by rw [hw0]; simp [HN.out])
  have O0 : Hid (Blk w0 N 31 (By (List.replicate 32 0))) := (show Blk _ _ _ _ by rw [hw0, ← HN.out]; exact Blk.new w 31 (By (List.replicate 32 0)))
  have L0 : Hid (Below N w w0) := (show Below _ _ _ by rw [hw0]; exact (Below.refl _ _).alloc (by rw [HN.out]; exact Nat.le_refl _) _)
  change Calls _ _ _ ((w.alloc (.cells (By (List.replicate 32 0)).toArray 31 (0, 0))).alloc (.cells #[.slice a l.length cap] 28 (0, 0))) _
  rw [← hw0]
  have R0 := rows_one w0 _ l (HV.out.kept (by rw [HN.out]; exact L0.out))
  rw [HN0.out] at R0
  obtain ⟨w1, hw1⟩ : ∃ x, x = w0.alloc (.cells #[.slice a l.length cap] 28 (0, 0)) := ⟨_, rfl⟩
  have hb1 : Below w0.heap.size w0 w1 := by rw [hw1]; exact (Below.refl _ _).alloc (Nat.le_refl _) _
  rw [← hw1] at R0 ⊢
  have R1 : Hid _ := R0
  have O1 : Hid (Blk w1 N 31 (By (List.replicate 32 0))) := O0.out.kept hb1
  have L1 : Hid (Below N w w1) := L0.out.trans (hb1.mono (Nat.le_of_lt O0.out.lt))
  clear hw0 hw1 R0 hb1
  refine (hashed_any 0 _ [l] w1 (HT.out.kept (L1.out.mono HNT.out)) R1.out (by simpa using hn) (by simp)).mono ?_
  rintro e w2 ⟨rfl, hb2⟩
  have O2 : Hid (Blk w2 N 31 (By (List.replicate 32 0))) := O1.out.kept hb2
  have L2 : Hid (Below N w w2) := L1.out.trans (hb2.mono (Nat.le_of_lt O1.out.lt))
  clear hb2
  have hl32 : (tg 0 [l]).length = 32 := sha_length _
  have t0 := O2.out.there 0 32 (by rw [By_length]; simp)
  obtain ⟨X, HX⟩ : ∃ X, Hid (tg 0 [l] = X) := ⟨_, rfl⟩
  rw [HX.out] at hl32 ⊢
  go_wp2_with (first
    | (refine wpList_store_mid rfl 31 _ _ rfl N 0 _ rfl rfl (by simpa [By_length, hl32] using t0) (by simpa [By_length, hl32] using Tryd.size31) (all_one (By_one _)) ?_)
    | fail)
  have hB := Blk.over (By X) O2.out 0 (by rw [By_length, By_length, hl32]; simp)
  rw [over_all _ _ (by rw [By_length, By_length, hl32]; simp)] at hB
  refine bodyPost_ret (results_cell_row rfl _ _ N 31 _ (0, 0) _ rfl hB Tryd.underlying31 rfl (by simpa [By_length, hl32] using Tryd.size31)) rfl ⟨by rw [HX.out], ?_⟩
  rw [HN.out]
  exact L2.out.trans ((But.setCells N _ 0 w2).below (by omega) (by have := O2.out.lt; omega))

set_option maxHeartbeats 1000000 in
set_option maxRecDepth 100000 in
theorem refLeaf_any (v : Value) (l : List UInt8) (w : World) (hv : Rd w v l) (hn : l.length ≤ 1099511627000) :
    Calls Tryd.prog 17 #[v] w fun e w' => e = .returned (.agg (By (tg 0 [l])).toArray) ∧ Below w.heap.size w w' := by
  have HV : Hid (Rd w v l) := hv
  obtain ⟨a, cap, rfl, -⟩ := hv
  obtain ⟨N, HN⟩ : ∃ N, Hid (w.heap.size = N) := ⟨_, rfl⟩
  go_enter Tryd.func17, Tryd.ntmps17
  go_wp2_with fail
  rw [HN.out]
  obtain ⟨w0, hw0⟩ : ∃ x, x = w.alloc (.cells (By (List.replicate 32 0)).toArray 31 (0, 0)) := ⟨_, rfl⟩
  have HN0 : Hid (w0.heap.size = N + 1) := (show _ = _ by rw [hw0]; simp [HN.out])
  have O0 : Hid (Blk w0 N 31 (By (List.replicate 32 0))) := (show Blk _ _ _ _ by rw [hw0, ← HN.out]; exact Blk.new w 31 (By (List.replicate 32 0)))
  have L0 : Hid (Below N w w0) := (show Below _ _ _ by rw [hw0]; exact (Below.refl _ _).alloc (by rw [HN.out]; exact Nat.le_refl _) _)
  change Calls _ _ _ ((w.alloc (.cells (By (List.replicate 32 0)).toArray 31 (0, 0))).alloc (.cells #[.slice a l.length cap] 28 (0, 0))) _
  rw [← hw0]
  have R0 := rows_one w0 _ l (HV.out.kept (by rw [HN.out]; exact L0.out))
  rw [HN0.out] at R0
  obtain ⟨w1, hw1⟩ : ∃ x, x = w0.alloc (.cells #[.slice a l.length cap] 28 (0, 0)) := ⟨_, rfl⟩
  have hb1 : Below w0.heap.size w0 w1 := by rw [hw1]; exact (Below.refl _ _).alloc (Nat.le_refl _) _
  rw [← hw1] at R0 ⊢
  have R1 : Hid _ := R0
  have O1 : Hid (Blk w1 N 31 (By (List.replicate 32 0))) := O0.out.kept hb1
  have L1 : Hid (Below N w w1) := L0.out.trans (hb1.mono (Nat.le_of_lt O0.out.lt))
  clear hw0 hw1 R0 hb1
  refine (refsum_any 0 _ [l] w1 R1.out (by simpa using hn) (by simp)).mono ?_
  rintro e w2 ⟨rfl, hb2⟩
  have O2 : Hid (Blk w2 N 31 (By (List.replicate 32 0))) := O1.out.kept hb2
  have L2 : Hid (Below N w w2) := L1.out.trans (hb2.mono (Nat.le_of_lt O1.out.lt))
  clear hb2
  have hl32 : (tg 0 [l]).length = 32 := sha_length _
  have t0 := O2.out.there 0 32 (by rw [By_length]; simp)
  obtain ⟨X, HX⟩ : ∃ X, Hid (tg 0 [l] = X) := ⟨_, rfl⟩
  rw [HX.out] at hl32 ⊢
  go_wp2_with (first
    | (refine wpList_store_mid rfl 31 _ _ rfl N 0 _ rfl rfl (by simpa [By_length, hl32] using t0) (by simpa [By_length, hl32] using Tryd.size31) (all_one (By_one _)) ?_)
    | fail)
  have hB := Blk.over (By X) O2.out 0 (by rw [By_length, By_length, hl32]; simp)
  rw [over_all _ _ (by rw [By_length, By_length, hl32]; simp)] at hB
  refine bodyPost_ret (results_cell_row rfl _ _ N 31 _ (0, 0) _ rfl hB Tryd.underlying31 rfl (by simpa [By_length, hl32] using Tryd.size31)) rfl ⟨by rw [HX.out], ?_⟩
  rw [HN.out]
  exact L2.out.trans ((But.setCells N _ 0 w2).below (by omega) (by have := O2.out.lt; omega))

end Go.Proofs.YtmicmbjbclkbjaaDoor

/-
  tag.Node, tag.Item, tag.Fork and the reference's, indenturelaw04.lives: what the calls do.
-/
namespace Go.Proofs.YtmicmbjbclkbjaaDoor
open Go.RowKit
end Go.Proofs.YtmicmbjbclkbjaaDoor
