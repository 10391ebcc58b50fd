/-
  The law's lives: what the call does.
-/
import Derived.Test.YtcngkeilleeanaaChJ
namespace Go.Proofs.Ytcngkeilleeanaa
open Go.RowKit

/-- The document's example. -/
def exL : List Ver := [(1, ⟨#[97]⟩, false), (3, ⟨#[]⟩, true), (5, ⟨#[98]⟩, false)]
theorem ex_get2 : getP exL 2 = ((1, ⟨#[97]⟩, false), true) := by decide +kernel
theorem ex_get4 : getP exL 4 = (zv, false) := by decide +kernel
theorem ex_trim : trimP exL 4 = [(5, ⟨#[98]⟩, false)] := by decide +kernel
set_option maxHeartbeats 1000000 in
set_option maxRecDepth 100000 in
theorem lives_any (w : World) : Calls Try.prog 9 #[] w fun e w' => e = .returned (.bool true) ∧ Below w.heap.size w w' := by
  have hz := Zver
  have R1 := hide (own_blk (B := w.heap.size) (Blk.new w 28 (VCs exL)) (Nat.le_refl _) (by decide)).rd
  have L1 := hide ((Below.refl w.heap.size w).alloc (Nat.le_refl _) (.cells (VCs exL).toArray 28 (0, 0)))
  go_enter Try.func9, Try.ntmps9
  go_upto_region 2 with fail
  obtain ⟨w1, hw1⟩ : ∃ x, x = w.alloc (.cells (VCs exL).toArray 28 (0, 0)) := ⟨_, rfl⟩
  obtain ⟨C, HC⟩ : ∃ C, Hid (w.heap.size = C) := ⟨_, rfl⟩
  have hw1' : w.alloc (.cells #[.int .i64 1, .string ⟨#[97]⟩, .bool false, .int .i64 3, .string ⟨#[]⟩, .bool true, .int .i64 5, .string ⟨#[98]⟩, .bool false] 28 (0, 0)) = w1 := hw1.symm
  rw [hw1', HC.out]
  rw [← hw1, HC.out] at R1
  rw [← hw1] at L1
  clear hw1 hw1'
  have g2 := fun W (h : Below w1.heap.size w1 W) => get_any (R1.out.kept h) (by decide) 2
  have g4 := fun W (h : Below w1.heap.size w1 W) => get_any (R1.out.kept h) (by decide) 4
  have t4 := fun W (h : Below w1.heap.size w1 W) => trim_any (R1.out.kept h) (by decide) 4
  rw [ex_get2] at g2
  rw [ex_get4] at g4
  rw [ex_trim] at t4
  have H2 := hide g2
  have H4 := hide g4
  have HT := hide t4
  clear g2 g4 t4 R1
  go_wp2_with fail
  refine (H2.out w1 (Below.refl _ _)).mono ?_
  rintro e w2a ⟨rfl, hb⟩
  have Lw2a : Hid (Below w.heap.size w w2a) := L1.out.trans (hb.mono L1.out.size)
  have Dw2a : Hid (Below w1.heap.size w1 w2a) := hb
  clear hb
  go_upto_region 3 with (first
    | (refine wpList_store_new rfl 28 _ _ rfl w2a _ (VC (1, ⟨#[97]⟩, false)).toArray _ rfl rfl rfl Try.size28 rfl (all_one (VC_one (1, ⟨#[97]⟩, false))) ?_)
    | fail)
  obtain ⟨E2, HE2⟩ : ∃ E, Hid (w2a.heap.size = E) := ⟨_, rfl⟩
  rw [HE2.out]
  obtain ⟨w2, hw⟩ : ∃ y, y = w2a.alloc (.cells (VC (1, ⟨#[97]⟩, false)).toArray 28 (0, 0)) := ⟨_, rfl⟩
  rw [← hw]
  have Dw2b : Hid (Below w2a.heap.size w2a w2) := (show Below _ _ _ by rw [hw]; exact (Below.refl _ _).alloc (Nat.le_refl _) _)
  have L2 : Hid (Below w.heap.size w w2) := Lw2a.out.trans (Dw2b.out.mono Lw2a.out.size)
  have Dw2 : Hid (Below w1.heap.size w1 w2) := Dw2a.out.trans (Dw2b.out.mono Dw2a.out.size)
  have BE2 : Hid (Blk w2 E2 28 (VC (1, ⟨#[97]⟩, false))) := (show Blk _ _ _ _ by rw [hw, ← HE2.out]; exact Blk.new w2a 28 (VC (1, ⟨#[97]⟩, false)))
  clear hw Dw2a Dw2b Lw2a
  go_wp2_with fail
  refine (H4.out w2 Dw2.out).mono ?_
  rintro e w3a ⟨rfl, hb⟩
  have Lw3a : Hid (Below w.heap.size w w3a) := L2.out.trans (hb.mono L2.out.size)
  have Dw3a : Hid (Below w2.heap.size w2 w3a) := hb
  clear hb
  go_upto_region 4 with (first
    | (refine wpList_store_new rfl 28 _ _ rfl w3a _ (VC zv).toArray _ rfl rfl rfl Try.size28 rfl (all_one (VC_one zv)) ?_)
    | fail)
  obtain ⟨E3, HE3⟩ : ∃ E, Hid (w3a.heap.size = E) := ⟨_, rfl⟩
  rw [HE3.out]
  obtain ⟨w3, hw⟩ : ∃ y, y = w3a.alloc (.cells (VC zv).toArray 28 (0, 0)) := ⟨_, rfl⟩
  rw [← hw]
  have Dw3b : Hid (Below w3a.heap.size w3a w3) := (show Below _ _ _ by rw [hw]; exact (Below.refl _ _).alloc (Nat.le_refl _) _)
  have L3 : Hid (Below w.heap.size w w3) := Lw3a.out.trans (Dw3b.out.mono Lw3a.out.size)
  have Dw3 : Hid (Below w2.heap.size w2 w3) := Dw3a.out.trans (Dw3b.out.mono Dw3a.out.size)
  have BE3 : Hid (Blk w3 E3 28 (VC zv)) := (show Blk _ _ _ _ by rw [hw, ← HE3.out]; exact Blk.new w3a 28 (VC zv))
  clear hw Dw3a Dw3b Lw3a
  go_wp2_with fail
  refine (HT.out w3 (Dw2.out.trans (Dw3.out.mono Dw2.out.size))).mono ?_
  rintro e w4 ⟨v4, rfl, ho4, hb4⟩
  have L4 : Hid (Below w.heap.size w w4) := L3.out.trans (hb4.mono L3.out.size)
  have c1 := ((BE2.out.kept Dw3.out).kept hb4).cell (j := 1) rfl
  obtain ⟨a4, cp4, rfl⟩ := ho4.rd.slice
  obtain ⟨b, off, rfl, hlb, hx⟩ := ho4.rd.nth (by decide)
  have c5 := hx 0 (by decide) 0 _ rfl
  simp only [List.length_cons, List.length_nil, Nat.zero_mul, Nat.add_zero, Nat.zero_add] at c5 c1 ⊢
  clear hx ho4 hb4 H2 H4 HT
  go_wp2_with fail
  go_ret
  exact ⟨rfl, L4.out⟩
#print axioms lives_any
end Go.Proofs.Ytcngkeilleeanaa
