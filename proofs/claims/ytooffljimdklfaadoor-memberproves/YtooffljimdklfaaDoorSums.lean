/-
  sha.Sum, sha.New, (*sha.State).isMade: what the calls do.
-/
import Derived.Test.YtooffljimdklfaaDoorEnded
namespace Go.Proofs.YtooffljimdklfaaDoor
open Go.RowKit

/-- Block b is a State to which the bytes m were written. -/
def Stt (w : World) (b : Nat) (m : List UInt8) : Prop := ∃ h k, Blk w b 137 (SC true h k m.length) ∧ Holds h k m
theorem Stt.but {w w' : World} {b c : Nat} {m : List UInt8} (h : Stt w b m) (hb : But c w w') (hc : b ≠ c) : Stt w' b m := by
  obtain ⟨x, k, h1, h2⟩ := h
  exact ⟨x, k, h1.but hb hc, h2⟩
theorem Stt.kept {w w' : World} {b : Nat} {m : List UInt8} (h : Stt w b m) (hb : Below w.heap.size w w') : Stt w' b m := by
  obtain ⟨x, k, h1, h2⟩ := h
  exact ⟨x, k, h1.kept hb, h2⟩
theorem Stt.lt {w : World} {b : Nat} {m : List UInt8} (h : Stt w b m) : b < w.heap.size := by
  obtain ⟨x, k, h1, h2⟩ := h
  exact h1.lt
theorem dig_words (h : List W) (hh : h.length = 8) : (dig h).length = 32 := by rw [dig_length, hh]
theorem sha_length (m : List UInt8) : (sha m).length = 32 := dig_words _ (blks_length _ blk_length _)

set_option maxHeartbeats 1000000 in
set_option maxRecDepth 100000 in
theorem sum_any (v : Value) (l : List UInt8) (hn : l.length ≤ 1099511627776) (w : World) (hT : Tabs w) (hr : Rd w v l) :
    Calls Tryd.prog 67 #[v] w fun e w' => e = .returned (.agg (By (sha l)).toArray) ∧ Below w.heap.size w w' := by
  have HT : Hid (Tabs w) := hT
  have HR : Hid (Rd w v l) := hr
  clear hT hr
  obtain ⟨N, HN⟩ : ∃ N, Hid (w.heap.size = N) := ⟨_, rfl⟩
  have HNT : Hid (2 ≤ N) := (show _ by rw [← HN.out]; exact HT.out.size)
  go_enter Tryd.func67, Tryd.ntmps67
  go_wp2_with fail
  rw [HN.out]
  obtain ⟨w0, hw0⟩ : ∃ x, x = w.alloc (.cells (By (List.replicate 32 0)).toArray 24 (0, 0)) := ⟨_, rfl⟩
  change Calls _ _ _ (w.alloc (.cells (By (List.replicate 32 0)).toArray 24 (0, 0))) _
  rw [← hw0]
  have O0 : Hid (Blk w0 N 24 (By (List.replicate 32 0))) := (show Blk _ _ _ _ by rw [hw0, ← HN.out]; exact Blk.new w 24 (By (List.replicate 32 0)))
  have L0 : Hid (Below N w w0) := (show Below _ _ _ by rw [hw0]; exact (Below.refl _ _).alloc (by rw [HN.out]; exact Nat.le_refl _) _)
  have T0 : Hid (Tabs w0) := HT.out.kept (L0.out.mono HNT.out)
  clear hw0
  refine (newState_any w0 T0.out).mono ?_
  rintro e w1 ⟨rfl, hw1⟩
  have O1 : Hid (Blk w1 N 24 (By (List.replicate 32 0))) := O0.out.kept hw1
  have L1 : Hid (Below N w w1) := L0.out.trans (hw1.mono (Nat.le_of_lt O0.out.lt))
  clear hw1 L0 T0
  obtain ⟨M, HM⟩ : ∃ M, Hid (w1.heap.size = M) := ⟨_, rfl⟩
  have HNM : Hid (N < M) := (show _ by rw [← HM.out]; exact O1.out.lt)
  obtain ⟨C, HC⟩ : ∃ C, Hid (S0c = C) := ⟨_, rfl⟩
  rw [HC.out]
  have hcl : C.length = 74 := by rw [← HC.out]; rfl
  have HC1 : Hid (∀ u ∈ C, u.oneCell' = true) := (show ∀ u ∈ C, _ by rw [← HC.out]; exact SC_one _ _ _ _)
  have hz := zero137
  obtain ⟨Z, HZ⟩ : ∃ Z, Hid (Z137 = Z) := ⟨_, rfl⟩
  rw [HZ.out] at hz
  have hzl : Z.length = 74 := by rw [← HZ.out]; rfl
  go_wp2_with (first
    | (refine wpList_store_new rfl 137 _ _ rfl w1 _ _ _ rfl rfl rfl (by simpa [hcl] using Tryd.size137) (by simp [hzl, hcl]) (all_one HC1.out) ?_)
    | fail)
  rw [HM.out]
  obtain ⟨w2, hw2⟩ : ∃ x, x = w1.alloc (.cells C.toArray 137 (0, 0)) := ⟨_, rfl⟩
  rw [← hw2]
  have S2 : Hid (Blk w2 M 137 (SC true H0 (List.replicate 64 0) ([] : List UInt8).length)) := (show Blk _ _ _ _ by
    rw [hw2, ← HM.out]
    have := Blk.new w1 137 C
    rw [← HC.out] at this ⊢
    exact this)
  have O2 : Hid (Blk w2 N 24 (By (List.replicate 32 0))) := (show Blk _ _ _ _ by rw [hw2]; exact O1.out.alloc _)
  have L2 : Hid (Below N w w2) := (show Below _ _ _ by rw [hw2]; exact L1.out.alloc (by have := HNM.out; rw [HM.out]; omega) _)
  have hNM := HNM.out
  have R2 : Hid (Rd w2 v l) := HR.out.kept (by rw [HN.out]; exact L2.out)
  clear hw2
  refine (take_any v l [] M true H0 (List.replicate 64 0) holds_nil (by simp; omega) w2 (HT.out.kept (L2.out.mono HNT.out)) S2.out R2.out (rd_off HR.out (by rw [HN.out]; omega)) (by have := HNT.out; omega)).mono ?_
  rintro e w3 ⟨rfl, hu3, h', k', hb3, hh3⟩
  rw [List.nil_append] at hb3 hh3
  have S3 : Hid (Blk w3 M 137 (SC true h' k' l.length)) := hb3
  have HH3 : Hid (Holds h' k' l) := hh3
  have O3 : Hid (Blk w3 N 24 (By (List.replicate 32 0))) := O2.out.but hu3 (by omega)
  have L3 : Hid (Below N w w3) := L2.out.trans (hu3.below (by omega) (by have := O2.out.lt; omega))
  have hhl' : h'.length = 8 := by rw [hh3.words]; exact blks_length _ blk_length _
  have hkl' : k'.length = 64 := hh3.size
  clear hu3 hb3 hh3 S2 O2 L2 R2
  have r3 := S3.out.range0
  obtain ⟨D, HD⟩ : ∃ D, Hid (SC true h' k' l.length = D) := ⟨_, rfl⟩
  rw [HD.out] at r3
  have hdl : D.length = 74 := by rw [← HD.out]; exact SC_length hhl' hkl'
  go_wp2_with (first
    | (refine wpList_load_mid rfl 137 _ rfl M 0 rfl D _ r3 Tryd.underlying137 rfl (by rw [hdl]; exact Tryd.size137) ?_)
    | fail)
  rw [← HD.out]
  refine (ended_any l true h' k' HH3.out (by omega) w3 (HT.out.kept (L3.out.mono HNT.out))).mono ?_
  rintro e w4 ⟨rfl, hw4⟩
  have O4 : Hid (Blk w4 N 24 (By (List.replicate 32 0))) := O3.out.kept hw4
  have L4 : Hid (Below N w w4) := L3.out.trans (hw4.mono (by have := O3.out.lt; omega))
  clear hw4
  have hl32 := sha_length l
  have t0 := O4.out.there 0 32 (by rw [By_length]; simp)
  obtain ⟨L, HL⟩ : ∃ L, Hid (sha l = L) := ⟨_, rfl⟩
  rw [HL.out] at hl32 ⊢
  go_wp2_with (first
    | (refine wpList_store_mid rfl 24 _ _ rfl N 0 _ rfl rfl (by simpa [By_length, hl32] using t0) (by simpa [By_length, hl32] using Tryd.size24) (all_one (By_one _)) ?_)
    | fail)
  have hB := Blk.over (By L) O4.out 0 (by rw [By_length, By_length, hl32]; simp)
  rw [over_all _ _ (by rw [By_length, By_length, hl32]; simp)] at hB
  refine bodyPost_ret (results_cell_row rfl _ _ N 24 _ (0, 0) _ rfl hB Tryd.underlying24 rfl (by simpa [By_length, hl32] using Tryd.size24)) rfl ⟨by rw [HL.out], ?_⟩
  rw [HN.out]
  exact L4.out.trans ((But.setCells N _ 0 w4).below (by omega) (by have := O4.out.lt; omega))

end Go.Proofs.YtooffljimdklfaaDoor
