/-
  (*sha.State).Write, Sum, Len, Copy: what the calls do.
-/
import Derived.Test.YtlfgbgcjajbckaaDoorSums
namespace Go.Proofs.YtlfgbgcjajbckaaDoor
open Go.RowKit

set_option maxHeartbeats 1000000 in
set_option maxRecDepth 100000 in
theorem write_any (v : Value) (l m : List UInt8) (b : Nat) (hn : m.length + l.length ≤ 1099511627776) (h2 : 2 ≤ b) (w : World) (hT : Tabs w) (hS : Stt w b m) (hr : Rd w v l) (ho : Off b v) :
    Calls Tryd.prog 17 #[.pointer (some ⟨b, 0, none⟩), v] w fun e w' => e = .returned (.bool true) ∧ But b w w' ∧ Stt w' b (m ++ l) := by
  obtain ⟨h, k, hB, hH⟩ := hS
  have HT : Hid (Tabs w) := hT
  have HR : Hid (Rd w v l) := hr
  have HO : Hid (Off b v) := ho
  have HB : Hid (Blk w b 48 (SC true h k m.length)) := hB
  have HH : Hid (Holds h k m) := hH
  have c73 := hB.cell (SC_len (by rw [hH.words]; exact blks_length _ blk_length _) hH.size)
  clear hT hB hH ho
  obtain ⟨a, cap, rfl, h1, hc2, h3, h4⟩ := hr
  clear h3 h4
  go_enter Tryd.func17, Tryd.ntmps17
  go_wp2_with fail
  refine (isMade_any w b true h k m.length HB.out).mono ?_
  rintro e w1 ⟨rfl, hw⟩; subst hw
  go_wp2_with fail
  refine (take_any _ l m b true h k HH.out (by omega) _ HT.out HB.out HR.out HO.out h2).mono ?_
  rintro e w2 ⟨rfl, hu, h', k', hb, hh⟩
  have U : Hid (But b w1 w2) := hu
  have ST : Hid (Stt w2 b (m ++ l)) := ⟨h', k', hb, hh⟩
  clear hu hb hh
  go_wp2
  go_ret
  exact ⟨rfl, U.out, ST.out⟩

set_option maxHeartbeats 1000000 in
set_option maxRecDepth 100000 in
theorem stSum_any (m : List UInt8) (b : Nat) (hn : m.length ≤ 1099511627776) (w : World) (hT : Tabs w) (hS : Stt w b m) :
    Calls Tryd.prog 18 #[.pointer (some ⟨b, 0, none⟩)] w fun e w' => e = .returned (.agg (By (sha m)).toArray) ∧ Below w.heap.size w w' := by
  obtain ⟨h, k, hB, hH⟩ := hS
  have HT : Hid (Tabs w) := hT
  have HB : Hid (Blk w b 48 (SC true h k m.length)) := hB
  have HH : Hid (Holds h k m) := hH
  have hhl : h.length = 8 := by rw [hH.words]; exact blks_length _ blk_length _
  have hkl : k.length = 64 := hH.size
  clear hT hB hH
  obtain ⟨N, HN⟩ : ∃ N, Hid (w.heap.size = N) := ⟨_, rfl⟩
  have HNT : Hid (2 ≤ N) := (show _ by rw [← HN.out]; exact HT.out.size)
  go_enter Tryd.func18, Tryd.ntmps18
  go_wp2_with fail
  rw [HN.out]
  obtain ⟨w0, hw0⟩ : ∃ x, x = w.alloc (.cells (By (List.replicate 32 0)).toArray 25 (0, 0)) := ⟨_, rfl⟩
  change Calls _ _ _ (w.alloc (.cells (By (List.replicate 32 0)).toArray 25 (0, 0))) _
  rw [← hw0]
  have O0 : Hid (Blk w0 N 25 (By (List.replicate 32 0))) := (show Blk _ _ _ _ by rw [hw0, ← HN.out]; exact Blk.new w 25 (By (List.replicate 32 0)))
  have L0 : Hid (Below N w w0) := (show Below _ _ _ by rw [hw0]; exact (Below.refl _ _).alloc (by rw [HN.out]; exact Nat.le_refl _) _)
  have T0 : Hid (Tabs w0) := HT.out.kept (L0.out.mono HNT.out)
  have B0 : Hid (Blk w0 b 48 (SC true h k m.length)) := HB.out.kept (by rw [HN.out]; exact L0.out)
  clear hw0
  refine (isMade_any w0 b true h k m.length B0.out).mono ?_
  rintro e w1 ⟨rfl, hw⟩; subst hw
  have r3 := B0.out.range0
  obtain ⟨D, HD⟩ : ∃ D, Hid (SC true h k m.length = D) := ⟨_, rfl⟩
  rw [HD.out] at r3
  have hdl : D.length = 74 := by rw [← HD.out]; exact SC_length hhl hkl
  go_wp2_with (first
    | (refine wpList_load_mid rfl 48 _ rfl b 0 rfl D _ r3 Tryd.underlying48 rfl (by rw [hdl]; exact Tryd.size48) ?_)
    | fail)
  rw [← HD.out]
  refine (ended_any m true h k HH.out (by omega) w1 T0.out).mono ?_
  rintro e w4 ⟨rfl, hw4⟩
  have O4 : Hid (Blk w4 N 25 (By (List.replicate 32 0))) := O0.out.kept hw4
  have L4 : Hid (Below N w w4) := L0.out.trans (hw4.mono (by have := O0.out.lt; omega))
  clear hw4
  have hl32 := sha_length m
  have t0 := O4.out.there 0 32 (by rw [By_length]; simp)
  obtain ⟨L, HL⟩ : ∃ L, Hid (sha m = L) := ⟨_, rfl⟩
  rw [HL.out] at hl32 ⊢
  go_wp2_with (first
    | (refine wpList_store_mid rfl 25 _ _ rfl N 0 _ rfl rfl (by simpa [By_length, hl32] using t0) (by simpa [By_length, hl32] using Tryd.size25) (all_one (By_one _)) ?_)
    | fail)
  have hB := Blk.over (By L) O4.out 0 (by rw [By_length, By_length, hl32]; simp)
  rw [over_all _ _ (by rw [By_length, By_length, hl32]; simp)] at hB
  refine bodyPost_ret (results_cell_row rfl _ _ N 25 _ (0, 0) _ rfl hB Tryd.underlying25 rfl (by simpa [By_length, hl32] using Tryd.size25)) rfl ⟨by rw [HL.out], ?_⟩
  rw [HN.out]
  exact L4.out.trans ((But.setCells N _ 0 w4).below (by omega) (by have := O4.out.lt; omega))

set_option maxHeartbeats 1000000 in
set_option maxRecDepth 100000 in
theorem len_any (m : List UInt8) (b : Nat) (hn : m.length ≤ 1099511627776) (w : World) (hS : Stt w b m) :
    Calls Tryd.prog 19 #[.pointer (some ⟨b, 0, none⟩)] w fun e w' => e = .returned (.int .i64 (m.length : Int)) ∧ w' = w := by
  obtain ⟨h, k, hB, hH⟩ := hS
  have HB : Hid (Blk w b 48 (SC true h k m.length)) := hB
  have c73 := hB.cell (SC_len (by rw [hH.words]; exact blks_length _ blk_length _) hH.size)
  clear hB hH
  go_enter Tryd.func19, Tryd.ntmps19
  go_wp2_with fail
  refine (isMade_any w b true h k m.length HB.out).mono ?_
  rintro e w1 ⟨rfl, hw⟩; subst hw
  go_wp2
  go_ret
  exact ⟨rfl, rfl⟩

set_option maxHeartbeats 1000000 in
set_option maxRecDepth 100000 in
theorem copy_any (m : List UInt8) (b : Nat) (w : World) (hS : Stt w b m) :
    Calls Tryd.prog 20 #[.pointer (some ⟨b, 0, none⟩)] w fun e w' => ∃ c, e = .returned (.pointer (some ⟨c, 0, none⟩)) ∧ w.heap.size ≤ c ∧ Stt w' c m ∧ Below w.heap.size w w' := by
  obtain ⟨h, k, hB, hH⟩ := hS
  have HB : Hid (Blk w b 48 (SC true h k m.length)) := hB
  have HH : Hid (Holds h k m) := hH
  have hhl : h.length = 8 := by rw [hH.words]; exact blks_length _ blk_length _
  have hkl : k.length = 64 := hH.size
  clear hB hH
  go_enter Tryd.func20, Tryd.ntmps20
  go_wp2_with fail
  refine (isMade_any w b true h k m.length HB.out).mono ?_
  rintro e w1 ⟨rfl, hw⟩; subst hw
  have r3 := HB.out.range0
  obtain ⟨D, HD⟩ : ∃ D, Hid (SC true h k m.length = D) := ⟨_, rfl⟩
  rw [HD.out] at r3
  have hdl : D.length = 74 := by rw [← HD.out]; exact SC_length hhl hkl
  have HC1 : Hid (∀ u ∈ D, u.oneCell' = true) := (show ∀ u ∈ D, _ by rw [← HD.out]; exact SC_one _ _ _ _)
  have hz := zero48
  obtain ⟨Z, HZ⟩ : ∃ Z, Hid (Z48 = Z) := ⟨_, rfl⟩
  rw [HZ.out] at hz
  have hzl : Z.length = 74 := by rw [← HZ.out]; rfl
  go_wp2_with (first
    | (refine wpList_load_mid rfl 48 _ rfl b 0 rfl D _ r3 Tryd.underlying48 rfl (by rw [hdl]; exact Tryd.size48) ?_)
    | (refine wpList_store_new rfl 48 _ _ rfl w1 _ _ _ rfl rfl rfl (by simpa [hdl] using Tryd.size48) (by simp [hzl, hdl]) (all_one HC1.out) ?_)
    | fail)
  go_ret
  refine ⟨w1.heap.size, rfl, Nat.le_refl _, ⟨h, k, ?_, HH.out⟩, (Below.refl _ _).alloc (Nat.le_refl _) _⟩
  rw [HD.out]
  exact Blk.new w1 48 D
end Go.Proofs.YtlfgbgcjajbckaaDoor
