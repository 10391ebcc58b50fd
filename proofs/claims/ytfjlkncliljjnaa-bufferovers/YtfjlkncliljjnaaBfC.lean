/-
  package buffer: New, isMade, Len, Get, write, Put, Drop: what the calls do.
-/
import Derived.Test.YtfjlkncliljjnaaBfM
namespace Go.Proofs.Ytfjlkncliljjnaa
open Go.RowKit
set_option maxRecDepth 100000 in
theorem bNew_any (w : World) : Calls Try.prog 11 #[] w fun e w' => ∃ D M, e = .returned (PT D) ∧ BAt w' D M [] ∧ w.heap.size ≤ D ∧ w.heap.size ≤ M ∧ Below w.heap.size w w' := by
  have hmm := @run_makeMap Try.prog
  have HM := hide (MapP_made w)
  have HB : Hid (Below w.heap.size w (w.alloc (.map #[] 0))) := (Below.refl _ _).alloc (Nat.le_refl _) _
  go_enter Try.func11, Try.ntmps11
  go_wp2
  go_ret
  refine ⟨_, w.heap.size, rfl, ⟨by have := Blk.new (w.alloc (.map #[] 0)) 55 [.map (some w.heap.size)]; rw [World.size_alloc] at this; exact this, ?_, List.Pairwise.nil, by simp⟩, by simp, Nat.le_refl _, ?_⟩
  · exact HM.out.chg (F := fun _ => False) (Chg.of_below ((Below.refl _ _).alloc (Nat.le_refl _) _)) id
  · exact HB.out.alloc HB.out.size _
theorem ne_map (M : Nat) : ∀ W : World, (binOp .neq 53 (.map (some M)) (.map none)).run Try.prog W = .ok (.bool true) W := fun W => by kernel_rfl
theorem ne_map0 : ∀ W : World, (binOp .neq 53 (.map none) (.map none)).run Try.prog W = .ok (.bool false) W := fun W => by kernel_rfl
set_option maxRecDepth 100000 in
theorem bMade_any {w : World} {D M : Nat} (hB : Blk w D 55 [.map (some M)]) : Calls Try.prog 28 #[PT D] w fun e w' => e = .returned (.bool true) ∧ w' = w := by
  have c0 := hB.cell (j := 0) rfl
  clear hB
  have hne := ne_map M
  go_enter Try.func28, Try.ntmps28
  go_wp2
  go_ret
  exact ⟨rfl, rfl⟩
/-- A Buffer that no call made. -/
def Un (w : World) (v : Value) : Prop := v = .pointer none ∨ ∃ D, v = PT D ∧ Blk w D 55 [.map none]
theorem Un.chg {w w' : World} {v : Value} (h : Un w v) {F : Nat → Prop} (hc : Chg F w w') (hF : ∀ D, v = PT D → ¬ F D) : Un w' v := by
  rcases h with rfl | ⟨D, rfl, hB⟩
  · exact .inl rfl
  · exact .inr ⟨D, rfl, hB.chg hc (hF D rfl)⟩
theorem Un.kept {w w' : World} {v : Value} (h : Un w v) (hb : Below w.heap.size w w') : Un w' v := h.chg (F := fun _ => False) (Chg.of_below hb) (fun _ _ => id)
set_option maxRecDepth 100000 in
theorem uMade_any {w : World} {v : Value} (h : Un w v) : Calls Try.prog 28 #[v] w fun e w' => e = .returned (.bool false) ∧ w' = w := by
  have hne := ne_map0
  rcases h with rfl | ⟨D, rfl, hB⟩
  · go_enter Try.func28, Try.ntmps28
    go_wp2
    go_ret
    exact ⟨rfl, rfl⟩
  · have c0 := hB.cell (j := 0) rfl
    clear hB
    go_enter Try.func28, Try.ntmps28
    go_wp2
    go_ret
    exact ⟨rfl, rfl⟩
set_option maxRecDepth 100000 in
theorem bLen_any {w : World} {D M : Nat} {L : List Pr} (h : BAt w D M L) : Calls Try.prog 17 #[PT D] w fun e w' => e = .returned (.int .i64 (L.length : Int)) ∧ w' = w := by
  have c0 := h.d.cell (j := 0) rfl
  have hl := h.mp.len 3
  have CM := hide (bMade_any h.d)
  clear h
  go_enter Try.func17, Try.ntmps17
  go_wp2_with fail
  refine CM.out.mono ?_
  rintro e w_ ⟨rfl, hw⟩
  subst w_
  go_wp2_with fail
  go_ret
  exact ⟨rfl, rfl⟩
set_option maxRecDepth 100000 in
theorem uLen_any {w : World} {v : Value} (h : Un w v) : Calls Try.prog 17 #[v] w fun e w' => e = .returned (.int .i64 0) ∧ w' = w := by
  have CM := hide (uMade_any h)
  clear h
  go_enter Try.func17, Try.ntmps17
  go_wp2_with fail
  refine CM.out.mono ?_
  rintro e w_ ⟨rfl, hw⟩
  subst w_
  go_wp2_with fail
  go_ret
  exact ⟨rfl, rfl⟩
set_option maxRecDepth 100000 in
theorem uWrites_any {w : World} {v : Value} (h : Un w v) : Calls Try.prog 19 #[v] w fun e w' => e = .returned (.slice none 0 0) ∧ w' = w := by
  have CM := hide (uMade_any h)
  clear h
  go_enter Try.func19, Try.ntmps19
  go_wp2_with fail
  refine CM.out.mono ?_
  rintro e w_ ⟨rfl, hw⟩
  subst w_
  go_wp2_with fail
  go_ret
  exact ⟨rfl, rfl⟩
set_option maxHeartbeats 1000000 in
set_option maxRecDepth 100000 in
theorem bGet_any {w : World} {D M : Nat} {L : List Pr} (h : BAt w D M L) (k : ByteArray) (hk : k.size ≤ maxLen) : Calls Try.prog 15 #[PT D, .string k] w fun e w' => e = .returned (.tuple #[.agg (PC ((getB L k).getD zp)).toArray, .bool (getB L k).isSome]) ∧ Below w.heap.size w w' := by
  have hz := Zpair
  have H := hide h
  clear h
  obtain ⟨q, HQ⟩ : ∃ q, Hid ((getB L k).getD zp = q) := ⟨_, rfl⟩
  obtain ⟨ok, HO⟩ : ∃ q, Hid ((getB L k).isSome = q) := ⟨_, rfl⟩
  rw [HQ.out, HO.out]
  obtain ⟨N, HN⟩ : ∃ N, Hid (w.heap.size = N) := ⟨_, rfl⟩
  go_enter Try.func15, Try.ntmps15
  go_wp2_with fail
  obtain ⟨w1, hw1⟩ : ∃ y, y = w.alloc (.cells #[.string ⟨#[]⟩, .string ⟨#[]⟩, .bool false] 38 (0, 0)) := ⟨_, rfl⟩
  rw [← hw1, HN.out]
  obtain ⟨B1, hb1⟩ := room_pair HN hw1
  have H1 := H.out.kept hb1
  have L1 := hide hb1
  have B1 := hide B1
  clear hw1 hb1
  have c0 := H1.d.cell (j := 0) rfl
  have hlk := H1.mp.look k hk
  rw [HQ.out, HO.out] at hlk
  refine (bMade_any H1.d).mono ?_
  rintro e w_ ⟨rfl, hw⟩
  subst w_
  clear H1
  go_wp2_with (first
    | (refine wpList_store_new rfl 38 _ _ rfl w1 _ (PC q).toArray _ rfl rfl rfl Try.size38 rfl (all_one (PC_one q)) ?_)
    | (refine wpList_load_mid rfl 38 _ rfl w1.heap.size 0 rfl (PC q) _ (Blk.new w1 38 (PC q)).range0 Try.underlying38 rfl Try.size38 ?_)
    | (refine wpList_store_blk rfl 38 _ _ rfl N (PC zp) (PC q) 38 rfl rfl (B1.out.alloc _) rfl Try.size38 (PC_one q) ?_; intro w5 hb5 hu5)
    | fail)
  refine bodyPost_ret (results_pair rfl _ _ N q ok 38 _ rfl rfl hb5 Try.underlying38 rfl Try.size38) rfl ⟨rfl, ?_⟩
  rw [HN.out]
  exact (L1.out.mono (Nat.le_of_eq HN.out.symm)).trans (((Below.refl _ _).alloc (Nat.le_of_lt B1.out.lt) _).trans (hu5.below (Nat.le_refl _) (by have := B1.out.lt; simp; omega)))
set_option maxHeartbeats 1000000 in
set_option maxRecDepth 100000 in
theorem uGet_any {w : World} {v : Value} (h : Un w v) (k : ByteArray) : Calls Try.prog 15 #[v, .string k] w fun e w' => e = .returned (.tuple #[.agg (PC zp).toArray, .bool false]) ∧ Below w.heap.size w w' := by
  have hz := Zpair
  have H := hide h
  clear h
  have hbd : ∀ W, (Instr.build 38 #[]).run Try.prog W = .ok (.agg (PC zp).toArray) W := fun W => by kernel_rfl
  obtain ⟨N, HN⟩ : ∃ N, Hid (w.heap.size = N) := ⟨_, rfl⟩
  go_enter Try.func15, Try.ntmps15
  go_wp2_with fail
  obtain ⟨w1, hw1⟩ : ∃ y, y = w.alloc (.cells #[.string ⟨#[]⟩, .string ⟨#[]⟩, .bool false] 38 (0, 0)) := ⟨_, rfl⟩
  rw [← hw1, HN.out]
  obtain ⟨B1, hb1⟩ := room_pair HN hw1
  have H1 := H.out.kept hb1
  have L1 := hide hb1
  have B1 := hide B1
  clear hw1 hb1
  refine (uMade_any H1).mono ?_
  rintro e w_ ⟨rfl, hw⟩
  subst w_
  clear H1
  go_wp2_with (first
    | (refine wpList_store_blk rfl 38 _ _ rfl N (PC zp) (PC zp) 38 rfl rfl B1.out rfl Try.size38 (PC_one zp) ?_; intro w5 hb5 hu5)
    | fail)
  refine bodyPost_ret (results_pair rfl _ _ N zp false 38 _ rfl rfl hb5 Try.underlying38 rfl Try.size38) rfl ⟨rfl, ?_⟩
  rw [HN.out]
  exact (L1.out.mono (Nat.le_of_eq HN.out.symm)).trans (hu5.below (Nat.le_refl _) (by have := B1.out.lt; omega))
set_option maxHeartbeats 1000000 in
set_option maxRecDepth 100000 in
theorem bRoom_any {w : World} {D M : Nat} {L : List Pr} (h : BAt w D M L) (k : ByteArray) (hk : k.size ≤ maxLen) : Calls Try.prog 44 #[PT D, .string k] w fun e w' => e = .returned (.bool ((getB L k).isSome || decide (L.length < 64))) ∧ Below w.heap.size w w' := by
  have hz := Zpair
  have H := hide h
  have c0 := h.d.cell (j := 0) rfl
  have hlk := h.mp.look k hk
  clear h
  obtain ⟨q, HQ⟩ : ∃ q, Hid ((getB L k).getD zp = q) := ⟨_, rfl⟩
  obtain ⟨ok, HO⟩ : ∃ q, Hid ((getB L k).isSome = q) := ⟨_, rfl⟩
  rw [HQ.out, HO.out] at hlk
  rw [HO.out]
  obtain ⟨n, HLn⟩ : ∃ n, Hid (L.length = n) := ⟨_, rfl⟩
  rw [HLn.out]
  obtain ⟨w2, hw2⟩ : ∃ y, y = w.alloc (.cells (PC q).toArray 38 (0, 0)) := ⟨_, rfl⟩
  have hb2 : Below w.heap.size w w2 := by rw [hw2]; exact (Below.refl _ _).alloc (Nat.le_refl _) _
  have H2 := H.out.kept hb2
  have c2 := H2.d.cell (j := 0) rfl
  have hl2 := H2.mp.len 3
  rw [HLn.out] at hl2
  have HB := hide hb2
  have HW2 := hide hw2
  clear hw2
  obtain ⟨b, HBb⟩ : ∃ b, Hid (decide (n < 64) = b) := ⟨_, rfl⟩
  have hb' : decide ((n : Int) < 64) = b := by rw [← HBb.out]; simp; omega
  rw [HBb.out]
  clear H2 hb2
  go_enter Try.func44, Try.ntmps44
  cases ok
  · go_wp2_with (first
      | (refine wpList_store_new rfl 38 _ _ rfl w _ (PC q).toArray _ rfl rfl rfl Try.size38 rfl (all_one (PC_one q)) ?_; rw [← HW2.out])
      | fail)
    go_ret
    exact ⟨rfl, HB.out⟩
  · go_wp2_with (first
      | (refine wpList_store_new rfl 38 _ _ rfl w _ (PC q).toArray _ rfl rfl rfl Try.size38 rfl (all_one (PC_one q)) ?_; rw [← HW2.out])
      | fail)
    go_ret
    exact ⟨rfl, HB.out⟩
end Go.Proofs.Ytfjlkncliljjnaa
