/-
  A Store in memory; New, isMade, Last, Floor, asked: what the calls do.
-/
import Derived.Test.YtgaoionnfkbhaaaStM
namespace Go.Proofs.Ytgaoionnfkbhaaa
open Go.RowKit
/-- The cells of a Store. -/
def SB (M : Nat) (vk : Value) (last floor : Int) : List Value := [.map (some M), vk, .int .i64 last, .int .i64 floor]
/-- Block D is a Store: its map is block M, its keys lie in the row of vk. -/
structure StAt (w : World) (D M : Nat) (vk : Value) (ks : List ByteArray) (s : SP) : Prop where
  d : Blk w D 55 (SB M vk s.last s.floor)
  mp : MapC w M s.ch ks.length
  kk : OwnG KE w 0 9 vk ks
  inv : Inv s ks
  sz : ∀ k ∈ ks, k.size ≤ 64
/-- The blocks that a Store's calls may change. -/
def Mine (D M : Nat) (vk : Value) (b : Nat) : Prop := b = D ∨ b = M ∨ vk.ownBlock = some b
theorem StAt.ne {w : World} {D M : Nat} {vk : Value} {ks : List ByteArray} {s : SP} (h : StAt w D M vk ks s) : D ≠ M := fun e => by
  obtain ⟨es, clock, hb⟩ := h.mp.block
  have := h.d
  rw [e] at this
  unfold Blk at this
  rw [hb] at this
  cases this
theorem StAt.kd {w : World} {D M : Nat} {vk : Value} {ks : List ByteArray} {s : SP} (h : StAt w D M vk ks s) {b : Nat} (hb : vk.ownBlock = some b) : b ≠ D ∧ b ≠ M := by
  obtain ⟨_, _, cur, hc⟩ := h.kk.block hb
  refine ⟨fun e => ?_, fun e => ?_⟩
  · have := h.d
    rw [← e] at this
    unfold Blk at this
    rw [hc] at this
    cases this
  · obtain ⟨es, clock, hb'⟩ := h.mp.block
    rw [← e, hc] at hb'
    cases hb'
theorem StAt.noch {w : World} {D M : Nat} {vk : Value} {ks : List ByteArray} {s : SP} (h : StAt w D M vk ks s) : NoCh w (Mine D M vk) := by
  rintro b cur hb (rfl | rfl | hv)
  · have := h.d
    unfold Blk at this
    rw [hb] at this
    cases this
  · obtain ⟨es, clock, hb'⟩ := h.mp.block
    rw [hb] at hb'
    cases hb'
  · obtain ⟨_, _, cur', hc⟩ := h.kk.block hv
    rw [hb] at hc
    cases hc
theorem StAt.lt {w : World} {D M : Nat} {vk : Value} {ks : List ByteArray} {s : SP} (h : StAt w D M vk ks s) {b : Nat} (hb : Mine D M vk b) : b < w.heap.size := by
  rcases hb with rfl | rfl | hv
  · exact h.d.lt
  · exact h.mp.lt
  · exact (h.kk.block hv).2.1
/-- What changes no block of it, and no chain, leaves it. -/
theorem StAt.chg {w w' : World} {D M : Nat} {vk : Value} {ks : List ByteArray} {s : SP} (h : StAt w D M vk ks s) {F : Nat → Prop} (hc : Chg F w w') (h1 : ∀ b, Mine D M vk b → ¬ F b) (hn : NoCh w F) : StAt w' D M vk ks s :=
  ⟨h.d.chg hc (h1 _ (.inl rfl)), h.mp.chg hc (h1 _ (.inr (.inl rfl))) hn, h.kk.chg hc (fun b hb => h1 b (.inr (.inr hb))), h.inv, h.sz⟩
theorem StAt.kept {w w' : World} {D M : Nat} {vk : Value} {ks : List ByteArray} {s : SP} (h : StAt w D M vk ks s) (hb : Below w.heap.size w w') : StAt w' D M vk ks s :=
  h.chg (F := fun _ => False) (Chg.of_below hb) (fun _ _ => id) (fun _ _ _ => id)
theorem gd_len : ∀ {L : List Ver} {last : Int}, gd last L = true → ∀ {m : Int}, (∀ v ∈ L, v.1 ≤ m) → last ≤ m → (L.length : Int) ≤ m - last
  | [], last, _, m, _, h => by simp; omega
  | v :: L, last, hg, m, hm, _ => by
    have hr := (gd_rise hg).2 v (by simp)
    rw [gd, Bool.and_eq_true] at hg
    have := gd_len hg.2 (m := m) (fun u hu => hm u (by simp [hu])) (hm v (by simp))
    rw [List.length_cons]
    push_cast
    omega
theorem Inv.len {s : SP} {ks : List ByteArray} (h : Inv s ks) (k : ByteArray) : ((s.ch k).length : Int) ≤ s.last := by
  have := gd_len (h.good k) (m := s.last) (h.le k) (by have := h.fl; have := h.fle; omega)
  omega
section
variable {w : World} {D M : Nat} {vk : Value} {last floor : Int}
set_option maxRecDepth 100000 in
theorem sMade_any (hB : Blk w D 55 (SB M vk last floor)) : Calls Try.prog 33 #[.pointer (some ⟨D, 0, none⟩)] w fun e w' => e = .returned (.bool true) ∧ w' = w := by
  have c0 := hB.cell (j := 0) rfl
  clear hB
  have hne : ∀ W : World, (binOp .neq 53 (.map (some M)) (.map none)).run Try.prog W = .ok (.bool true) W := fun W => by kernel_rfl
  go_enter Try.func33, Try.ntmps33
  go_wp2
  go_ret
  exact ⟨rfl, rfl⟩
set_option maxRecDepth 100000 in
theorem sLast_any (hB : Blk w D 55 (SB M vk last floor)) : Calls Try.prog 13 #[.pointer (some ⟨D, 0, none⟩)] w fun e w' => e = .returned (.int .i64 last) ∧ w' = w := by
  have c2 := hB.cell (j := 2) rfl
  have HB := hide hB
  clear hB
  go_enter Try.func13, Try.ntmps13
  go_wp2_with fail
  refine (sMade_any HB.out).mono ?_
  rintro e w1 ⟨rfl, hw⟩; subst hw
  go_wp2
  go_ret
  exact ⟨rfl, rfl⟩
set_option maxRecDepth 100000 in
theorem sFloor_any (hB : Blk w D 55 (SB M vk last floor)) : Calls Try.prog 14 #[.pointer (some ⟨D, 0, none⟩)] w fun e w' => e = .returned (.int .i64 floor) ∧ w' = w := by
  have c2 := hB.cell (j := 3) rfl
  have HB := hide hB
  clear hB
  go_enter Try.func14, Try.ntmps14
  go_wp2_with fail
  refine (sMade_any HB.out).mono ?_
  rintro e w1 ⟨rfl, hw⟩; subst hw
  go_wp2
  go_ret
  exact ⟨rfl, rfl⟩
set_option maxRecDepth 100000 in
theorem sAsked_any (ch : ByteArray → List Ver) (hB : Blk w D 55 (SB M vk last floor)) (n : Int) : Calls Try.prog 38 #[.pointer (some ⟨D, 0, none⟩), .int .i64 n] w fun e w' => e = .returned (.int .i64 (mayP ⟨ch, last, floor⟩ n)) ∧ w' = w := by
  have c2 := hB.cell (j := 2) rfl
  have c3 := hB.cell (j := 3) rfl
  have HB := hide hB
  clear hB
  obtain ⟨q, HQ⟩ : ∃ q, Hid (mayP ⟨ch, last, floor⟩ n = q) := ⟨_, rfl⟩
  rw [HQ.out]
  go_enter Try.func38, Try.ntmps38
  go_wp2_with fail
  refine (sMade_any HB.out).mono ?_
  rintro e w1 ⟨rfl, hw⟩; subst hw
  by_cases h1 : n < floor
  · have q1 : decide (n < floor) = true := by simp [h1]
    go_wp2
    go_ret
    refine ⟨?_, rfl⟩
    rw [← HQ.out, mayP, if_pos h1]
    rfl
  · have q1 : decide (n < floor) = false := by simp; omega
    by_cases h2 : last < n
    · have q2 : decide (last < n) = true := by simp [h2]
      go_wp2
      go_ret
      refine ⟨?_, rfl⟩
      rw [← HQ.out, mayP, if_neg (by simpa using h1), if_pos h2]
      rfl
    · have q2 : decide (last < n) = false := by simp; omega
      go_wp2
      go_ret
      refine ⟨?_, rfl⟩
      rw [← HQ.out, mayP, if_neg (by simpa using h1), if_neg (by simpa using h2)]
      rfl
end
set_option maxRecDepth 100000 in
theorem sNew_any (w : World) : Calls Try.prog 11 #[] w fun e w' => ∃ D M, e = .returned (.pointer (some ⟨D, 0, none⟩)) ∧ StAt w' D M (.slice none 0 0) [] sp0 ∧ w.heap.size ≤ D ∧ w.heap.size ≤ M ∧ Below w.heap.size w w' := by
  have hmm := @run_makeMap Try.prog
  have hmp := MapC_made w
  have HM := hide hmp
  clear hmp
  have hb : Below w.heap.size w (w.alloc (.map #[] 0)) := (Below.refl _ _).alloc (Nat.le_refl _) _
  have HB := hide hb
  clear hb
  go_enter Try.func11, Try.ntmps11
  go_wp2
  go_ret
  refine ⟨_, w.heap.size, rfl, ⟨by have := Blk.new (w.alloc (.map #[] 0)) 55 (SB w.heap.size (.slice none 0 0) 0 0); rw [World.size_alloc] at this; exact this, ?_, ownG_nil _ _ _, inv0, by simp⟩, by simp, Nat.le_refl _, ?_⟩
  · exact HM.out.kept ((Below.refl _ _).alloc (Nat.le_refl _) _)
  · exact HB.out.alloc HB.out.size _
end Go.Proofs.Ytgaoionnfkbhaaa
