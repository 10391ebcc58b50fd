/-
  A Disk that no call made.
-/
import Derived.Test.YtnkcjhfdmnpckaaDLives
namespace Go.Proofs.Ytnkcjhfdmnpckaa
open Go.RowKit
/-- p is no Disk that a call made, in whatever world behind w. -/
def Unmade (w : World) (p : Value) : Prop := ∀ w', Below w.heap.size w w' → Calls Try.prog 37 #[p] w' fun e w'' => e = .returned (.bool false) ∧ w'' = w'
theorem Unmade.kept {w w' : World} {p : Value} (h : Unmade w p) (hb : Below w.heap.size w w') : Unmade w' p := fun w'' hb' => h w'' (hb.trans (hb'.mono hb.size))
set_option maxRecDepth 100000 in
theorem isMade_nil (w : World) : Calls Try.prog 37 #[.pointer none] w fun e w' => e = .returned (.bool false) ∧ w' = w := by
  go_enter Try.func37, Try.ntmps37
  go_wp2
  go_ret
  exact ⟨rfl, rfl⟩
def Z7 : List Value := [.bool false, .slice none 0 0, .map none, .slice none 0 0, .int .i64 0, .slice none 0 0, .int .i64 0]
set_option maxRecDepth 100000 in
theorem isMade_zero {w : World} {D : Nat} (hB : Blk w D 56 Z7) : Calls Try.prog 37 #[.pointer (some ⟨D, 0, none⟩)] w fun e w' => e = .returned (.bool false) ∧ w' = w := by
  have c1 := hB.cell (j := 1) rfl
  clear hB
  go_enter Try.func37, Try.ntmps37
  go_wp2
  go_ret
  exact ⟨rfl, rfl⟩
theorem unmade_nil (w : World) : Unmade w (.pointer none) := fun w' _ => isMade_nil w'
theorem unmade_zero {w : World} {b : Nat} (h : Blk w b 56 Z7) : Unmade w (.pointer (some ⟨b, 0, none⟩)) := fun _ hb => isMade_zero (h.kept hb)
section
variable {w : World} {p : Value}
set_option maxRecDepth 100000 in
theorem ready_un (hU : Unmade w p) : Calls Try.prog 32 #[p] w fun e w' => e = .returned (.int .i64 1) ∧ w' = w := by
  have HU : Hid (Unmade w p) := hU
  clear hU
  go_enter Try.func32, Try.ntmps32
  go_wp2_with fail
  refine (HU.out w (Below.refl _ _)).mono ?_
  rintro e w1 ⟨rfl, hw⟩; subst hw
  go_wp2
  go_ret
  exact ⟨rfl, rfl⟩
set_option maxRecDepth 100000 in
theorem on_un (hU : Unmade w p) : Calls Try.prog 25 #[p] w fun e w' => e = .returned (.bool false) ∧ w' = w := by
  have HU : Hid (Unmade w p) := hU
  clear hU
  go_enter Try.func25, Try.ntmps25
  go_wp2_with fail
  refine (HU.out w (Below.refl _ _)).mono ?_
  rintro e w1 ⟨rfl, hw⟩; subst hw
  go_wp2
  go_ret
  exact ⟨rfl, rfl⟩
set_option maxRecDepth 100000 in
theorem size_un (hU : Unmade w p) : Calls Try.prog 19 #[p] w fun e w' => e = .returned (.int .i64 0) ∧ w' = w := by
  have HU : Hid (Unmade w p) := hU
  clear hU
  go_enter Try.func19, Try.ntmps19
  go_wp2_with fail
  refine (HU.out w (Below.refl _ _)).mono ?_
  rintro e w1 ⟨rfl, hw⟩; subst hw
  go_wp2
  go_ret
  exact ⟨rfl, rfl⟩
set_option maxRecDepth 100000 in
theorem dirty_un (hU : Unmade w p) : Calls Try.prog 17 #[p] w fun e w' => e = .returned (.slice none 0 0) ∧ w' = w := by
  have HU : Hid (Unmade w p) := hU
  clear hU
  go_enter Try.func17, Try.ntmps17
  go_wp2_with fail
  refine (HU.out w (Below.refl _ _)).mono ?_
  rintro e w1 ⟨rfl, hw⟩; subst hw
  go_wp2
  go_ret
  exact ⟨rfl, rfl⟩
set_option maxRecDepth 100000 in
theorem copy_un (hU : Unmade w p) : Calls Try.prog 20 #[p] w fun e w' => e = .returned (.pointer none) ∧ w' = w := by
  have HU : Hid (Unmade w p) := hU
  clear hU
  go_enter Try.func20, Try.ntmps20
  go_wp2_with fail
  refine (HU.out w (Below.refl _ _)).mono ?_
  rintro e w1 ⟨rfl, hw⟩; subst hw
  go_wp2
  go_ret
  exact ⟨rfl, rfl⟩
set_option maxRecDepth 100000 in
theorem start_un (hU : Unmade w p) : Calls Try.prog 22 #[p] w fun e w' => e = .returned (.bool false) ∧ w' = w := by
  have HU : Hid (Unmade w p) := hU
  clear hU
  go_enter Try.func22, Try.ntmps22
  go_wp2_with fail
  refine (HU.out w (Below.refl _ _)).mono ?_
  rintro e w1 ⟨rfl, hw⟩; subst hw
  go_wp2
  go_ret
  exact ⟨rfl, rfl⟩
set_option maxRecDepth 100000 in
theorem arm_un (hU : Unmade w p) (a b c : Value) : Calls Try.prog 24 #[p, a, b, c] w fun e w' => e = .returned (.tuple #[]) ∧ w' = w := by
  have HU : Hid (Unmade w p) := hU
  clear hU
  go_enter Try.func24, Try.ntmps24
  go_wp2_with fail
  refine (HU.out w (Below.refl _ _)).mono ?_
  rintro e w1 ⟨rfl, hw⟩; subst hw
  go_wp2
  refine bodyPost_ret (results_none rfl _ _ _) rfl ?_
  exact ⟨rfl, rfl⟩
set_option maxRecDepth 100000 in
theorem crash_un (hU : Unmade w p) (a b : Value) : Calls Try.prog 21 #[p, a, b] w fun e w' => e = .returned (.bool false) ∧ w' = w := by
  have HU : Hid (Unmade w p) := hU
  clear hU
  go_enter Try.func21, Try.ntmps21
  go_wp2_with fail
  refine (on_un HU.out).mono ?_
  rintro e w1 ⟨rfl, hw⟩; subst hw
  go_wp2
  go_ret
  exact ⟨rfl, rfl⟩
set_option maxRecDepth 100000 in
theorem sync_un (hU : Unmade w p) : Calls Try.prog 16 #[p] w fun e w' => e = .returned (.int .i64 1) ∧ w' = w := by
  have HU : Hid (Unmade w p) := hU
  clear hU
  go_enter Try.func16, Try.ntmps16
  go_wp2_with fail
  refine (ready_un HU.out).mono ?_
  rintro e w1 ⟨rfl, hw⟩; subst hw
  go_wp2
  go_ret
  exact ⟨rfl, rfl⟩
set_option maxRecDepth 100000 in
theorem write_un (hU : Unmade w p) (a b : Value) : Calls Try.prog 15 #[p, a, b] w fun e w' => e = .returned (.int .i64 1) ∧ w' = w := by
  have HU : Hid (Unmade w p) := hU
  clear hU
  go_enter Try.func15, Try.ntmps15
  go_wp2_with fail
  refine (ready_un HU.out).mono ?_
  rintro e w1 ⟨rfl, hw⟩; subst hw
  go_wp2
  go_ret
  exact ⟨rfl, rfl⟩
set_option maxRecDepth 100000 in
theorem read_un (hU : Unmade w p) (a b : Value) : Calls Try.prog 18 #[p, a, b] w fun e w' => e = .returned (.tuple #[.slice none 0 0, .int .i64 1]) ∧ w' = w := by
  have HU : Hid (Unmade w p) := hU
  clear hU
  go_enter Try.func18, Try.ntmps18
  go_wp2_with fail
  refine (ready_un HU.out).mono ?_
  rintro e w1 ⟨rfl, hw⟩; subst hw
  go_wp2
  go_ret2
  exact ⟨rfl, rfl⟩
end
end Go.Proofs.Ytnkcjhfdmnpckaa
