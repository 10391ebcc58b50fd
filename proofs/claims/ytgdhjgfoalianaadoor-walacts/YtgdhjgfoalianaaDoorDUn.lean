/-
  A Disk that no call made.
-/
import Derived.Test.YtgdhjgfoalianaaDoorGDc
namespace Go.Proofs.YtgdhjgfoalianaaDoor
open Go.RowKit
/-- p is no Disk that a call made, in whatever world behind w. -/
def Unmade (w : World) (p : Value) : Prop := ∀ w', Below w.heap.size w w' → Calls Tryd.prog 44 #[p] w' fun e w'' => e = .returned (.bool false) ∧ w'' = w'
theorem Unmade.kept {w w' : World} {p : Value} (h : Unmade w p) (hb : Below w.heap.size w w') : Unmade w' p := fun w'' hb' => h w'' (hb.trans (hb'.mono hb.size))
set_option maxRecDepth 100000 in
theorem isMade_nil (w : World) : Calls Tryd.prog 44 #[.pointer none] w fun e w' => e = .returned (.bool false) ∧ w' = w := by
  go_enter Tryd.func44, Tryd.ntmps44
  go_wp2
  go_ret
  exact ⟨rfl, rfl⟩
def Z7 : List Value := [.bool false, .slice none 0 0, .map none, .slice none 0 0, .int .i64 0, .slice none 0 0, .int .i64 0]
set_option maxRecDepth 100000 in
theorem isMade_zero {w : World} {D : Nat} (hB : Blk w D 67 Z7) : Calls Tryd.prog 44 #[.pointer (some ⟨D, 0, none⟩)] w fun e w' => e = .returned (.bool false) ∧ w' = w := by
  have c1 := hB.cell (j := 1) rfl
  clear hB
  go_enter Tryd.func44, Tryd.ntmps44
  go_wp2
  go_ret
  exact ⟨rfl, rfl⟩
theorem unmade_nil (w : World) : Unmade w (.pointer none) := fun w' _ => isMade_nil w'
theorem unmade_zero {w : World} {b : Nat} (h : Blk w b 67 Z7) : Unmade w (.pointer (some ⟨b, 0, none⟩)) := fun _ hb => isMade_zero (h.kept hb)
section
variable {w : World} {p : Value}
set_option maxRecDepth 100000 in
theorem ready_un (hU : Unmade w p) : Calls Tryd.prog 46 #[p] w fun e w' => e = .returned (.int .i64 1) ∧ w' = w := by
  have HU : Hid (Unmade w p) := hU
  clear hU
  go_enter Tryd.func46, Tryd.ntmps46
  go_wp2_with fail
  refine (HU.out w (Below.refl _ _)).mono ?_
  rintro e w1 ⟨rfl, hw⟩; subst hw
  go_wp2
  go_ret
  exact ⟨rfl, rfl⟩
set_option maxRecDepth 100000 in
theorem on_un (hU : Unmade w p) : Calls Tryd.prog 33 #[p] w fun e w' => e = .returned (.bool false) ∧ w' = w := by
  have HU : Hid (Unmade w p) := hU
  clear hU
  go_enter Tryd.func33, Tryd.ntmps33
  go_wp2_with fail
  refine (HU.out w (Below.refl _ _)).mono ?_
  rintro e w1 ⟨rfl, hw⟩; subst hw
  go_wp2
  go_ret
  exact ⟨rfl, rfl⟩
set_option maxRecDepth 100000 in
theorem size_un (hU : Unmade w p) : Calls Tryd.prog 53 #[p] w fun e w' => e = .returned (.int .i64 0) ∧ w' = w := by
  have HU : Hid (Unmade w p) := hU
  clear hU
  go_enter Tryd.func53, Tryd.ntmps53
  go_wp2_with fail
  refine (HU.out w (Below.refl _ _)).mono ?_
  rintro e w1 ⟨rfl, hw⟩; subst hw
  go_wp2
  go_ret
  exact ⟨rfl, rfl⟩
set_option maxRecDepth 100000 in
theorem start_un (hU : Unmade w p) : Calls Tryd.prog 20 #[p] w fun e w' => e = .returned (.bool false) ∧ w' = w := by
  have HU : Hid (Unmade w p) := hU
  clear hU
  go_enter Tryd.func20, Tryd.ntmps20
  go_wp2_with fail
  refine (HU.out w (Below.refl _ _)).mono ?_
  rintro e w1 ⟨rfl, hw⟩; subst hw
  go_wp2
  go_ret
  exact ⟨rfl, rfl⟩
set_option maxRecDepth 100000 in
theorem arm_un (hU : Unmade w p) (a b c : Value) : Calls Tryd.prog 22 #[p, a, b, c] w fun e w' => e = .returned (.tuple #[]) ∧ w' = w := by
  have HU : Hid (Unmade w p) := hU
  clear hU
  go_enter Tryd.func22, Tryd.ntmps22
  go_wp2_with fail
  refine (HU.out w (Below.refl _ _)).mono ?_
  rintro e w1 ⟨rfl, hw⟩; subst hw
  go_wp2
  refine bodyPost_ret (results_none rfl _ _ _) rfl ?_
  exact ⟨rfl, rfl⟩
set_option maxRecDepth 100000 in
theorem crash_un (hU : Unmade w p) (a b : Value) : Calls Tryd.prog 18 #[p, a, b] w fun e w' => e = .returned (.bool false) ∧ w' = w := by
  have HU : Hid (Unmade w p) := hU
  clear hU
  go_enter Tryd.func18, Tryd.ntmps18
  go_wp2_with fail
  refine (on_un HU.out).mono ?_
  rintro e w1 ⟨rfl, hw⟩; subst hw
  go_wp2
  go_ret
  exact ⟨rfl, rfl⟩
set_option maxRecDepth 100000 in
theorem sync_un (hU : Unmade w p) : Calls Tryd.prog 39 #[p] w fun e w' => e = .returned (.int .i64 1) ∧ w' = w := by
  have HU : Hid (Unmade w p) := hU
  clear hU
  go_enter Tryd.func39, Tryd.ntmps39
  go_wp2_with fail
  refine (ready_un HU.out).mono ?_
  rintro e w1 ⟨rfl, hw⟩; subst hw
  go_wp2
  go_ret
  exact ⟨rfl, rfl⟩
set_option maxRecDepth 100000 in
theorem write_un (hU : Unmade w p) (a b : Value) : Calls Tryd.prog 24 #[p, a, b] w fun e w' => e = .returned (.int .i64 1) ∧ w' = w := by
  have HU : Hid (Unmade w p) := hU
  clear hU
  go_enter Tryd.func24, Tryd.ntmps24
  go_wp2_with fail
  refine (ready_un HU.out).mono ?_
  rintro e w1 ⟨rfl, hw⟩; subst hw
  go_wp2
  go_ret
  exact ⟨rfl, rfl⟩
set_option maxRecDepth 100000 in
theorem read_un (hU : Unmade w p) (a b : Value) : Calls Tryd.prog 34 #[p, a, b] w fun e w' => e = .returned (.tuple #[.slice none 0 0, .int .i64 1]) ∧ w' = w := by
  have HU : Hid (Unmade w p) := hU
  clear hU
  go_enter Tryd.func34, Tryd.ntmps34
  go_wp2_with fail
  refine (ready_un HU.out).mono ?_
  rintro e w1 ⟨rfl, hw⟩; subst hw
  go_wp2
  go_ret2
  exact ⟨rfl, rfl⟩
end
end Go.Proofs.YtgdhjgfoalianaaDoor
