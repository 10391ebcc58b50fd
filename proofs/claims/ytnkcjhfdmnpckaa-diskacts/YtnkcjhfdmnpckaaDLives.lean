/-
  indenturelaw05.lives: what the call does.
-/
import Derived.Test.YtnkcjhfdmnpckaaDOne
import Derived.Lib.SlBytesConst
namespace Go.Proofs.Ytnkcjhfdmnpckaa
open Go.RowKit
open Pd (DM)
def b40 : List UInt8 := [48, 49, 50, 51, 52, 53, 54, 55, 56, 57, 48, 49, 50, 51, 52, 53, 54, 55, 56, 57, 48, 49, 50, 51, 52, 53, 54, 55, 56, 57, 48, 49, 50, 51, 52, 53, 54, 55, 56, 57]
def d1 : DM := (Pd.write (Pd.new 2) 0 b40).2
def d2 : DM := (Pd.crashed d1 [1] 0).2
def d3 : DM := (Pd.start d2).2
theorem f1 : (Pd.write (Pd.new 2) 0 b40).1 = 0 := by decide +kernel
theorem f2 : (Pd.crashed d1 [1] 0).1 = true := by decide +kernel
theorem f3 : (Pd.start d2).1 = true := by decide +kernel
theorem f4 : Pd.read d3 32 8 = ([50, 51, 52, 53, 54, 55, 56, 57], 0) := by decide +kernel
theorem f5 : Pd.read d3 0 1 = ([0], 0) := by decide +kernel
set_option maxHeartbeats 1000000 in
set_option maxRecDepth 100000 in
theorem lives_any (w : World) : Calls Try.prog 10 #[] w fun e w' => e = .returned (.bool true) ∧ Below w.heap.size w w' := by
  have kc := fun (w : World) (C : Array Value) (n c : Nat) => Lib.run_convert_bytes_const (P := Try.prog) w 29 5 C n c Try.underlying29 Try.underlying5
  go_enter Try.func10, Try.ntmps10
  go_wp2_with fail
  refine (One.new w 2 (by decide) (by decide)).mono ?_
  rintro e w1 ⟨D, rfl, o1⟩
  have O1 : Hid (One w w1 D 2 (Pd.new 2)) := o1
  clear o1
  have HW : Hid _ := O1.out.writeN 0 (by decide) b40 (by decide) (40, 41)
  go_wp2_with fail
  refine Calls.mono HW.out ?_
  rintro e w2 ⟨rfl, o2⟩
  have O2 : Hid (One w w2 D 2 d1) := o2
  rw [f1]
  clear o2 HW O1
  have HC : Hid _ := O2.out.crashN [1] (by decide) 0 (by decide) (0, 0)
  go_wp2_with fail
  refine Calls.mono HC.out ?_
  rintro e w3 ⟨rfl, o3⟩
  have O3 : Hid (One w w3 D 2 d2) := o3
  rw [f2]
  clear o3 HC O2
  go_wp2_with fail
  refine (O3.out.start).mono ?_
  rintro e w4 ⟨rfl, o4⟩
  have O4 : Hid (One w w4 D 2 d3) := o4
  rw [f3]
  clear o4 O3
  go_wp2_with fail
  refine (O4.out.read 32 8 (by decide)).mono ?_
  rintro e w5 ⟨v5, rfl, r5, o5, b5⟩
  rw [f4] at r5 ⊢
  have O5 : Hid (One w w5 D 2 d3) := o5
  have R5 : Hid (Rd w5 v5 [50, 51, 52, 53, 54, 55, 56, 57]) := r5
  clear r5 o5 b5 O4
  go_wp2_with fail
  refine (O5.out.read 0 1 (by decide)).mono ?_
  rintro e w6 ⟨v6, rfl, r6, o6, b6⟩
  rw [f5] at r6 ⊢
  have O6 : Hid (One w w6 D 2 d3) := o6
  have k5 := (R5.out.kept b6).conv (P := Try.prog) 29 9 Try.underlying29 Try.underlying5 Try.underlying9
  have k6 := r6.conv (P := Try.prog) 29 9 Try.underlying29 Try.underlying5 Try.underlying9
  clear r6 o6 b6 O5 R5
  go_wp2
  go_ret
  exact ⟨rfl, O6.out.below⟩
end Go.Proofs.Ytnkcjhfdmnpckaa
