/-
  indenturelaw03.ShaSums: the walk.
-/
import Derived.Test.YtlfgbgcjajbckaaDoorRefSum
namespace Go.Proofs.YtlfgbgcjajbckaaDoor
open Go.RowKit
set_option maxHeartbeats 1000000 in
set_option maxRecDepth 100000 in
theorem shaSums_any (v : Value) (l : List UInt8) (w : World) (hT : Tabs w) (hr : Rd w v l) :
    Calls Tryd.prog 3 #[v] w fun e w' => e = .returned (.bool true) ∧ Below w.heap.size w w' := by
  have HT : Hid (Tabs w) := hT
  have HR : Hid (Rd w v l) := hr
  obtain ⟨a, cap, rfl, -, -⟩ := hr
  clear hT
  by_cases hbig : 1500 < l.length
  · have q1 : (1500 : Int) < (l.length : Int) := by omega
    go_enter Tryd.func3, Tryd.ntmps3
    go_wp2_with fail
    refine (lives_any w HT.out).mono ?_
    rintro e w1 ⟨rfl, hb1⟩
    go_wp2
    go_ret
    exact ⟨rfl, hb1⟩
  · have q1 : ¬ (1500 : Int) < (l.length : Int) := by omega
    obtain ⟨X, HX⟩ : ∃ X, Hid (sha l = X) := ⟨_, rfl⟩
    have hX32 : X.length = 32 := by rw [← HX.out]; exact sha_length _
    have e2 := eq25 X X hX32 hX32
    simp only [beq_self_eq_true] at e2
    go_enter Tryd.func3, Tryd.ntmps3
    go_wp2_with fail
    refine (sum_any _ l (by omega) w HT.out HR.out).mono ?_
    rintro e w1 ⟨rfl, hb1⟩
    have L1 : Hid (Below w.heap.size w w1) := hb1
    clear hb1
    rw [HX.out]
    go_wp2_with fail
    refine (refSum_any _ l (by omega) w1 (HR.out.kept L1.out)).mono ?_
    rintro e w2 ⟨rfl, hb2⟩
    have L2 : Hid (Below w.heap.size w w2) := L1.out.trans (hb2.mono L1.out.size)
    clear hb2 L1
    rw [HX.out]
    go_wp2_with fail
    refine (lives_any w2 (HT.out.gr L2.out)).mono ?_
    rintro e w3 ⟨rfl, hb3⟩
    go_wp2
    go_ret
    exact ⟨rfl, L2.out.trans (hb3.mono L2.out.size)⟩
end Go.Proofs.YtlfgbgcjajbckaaDoor
