/-
  indenturelaw09.MountainNumbers: what the call does.
-/
import Derived.Test.YtinlpaabmojmkaaMtB
namespace Go.Proofs.Ytinlpaabmojmkaa
open Go.RowKit
set_option maxHeartbeats 2000000 in
set_option maxRecDepth 100000 in
theorem mountainNumbers_any (n : Int) (hn : n ≤ 9223372036854775807) (w : World) :
    Calls Try.prog 3 #[.int .i64 n] w fun e w' => e = .returned (.bool true) ∧ Below w.heap.size w w' := by
  have C1 := hide (fun w => mbits_any n hn w)
  have C2 := hide (fun w => nbits_any n hn w)
  have C3 := hide (fun w => split_any n hn w)
  have C4 := hide (fun w => nsplit_any n hn w)
  generalize spl n.toNat = s at *
  generalize bitsFrom 63 n.toNat = l at *
  go_enter Try.func3, Try.ntmps3
  go_wp2_with fail
  refine (C1.out w).mono ?_
  rintro e w1 ⟨v1, rfl, ho1, hb1⟩
  have HO1 := hide ho1
  have HB1 := hide hb1
  clear ho1 hb1
  go_wp2_with fail
  refine (C2.out w1).mono ?_
  rintro e w2 ⟨v2, rfl, ho2, hb2⟩
  have HB2 : Hid (Below w.heap.size w w2) := HB1.out.trans (hb2.mono HB1.out.size)
  have HR1 := hide (HO1.out.rd.kept hb2)
  have HR2 := hide ho2.rd
  clear ho2 hb2
  go_wp2_with fail
  refine (ints_any HR1.out HR2.out).mono ?_
  rintro e w3 ⟨rfl, hb3⟩
  have HB3 : Hid (Below w.heap.size w w3) := HB2.out.trans (hb3.mono HB2.out.size)
  clear hb3
  rw [decide_eq_true rfl]
  by_cases hc : 2305843009213693952 < n
  · go_wp2_with fail
    refine (mlives_any w3).mono ?_
    rintro e w4 ⟨rfl, hb4⟩
    have HB4 : Hid (Below w.heap.size w w4) := HB3.out.trans (hb4.mono HB3.out.size)
    clear hb4
    go_wp2
    go_ret
    exact ⟨rfl, HB4.out⟩
  · go_wp2_with fail
    refine (C3.out w3).mono ?_
    rintro e w3a ⟨rfl, rfl⟩
    go_wp2_with fail
    refine (C4.out _).mono ?_
    rintro e w3b ⟨rfl, rfl⟩
    go_wp2_with fail
    refine (mlives_any _).mono ?_
    rintro e w4 ⟨rfl, hb4⟩
    have HB4 : Hid (Below w.heap.size w w4) := HB3.out.trans (hb4.mono HB3.out.size)
    clear hb4
    go_wp2
    go_ret
    exact ⟨rfl, HB4.out⟩
end Go.Proofs.Ytinlpaabmojmkaa
