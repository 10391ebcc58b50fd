/-
  indenturelaw06.WalNone: the walk: the call returns true and makes new memory alone.
-/
import Derived.Test.YtgdhjgfoalianaaDoorGWb
import Derived.Test.YtgdhjgfoalianaaDoorDUn
namespace Go.Proofs.YtgdhjgfoalianaaDoor
open Go.RowKit
theorem Tryd.size29 : (Tryd.prog.info? 29).map (·.size) = some 1 := by kernel_rfl
theorem index_ptr {P : Program} {t e u : TypeId} {n : Nat} (hu : P.underlying t = some (.array n e)) (he : P.underlying e = some (.pointer u)) (hsz : (P.info? e).map (·.size) = some 1)
    (cs : Array Value) (i : Nat) (v : Value) (hi : i < n) (hv : cs.toList[i]? = some v) (W : World) : (Instr.index t (.agg cs) (.int .i64 (i : Int))).run P W = .ok v W := by
  rw [Array.getElem?_toList] at hv
  cases hq : P.info? e with
  | none => simp [hq] at hsz
  | some j =>
    have hj : j.size = 1 := by simpa [hq] using hsz
    simp [Instr.index, asIntOf, run_underlying hu, run_underlying he, part, isAgg, sizeOf, typeInfo, hq, hj, hv]
    omega
/-- p is no Log that a call made. -/
def NoLog (w : World) (p : Value) : Prop := ∀ w', Below w.heap.size w w' → Calls Tryd.prog 36 #[p] w' fun e w'' => e = .returned (.bool false) ∧ w'' = w'
theorem NoLog.kept {w w' : World} {p : Value} (h : NoLog w p) (hb : Below w.heap.size w w') : NoLog w' p := fun w'' hb' => h w'' (hb.trans (hb'.mono hb.size))
set_option maxRecDepth 100000 in
theorem noLog_nil (w : World) : NoLog w (.pointer none) := fun w' _ => by
  go_enter Tryd.func36, Tryd.ntmps36
  go_wp2
  go_ret
  exact ⟨rfl, rfl⟩
def Z4 : List Value := [.pointer none, .int .i64 0, .int .i64 0, .int .i64 0]
set_option maxRecDepth 100000 in
theorem noLog_zero {w : World} {b : Nat} (h : Blk w b 61 Z4) : NoLog w (.pointer (some ⟨b, 0, none⟩)) := fun w' hb => by
  have c1 := (h.kept hb).cell (j := 0) rfl
  clear h hb
  go_enter Tryd.func36, Tryd.ntmps36
  go_wp2
  go_ret
  exact ⟨rfl, rfl⟩
section
variable {w : World} {p : Value}
set_option maxRecDepth 100000 in
theorem append_no (h : NoLog w p) (v : Value) : Calls Tryd.prog 14 #[p, v] w fun e w' => e = .returned (.int .i64 1) ∧ w' = w := by
  have H := hide h
  clear h
  go_enter Tryd.func14, Tryd.ntmps14
  go_wp2_with fail
  refine (H.out w (Below.refl _ _)).mono ?_
  rintro e w1 ⟨rfl, hw⟩; subst w1
  go_wp2_with fail
  go_ret
  exact ⟨rfl, rfl⟩
set_option maxRecDepth 100000 in
theorem sync_no (h : NoLog w p) : Calls Tryd.prog 16 #[p] w fun e w' => e = .returned (.int .i64 1) ∧ w' = w := by
  have H := hide h
  clear h
  go_enter Tryd.func16, Tryd.ntmps16
  go_wp2_with fail
  refine (H.out w (Below.refl _ _)).mono ?_
  rintro e w1 ⟨rfl, hw⟩; subst w1
  go_wp2_with fail
  go_ret
  exact ⟨rfl, rfl⟩
set_option maxRecDepth 100000 in
theorem end_no (h : NoLog w p) : Calls Tryd.prog 26 #[p] w fun e w' => e = .returned (.int .i64 0) ∧ w' = w := by
  have H := hide h
  clear h
  go_enter Tryd.func26, Tryd.ntmps26
  go_wp2_with fail
  refine (H.out w (Below.refl _ _)).mono ?_
  rintro e w1 ⟨rfl, hw⟩; subst w1
  go_wp2_with fail
  go_ret
  exact ⟨rfl, rfl⟩
set_option maxRecDepth 100000 in
theorem count_no (h : NoLog w p) : Calls Tryd.prog 27 #[p] w fun e w' => e = .returned (.int .i64 0) ∧ w' = w := by
  have H := hide h
  clear h
  go_enter Tryd.func27, Tryd.ntmps27
  go_wp2_with fail
  refine (H.out w (Below.refl _ _)).mono ?_
  rintro e w1 ⟨rfl, hw⟩; subst w1
  go_wp2_with fail
  go_ret
  exact ⟨rfl, rfl⟩
set_option maxRecDepth 100000 in
theorem synced_no (h : NoLog w p) : Calls Tryd.prog 28 #[p] w fun e w' => e = .returned (.int .i64 0) ∧ w' = w := by
  have H := hide h
  clear h
  go_enter Tryd.func28, Tryd.ntmps28
  go_wp2_with fail
  refine (H.out w (Below.refl _ _)).mono ?_
  rintro e w1 ⟨rfl, hw⟩; subst w1
  go_wp2_with fail
  go_ret
  exact ⟨rfl, rfl⟩
set_option maxRecDepth 100000 in
theorem open_no (h : Unmade w p) : Calls Tryd.prog 32 #[p] w fun e w' => e = .returned (.tuple #[.pointer none, .slice none 0 0, .int .i64 1]) ∧ w' = w := by
  have H := hide h
  clear h
  go_enter Tryd.func32, Tryd.ntmps32
  go_wp2_with fail
  refine (size_un H.out).mono ?_
  rintro e w1 ⟨rfl, hw⟩; subst w1
  go_wp2_with fail
  refine (read_un H.out _ _).mono ?_
  rintro e w1 ⟨rfl, hw⟩; subst w1
  go_wp2_with fail
  go_ret3
  exact ⟨rfl, rfl⟩
end

set_option maxHeartbeats 4000000 in
set_option maxRecDepth 100000 in
theorem walNone_any (v : Value) (w : World) (hT : Tab w) : Calls Tryd.prog 7 #[v] w fun e w' => e = .returned (.bool true) ∧ Below w.heap.size w w' := by
  have HT := hide hT
  clear hT
  go_enter Tryd.func7, Tryd.ntmps7
  go_wp2_with fail
  obtain ⟨w1, hw1⟩ : ∃ x, x = w.alloc (.cells #[.pointer none, .int .i64 0, .int .i64 0, .int .i64 0] 61 (0, 0)) := ⟨_, rfl⟩
  rw [← hw1]
  obtain ⟨w2, hw2⟩ : ∃ x, x = w1.alloc (.cells #[.bool false, .slice none 0 0, .map none, .slice none 0 0, .int .i64 0, .slice none 0 0, .int .i64 0] 67 (0, 0)) := ⟨_, rfl⟩
  rw [← hw2]
  have s1 : w1.heap.size = w.heap.size + 1 := by rw [hw1]; simp
  have L2 : Hid (Below w.heap.size w w2) := (show Below _ _ _ by rw [hw2, hw1]; exact ((Below.refl _ _).alloc (Nat.le_refl _) _).alloc (by simp) _)
  have B2 : Hid (NoLog w2 (.pointer (some ⟨w.heap.size, 0, none⟩))) := (show NoLog _ _ from noLog_zero (by rw [hw2, hw1]; exact (Blk.new w 61 Z4).alloc _))
  have U2 : Hid (Unmade w2 (.pointer (some ⟨w.heap.size + 1, 0, none⟩))) := (show Unmade _ _ from unmade_zero (by rw [← s1, hw2]; exact Blk.new w1 67 Z7))
  clear hw1 hw2 s1
  obtain ⟨G, HG⟩ : ∃ G, Hid (w.heap.size + 1 = G) := ⟨_, rfl⟩
  obtain ⟨N, HN⟩ : ∃ N, Hid (w.heap.size = N) := ⟨_, rfl⟩
  rw [HG.out] at U2 ⊢
  rw [HN.out] at B2 ⊢
  go_loopg [14] 3 (fun g x wr => ∃ i : Nat, i ≤ 2 ∧ g + i = 3 ∧ x = .int .i64 (i : Int) ∧ wr = w2)
  case atStart => exact ⟨0, by omega, rfl, rfl, rfl⟩
  case round =>
    obtain ⟨i, hi, hgk, rfl, hwr⟩ := hrel
    subst wr
    by_cases hlt : i < 2
    · obtain ⟨q, hq, HQ⟩ : ∃ q, (#[Value.pointer none, Value.pointer (some ⟨N, 0, none⟩)] : Array Value).toList[i]? = some q ∧ Hid (NoLog w2 q) := by
        rcases (show i = 0 ∨ i = 1 by omega) with rfl | rfl
        · exact ⟨_, rfl, noLog_nil w2⟩
        · exact ⟨_, rfl, B2⟩
      have q1 : (i : Int) < 2 := by omega
      have hix : ∀ W, (Instr.index 68 (.agg #[Value.pointer none, Value.pointer (some ⟨N, 0, none⟩)]) (.int .i64 (i : Int))).run Tryd.prog W = .ok q W := fun W => index_ptr Tryd.underlying68 Tryd.underlying29 Tryd.size29 _ i q hlt hq W
      clear hq
      go_wp2_with fail
      refine (append_no HQ.out _).mono ?_
      rintro e w3 ⟨rfl, hw⟩; subst w3
      go_wp2_with fail
      refine (sync_no HQ.out).mono ?_
      rintro e w3 ⟨rfl, hw⟩; subst w3
      go_wp2_with fail
      refine (end_no HQ.out).mono ?_
      rintro e w3 ⟨rfl, hw⟩; subst w3
      go_wp2_with fail
      refine (count_no HQ.out).mono ?_
      rintro e w3 ⟨rfl, hw⟩; subst w3
      go_wp2_with fail
      refine (synced_no HQ.out).mono ?_
      rintro e w3 ⟨rfl, hw⟩; subst w3
      go_wp2_with fail
      go_roundg (gk - 1)
      case measure => omega
      case rel => exact ⟨i + 1, by omega, by omega, by go_num, rfl⟩
    · obtain rfl : i = 2 := by omega
      go_wp2_with fail
      refine (open_no (unmade_nil w2)).mono ?_
      rintro e w3 ⟨rfl, hw⟩; subst w3
      go_wp2_with fail
      refine (open_no U2.out).mono ?_
      rintro e w3 ⟨rfl, hw⟩; subst w3
      go_wp2_with fail
      refine (lives_any w2 (HT.out.kept L2.out)).mono ?_
      rintro e w3 ⟨rfl, hb3⟩
      have L3 : Hid (Below w.heap.size w w3) := L2.out.trans (hb3.mono L2.out.size)
      clear hb3
      go_wp2_with fail
      go_ret
      exact ⟨rfl, L3.out⟩
#print axioms walNone_any
end Go.Proofs.YtgdhjgfoalianaaDoor
