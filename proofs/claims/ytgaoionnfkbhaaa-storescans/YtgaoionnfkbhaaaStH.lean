/-
  slices.Backward's function: what is handed to whatever loop goes over it.
-/
import Derived.Test.YtgaoionnfkbhaaaStR
import Derived.RangeFuncCalls
import Derived.Shelf.Abstract
import Derived.Shelf.RegionOpen
import Derived.WalkKit
import Derived.OwnWalkIn
import Derived.TacticsInMore
import Derived.LoopNIn
import Derived.LoopIn
namespace Go.Proofs.Ytgaoionnfkbhaaa
open Go.RowKit Go.Shelf
attribute [local go_sem] Oper.semAt_some
/-- A call in a walk at the wide fence. -/
theorem wide_call {P : Program} {n m f : Nat} {args : Array Value} {w : World} {R R' : Ending → World → Prop} (h : Calls P f args w R) (hm : ∀ e w', R e w' → R' e w') :
    Fence.wide.fn f ∧ (Fence.wide.depth.isSome = true → 1 ≤ n) ∧ CallsIn Fence.wide m P f args w R' :=
  ⟨trivial, fun h => by simp [Fence.wide] at h, (callsIn_wide.2 h).mono hm⟩
def bwV (x : Nat × ByteArray) : Array Value := #[.int .i64 (x.1 : Int), .string x.2]
def bwR (F : List ByteArray) (pre : List (Nat × ByteArray)) (x : Nat × ByteArray) (_ : World) : Prop := pre.length + x.1 + 1 = F.length ∧ F[x.1]? = some x.2
set_option maxRecDepth 100000 in
set_option maxHeartbeats 4000000 in
theorem backward1_hands (n Bx : Nat) (a : Option Addr) (cap : Nat) (F : List ByteArray) (w : World) (hbox : w.cell? ⟨Bx, 0, none⟩ = some (.slice a F.length cap)) (hBx : Bx < w.heap.size) (hr : RdG KE w (.slice a F.length cap) F) (hl : F.length ≤ 140737488300000)
    {G : Nat → Prop} (hGb : ¬ G Bx) (hGr : ∀ b, InB (.slice a F.length cap) b → ¬ G b) :
    Hands2 Try.prog n 64 #[.pointer (some ⟨Bx, 0, none⟩)] bwV (bwR F) (fun xs => xs.length = F.length) G w := by
  intro l J Jx W hW hJ hJx h0 hY
  obtain ⟨m, HM⟩ : ∃ m, Hid (F.length = m) := ⟨_, rfl⟩
  have HR := hide hr
  have HG := hide hGr
  clear hr hGr
  rw [HM.out] at hbox HR HG hl ⊢
  have HY := hide hY
  have HJ := hide hJ
  have HJX := hide hJx
  have H0 := hide h0
  have HBX := hide hbox
  have hcW : W.cell? ⟨Bx, 0, none⟩ = some (.slice a m cap) := (hW.cell (p := ⟨Bx, 0, none⟩) hBx).trans hbox
  clear hY hJ hJx h0 hbox
  refine callsIn_of_wp Try.func64 rfl trivial ?_ rfl
  simp only [Try.ntmps64, List.size_toArray, List.length_cons, List.length_nil, Nat.reduceAdd, Nat.reduceSub, Array.replicate_succ, Array.replicate_zero, List.push_toArray, List.append_toArray, List.nil_append, List.cons_append]
  gi_wp2
  gi_loopw [3] (fun p wr => ∃ (pre : List (Nat × ByteArray)) (r : Nat), p = .int .i64 ((r : Int) - 1) ∧ Hid (J pre wr) ∧ Hid (Chg G w wr) ∧ Hid (pre.length + r = m)) (fun p _ => (intOf p + 1).toNat)
  case atStart => exact ⟨[], m, rfl, H0, Chg.of_below hW, (show _ = _ by simp)⟩
  case round =>
    obtain ⟨pre, r, rfl, HP, HC, HL⟩ := hrel
    have hc0 : wr.cell? ⟨Bx, 0, none⟩ = some (.slice a m cap) := (HC.out.cellAt hBx hGb).trans HBX.out
    cases r with
    | zero =>
      have q1 : ¬ (0 : Int) ≤ ((0 : Nat) : Int) - 1 := by omega
      gi_wp2_with fail
      refine bodyPost_end (results_none rfl _ _ _) rfl ?_
      exact ⟨⟨_, rfl⟩, .inl ⟨pre, by have := HL.out; omega, HP.out⟩⟩
    | succ r =>
      have q1 : (0 : Int) ≤ (((r + 1 : Nat) : Int)) - 1 := by omega
      have er : (((r + 1 : Nat) : Int)) - 1 = (r : Int) := by omega
      rw [er] at q1 ⊢
      have hrm : r < m := by have := HL.out; omega
      obtain ⟨b, off, ha, hlb, hx⟩ := (HR.out.chg HC.out HG.out).nth (by omega)
      have hmk : r < F.length := by rw [HM.out]; exact hrm
      have c0 : wr.cell? ⟨b, off + r, none⟩ = some (.string F[r]) := by
        have := hx r hmk 0 _ rfl
        simpa [KE] using this
      have HX : Hid (F[r]? = some F[r]) := List.getElem?_eq_getElem hmk
      generalize F[r] = km at c0 HX
      have hmn : (r : Int) < (m : Int) := by omega
      subst ha
      clear hx
      obtain ⟨fn, tmps, assign, body, hy, hR⟩ := HY.out pre (r, km) wr HP.out ⟨by have := HL.out; rw [HM.out]; omega, HX.out⟩
      simp only [bwV] at hy
      have HRR := hide hR
      clear hR
      gi_wp2_with fail
      refine ⟨fun h => by simp [Fence.wide] at h, HRR.out.mono ?_⟩
      rintro e w3 ⟨hc3, ⟨rfl, hj⟩ | ⟨rfl, hj⟩⟩
      · gi_wp2_with fail
        go_roundw
        case rel => exact ⟨pre ++ [(r, km)], r, by go_num, hj, HC.out.trans hc3, (show _ = _ by have := HL.out; rw [List.length_append, List.length_singleton]; omega)⟩
        case measure => simp only [intOf]; omega
      · gi_wp2_with fail
        refine bodyPost_ret (results_none rfl _ _ _) rfl ?_
        exact ⟨⟨_, rfl⟩, .inr ⟨_, hj⟩⟩
#print axioms backward1_hands
end Go.Proofs.Ytgaoionnfkbhaaa
