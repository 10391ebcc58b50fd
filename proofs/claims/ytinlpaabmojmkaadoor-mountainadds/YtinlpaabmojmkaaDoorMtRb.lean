/-
  slices.Backward's function, over hashes: what is handed to whatever loop goes over it.
-/
import Derived.Test.YtinlpaabmojmkaaDoorMtRa
import Derived.Test.YtinlpaabmojmkaaDoorMtH
import Derived.RangeFuncCalls
import Derived.Shelf.Abstract
import Derived.Shelf.RegionOpen
import Derived.WalkKit
import Derived.OwnWalkIn
import Derived.TacticsInMore
import Derived.LoopNIn
import Derived.LoopIn
namespace Go.Proofs.YtinlpaabmojmkaaDoor
open Go.RowKit Go.Shelf
attribute [local go_sem] Oper.semAt_some
/-- A call in a walk at the wide fence. -/
theorem wide_call {P : Program} {n m f : Nat} {args : Array Value} {w : World} {R R' : Ending → World → Prop} (h : Calls P f args w R) (hm : ∀ e w', R e w' → R' e w') :
    Fence.wide.fn f ∧ (Fence.wide.depth.isSome = true → 1 ≤ n) ∧ CallsIn Fence.wide m P f args w R' :=
  ⟨trivial, fun h => by simp [Fence.wide] at h, (callsIn_wide.2 h).mono hm⟩
theorem semAt_load9 {r : Option Nat} {ρ : Operand → Value} {op : Oper} {ty : TypeId} {x : Operand} (ho : op.op = .load ty x) : op.semAt r ρ = execOp ρ op := by
  cases r with
  | none => rfl
  | some l => exact Oper.semAt_some l ρ op (by rw [ho]; intro c h; cases h)
theorem semAt_store9 {r : Option Nat} {ρ : Operand → Value} {op : Oper} {ty : TypeId} {x y : Operand} (ho : op.op = .store ty x y) : op.semAt r ρ = execOp ρ op := by
  cases r with
  | none => rfl
  | some l => exact Oper.semAt_some l ρ op (by rw [ho]; intro c h; cases h)
/-- A whole array or struct is loaded, in a walk inside a fence. -/
theorem wpListIn_load_row9 {F : Fence} {n : Nat} {P : Program} {w : World} {ops : Array Oper} {rest : List Oper} {op : Oper} {a : Act} {Q : Exit → Act → World → Prop} (hgd : op.guard = none) (ty : TypeId) (x : Operand) (ho : op.op = .load ty x)
    (b o : Nat) (hx : a.eval x = .pointer (some ⟨b, o, none⟩)) (cs : List Value) (d : TypeDesc) (hc : w.rangeAt b o cs)
    (hu : P.underlying ty = some d) (hd : d.isRow = true) (hi : (P.info? ty).map (·.size) = some cs.length)
    (h : wpListIn F n P ops Q rest (a.put op.dst (.agg cs.toArray)) w) : wpListIn F n P ops Q (op :: rest) a w := by
  refine wpListIn_plain hgd fun K hK => ⟨fun f hf => ?_, ?_⟩
  · simp [Oper.about, ho] at hf
  · rw [semAt_load9 ho]
    simp only [execOp, ho, hx, Sem.run_bind, Sem.run_pure, Result.andThen_ok, run_loadAt_mid w b o ty cs d hc hu hd hi]
    exact hK _ _ h
/-- A whole array or struct is stored over a block, in a walk inside a fence. -/
theorem wpListIn_store_blk {F : Fence} {n : Nat} {P : Program} {w : World} {ops : Array Oper} {rest : List Oper} {op : Oper} {a : Act} {Q : Exit → Act → World → Prop} (hgd : op.guard = none) (ty : TypeId) (x y : Operand) (ho : op.op = .store ty x y)
    (b : Nat) (cs ds : List Value) (T : TypeId) (hx : a.eval x = .pointer (some ⟨b, 0, none⟩)) (hy : a.eval y = .agg ds.toArray) (hB : Blk w b T cs) (hl : ds.length = cs.length)
    (hi : (P.info? ty).map (·.size) = some ds.length) (h1 : ∀ u ∈ ds, u.oneCell' = true)
    (h : ∀ w', Blk w' b T ds → But b w w' → wpListIn F n P ops Q rest (a.put op.dst undef) w') : wpListIn F n P ops Q (op :: rest) a w := by
  refine wpListIn_plain hgd fun K hK => ⟨fun f hf => ?_, ?_⟩
  · simp [Oper.about, ho] at hf
  · have t0 := hB.there 0 ds.length (by omega)
    rw [semAt_store9 ho]
    simp only [execOp, ho, hx, hy, Sem.run_bind, Sem.run_pure, Result.andThen_ok, run_storeAt_mid w b 0 ty ds.toArray (by simpa using t0) (by simpa using hi) (all_one h1)]
    refine hK _ _ (h _ ?_ (But.setCells b _ 0 w))
    have := Blk.over ds hB 0 (by omega)
    rwa [over_all _ _ hl.symm] at this
def bwV (x : Nat × Hs) : Array Value := #[.int .i64 (x.1 : Int), HV x.2]
def bwR (F : List Hs) (pre : List (Nat × Hs)) (x : Nat × Hs) (_ : World) : Prop := pre.length + x.1 + 1 = F.length ∧ F[x.1]? = some x.2
set_option maxRecDepth 100000 in
set_option maxHeartbeats 4000000 in
theorem backward1_hands (n Bx : Nat) (a : Option Addr) (cap : Nat) (F : List Hs) (w : World) (hbox : w.cell? ⟨Bx, 0, none⟩ = some (.slice a F.length cap)) (hBx : Bx < w.heap.size) (hr : RdG HE w (.slice a F.length cap) F) (hl : F.length ≤ 140737488300000)
    {G : Nat → Prop} (hGb : ¬ G Bx) (hGr : ∀ b, InB (.slice a F.length cap) b → ¬ G b) :
    Hands2 Tryd.prog n 34 #[.pointer (some ⟨Bx, 0, none⟩)] bwV (bwR F) (fun xs => xs.length = F.length) G w := by
  intro l J Jx W hW hJ hJx h0 hY
  obtain ⟨m, HM⟩ : ∃ m, Hid (F.length = m) := ⟨_, rfl⟩
  have HR := hide hr
  have HG := hide hGr
  clear hr hGr
  rw [HM.out] at hbox HR HG hl ⊢
  have HY := hide hY
  have HJ := hide hJ
  have HJX := hide hJx
  have H0 := hide h0
  have HBX := hide hbox
  have hcW : W.cell? ⟨Bx, 0, none⟩ = some (.slice a m cap) := (hW.cell (p := ⟨Bx, 0, none⟩) hBx).trans hbox
  clear hY hJ hJx h0 hbox
  refine callsIn_of_wp Tryd.func34 rfl trivial ?_ rfl
  simp only [Tryd.ntmps34, List.size_toArray, List.length_cons, List.length_nil, Nat.reduceAdd, Nat.reduceSub, Array.replicate_succ, Array.replicate_zero, List.push_toArray, List.append_toArray, List.nil_append, List.cons_append]
  gi_wp2
  gi_loopw [3] (fun p wr => ∃ (pre : List (Nat × Hs)) (r : Nat), p = .int .i64 ((r : Int) - 1) ∧ Hid (J pre wr) ∧ Hid (Chg G w wr) ∧ Hid (pre.length + r = m)) (fun p _ => (intOf p + 1).toNat)
  case atStart => exact ⟨[], m, rfl, H0, Chg.of_below hW, (show _ = _ by simp)⟩
  case round =>
    obtain ⟨pre, r, rfl, HP, HC, HL⟩ := hrel
    have hc0 : wr.cell? ⟨Bx, 0, none⟩ = some (.slice a m cap) := (HC.out.cellAt hBx hGb).trans HBX.out
    cases r with
    | zero =>
      have q1 : ¬ (0 : Int) ≤ ((0 : Nat) : Int) - 1 := by omega
      gi_wp2_with fail
      refine bodyPost_end (results_none rfl _ _ _) rfl ?_
      exact ⟨⟨_, rfl⟩, .inl ⟨pre, by have := HL.out; omega, HP.out⟩⟩
    | succ r =>
      have q1 : (0 : Int) ≤ (((r + 1 : Nat) : Int)) - 1 := by omega
      have er : (((r + 1 : Nat) : Int)) - 1 = (r : Int) := by omega
      rw [er] at q1 ⊢
      have hrm : r < m := by have := HL.out; omega
      obtain ⟨b, off, ha, hlb, hx⟩ := (HR.out.chg HC.out HG.out).nth (by omega)
      have hmk : r < F.length := by rw [HM.out]; exact hrm
      have c0 : wr.rangeAt b (off + r * 32) (By F[r].1) := hx r hmk
      have HX : Hid (F[r]? = some F[r]) := List.getElem?_eq_getElem hmk
      generalize F[r] = km at c0 HX
      have hmn : (r : Int) < (m : Int) := by omega
      subst ha
      clear hx
      obtain ⟨fn, tmps, assign, body, hy, hR⟩ := HY.out pre (r, km) wr HP.out ⟨by have := HL.out; rw [HM.out]; omega, HX.out⟩
      simp only [bwV, HV] at hy
      have HRR := hide hR
      clear hR
      gi_wp2_with (first
        | (refine wpListIn_load_row9 rfl 30 _ rfl b (off + r * 32) rfl (By km.1) _ c0 Tryd.underlying30 rfl (Tryd.sizeH km) ?_)
        | fail)
      refine ⟨fun h => by simp [Fence.wide] at h, HRR.out.mono ?_⟩
      rintro e w3 ⟨hc3, ⟨rfl, hj⟩ | ⟨rfl, hj⟩⟩
      · gi_wp2_with fail
        go_roundw
        case rel => exact ⟨pre ++ [(r, km)], r, by go_num, hj, HC.out.trans hc3, (show _ = _ by have := HL.out; rw [List.length_append, List.length_singleton]; omega)⟩
        case measure => simp only [intOf]; omega
      · gi_wp2_with fail
        refine bodyPost_ret (results_none rfl _ _ _) rfl ?_
        exact ⟨⟨_, rfl⟩, .inr ⟨_, hj⟩⟩
#print axioms backward1_hands
end Go.Proofs.YtinlpaabmojmkaaDoor
