/-
  (*disk.Disk).lay: what the call does.
-/
import Derived.Test.YtnkcjhfdmnpckaaDiskC
import Derived.Maps.AppendAt
import Derived.Test.YtnkcjhfdmnpckaaDiskP
namespace Go.Proofs.Ytnkcjhfdmnpckaa
open Go.RowKit
open Pd (spl spl_length)
theorem slice_sec (g o : Nat) (ho : o < 32) (W : World) : (Instr.sliceAt 68 (.pointer (some ⟨g, 0, none⟩)) (some (.int .i64 (o : Int))) none none).run Try.prog W = .ok (.slice (some ⟨g, o, none⟩) (32 - o) (32 - o)) W := by
  have h9 : (o : Int) ≤ 32 := by omega
  have hn : ¬ 32 = o := by omega
  simp [Instr.sliceAt, Instr.sureAddr, run_underlying Try.underlying68, Instr.sliceBounds, run_sliceBound, h9, hn, Addr.add_lit]
theorem By_over (l b : List UInt8) (o : Nat) : over (By l) o (By b) = By (spl l o b) := by
  simp [over, spl, By, List.map_take, List.map_drop]
theorem lastOf_length {w : World} {D S M n cap N : Nat} {vo vk : Value} {s : St} (h : At w D S M n cap N vo vk s) (k : Nat) (hk : k < n) : (lastOf s k).length = 32 := by
  unfold lastOf
  cases hf : s.f k with
  | some y =>
    obtain ⟨x, hx, hfx, _⟩ := h.mp.look k (i64_of_nat (by have := h.max; omega))
    rw [hfx y hf, hx]
  | none => exact sec_length h.sf.len hk
theorem Blk.type {w : World} {b : Nat} {T T' : TypeId} {cs cs' : List Value} (h : Blk w b T cs) (h' : Blk w b T' cs') : T = T' := by
  unfold Blk at h h'
  rw [h] at h'
  have := Option.some.inj h'
  injection this
theorem slice_of_owns {w : World} {base e size n : Nat} {v : Value} {xs : List Value} (h : w.ownsRow base e size v (n + 1) xs) : ∃ g cp, v = .slice (some ⟨g, 0, none⟩) (n + 1) cp := by
  rcases h.2 with ⟨_, h0⟩ | ⟨g, cp, cur, hv, _⟩
  · simp at h0
  · exact ⟨g, cp, hv⟩
/-- m[k] = s, in a walk. -/
theorem wpList_mapput {w : World} {ops : Array Oper} {rest : List Oper} {op : Oper} {a : Act} {Q : Exit → Act → World → Prop} (hg : op.guard = none) (m x v : Operand) (hop : op.op = Op.mapUpdate 52 m x v)
    (M N : Nat) (f : Int → Option (List UInt8)) (hm : a.eval m = .map (some M)) (hMS : MapS w M f N) (hN : N ≤ 4096) (k : Int) (hk : (Lit.int .i64 k).wf = true) (hx : a.eval x = .int .i64 k) (l : List UInt8) (hl : l.length = 32) (hv : a.eval v = .agg (By l).toArray)
    (h : ∀ w', MapS w' M (put f k l) (if (f k).isSome then N else N + 1) → w.mapTurned w' M → wpList Try.prog ops Q rest (a.put op.dst undef) w') : wpList Try.prog ops Q (op :: rest) a w := by
  refine wpList_plain hg fun K' hK' => ?_
  obtain ⟨w', hrun, r1, r2⟩ := hMS.put hN k hk l hl
  unfold Oper.wp
  simp [execOp, hop, hm, hx, hv, hrun, Result.andThen]
  exact hK' _ _ (h w' r1 r2)
/-- delete(m, k), in a walk. -/
theorem wpList_mapdel {w : World} {ops : Array Oper} {rest : List Oper} {op : Oper} {a : Act} {Q : Exit → Act → World → Prop} (hg : op.guard = none) (m x : Operand) (hop : op.op = Op.call { callee := Callee.builtin Builtin.delete, args := #[m, x], argTypes := #[52, 3] })
    (M N : Nat) (f : Int → Option (List UInt8)) (hm : a.eval m = .map (some M)) (hMS : MapS w M f N) (k : Int) (hk : (Lit.int .i64 k).wf = true) (hx : a.eval x = .int .i64 k)
    (h : ∀ w', MapS w' M (del f k) (if (f k).isSome then N - 1 else N) → w.mapTurned w' M → wpList Try.prog ops Q rest (a.put op.dst (.tuple #[])) w') : wpList Try.prog ops Q (op :: rest) a w := by
  refine wpList_plain hg fun K' hK' => ?_
  obtain ⟨w', hrun, r1, r2⟩ := hMS.del k hk op.type
  unfold Oper.wp
  simp [execOp, hop, resolve, invoke, builtin, hm, hx, hrun, Result.andThen]
  exact hK' _ _ (h w' r1 r2)
theorem At.drew {w : World} {D S M n cap N : Nat} {vo vk : Value} {s : St} (h : At w D S M n cap N vo vk s) : At w.drew D S M n cap N vo vk s := h.chg (F := fun _ => False) (Chg.drew _ _) id id id (fun _ _ => id) (fun _ _ => id)
/-- How many are dirty then. -/
def cntS (f : Int → Option (List UInt8)) (k : Int) (N : Nat) : Nat := if (f k).isSome then N else N + 1
/-- What lay makes of a disk. -/
def layS (s : St) (k o : Nat) (X : List UInt8) : St := { s with f := put s.f k (spl (lastOf s k) o X), order := if (s.f k).isSome then s.order else s.order ++ [k] }
set_option maxHeartbeats 2000000 in
set_option maxRecDepth 100000 in
theorem lay_any {w : World} {D S M n cap N : Nat} {vo vk : Value} {s : St} (h : At w D S M n cap N vo vk s) (hN : N ≤ 4096) (hO : s.order.length ≤ 4096) (p : Nat) (hp : p < 32 * n) (v : Value) (b : List UInt8) (hr : Rd w v b)
    (hvk : ∀ c, InB vk c → c ≠ D ∧ vo.ownBlock ≠ some c) :
    Calls Try.prog 35 #[.pointer (some ⟨D, 0, none⟩), .int .i64 (p : Int), v] w fun e w' => e = .returned (.int .i64 ((b.take (32 - p % 32)).length : Int)) ∧
      ∃ vo' N', At w' D S M n cap N' vo' vk (layS s (p / 32) (p % 32) (b.take (32 - p % 32))) ∧ N' = cntS s.f (p / 32 : Nat) N ∧ Chg (fun c => c = D ∨ c = M ∨ vo.ownBlock = some c) w w' ∧ (∀ c, vo'.ownBlock = some c → vo.ownBlock = some c ∨ w.heap.size ≤ c) := by
  have HA : Hid (At w D S M n cap N vo vk s) := h
  have HR : Hid (Rd w v b) := hr
  have hn := h.max
  obtain ⟨k, HK⟩ : ∃ k, Hid (k = p / 32) := ⟨_, rfl⟩
  obtain ⟨o, HO⟩ : ∃ o, Hid (o = p % 32) := ⟨_, rfl⟩
  have hk : k < n := by have := HK.out; omega
  have ho : o < 32 := by have := HO.out; omega
  have E1 : Hid ((p : Int) / 32 = (k : Int)) := (show _ = _ by have := HK.out; omega)
  have E2 : Hid ((p : Int) % 32 = (o : Int)) := (show _ = _ by have := HO.out; omega)
  rw [← HK.out, ← HO.out]
  clear h hr
  obtain ⟨X, HX⟩ : ∃ X, Hid (b.take (32 - o) = X) := ⟨_, rfl⟩
  rw [HX.out]
  have hxl : X.length ≤ 32 - o := by rw [← HX.out, List.length_take]; omega
  obtain ⟨B, HB⟩ : ∃ B, Hid (w.heap.size = B) := ⟨_, rfl⟩
  have hz := zeroS
  obtain ⟨Z, HZ⟩ : ∃ Z, Hid (By Zs = Z) := ⟨_, rfl⟩
  rw [HZ.out] at hz
  have hzl : Z.length = 32 := by rw [← HZ.out]; rfl
  go_enter Try.func35, Try.ntmps35
  go_upto_region 2 with fail
  rw [E1.out]
  go_wp2_with fail
  refine (last_any HA.out k hk).mono ?_
  rintro e w1 ⟨rfl, hw1⟩
  have A1 : Hid (At w1 D S M n cap N vo vk s) := HA.out.kept hw1
  have R1 : Hid (Rd w1 v b) := HR.out.kept hw1
  have L1 : Hid (Below B w w1) := (show Below _ _ _ by rw [← HB.out]; exact hw1)
  clear hw1
  have hll := lastOf_length A1.out k hk
  obtain ⟨l, HL⟩ : ∃ l, Hid (lastOf s k = l) := ⟨_, rfl⟩
  rw [HL.out] at hll ⊢
  have C1 : Hid (∀ u ∈ By l, u.oneCell' = true) := By_one l
  have HCl : (By l).length = 32 := by rw [By_length, hll]
  obtain ⟨CL, HCL⟩ : ∃ CL, Hid (By l = CL) := ⟨_, rfl⟩
  rw [HCL.out] at C1 HCl ⊢
  obtain ⟨C, HC⟩ : ∃ C, Hid (w1.heap.size = C) := ⟨_, rfl⟩
  go_upto_region 3 with (first
    | (refine wpList_store_new rfl 68 _ _ rfl w1 _ _ _ rfl rfl rfl (by simpa [HCl] using Try.size68) (by simp [hzl, HCl]) (all_one C1.out) ?_)
    | fail)
  rw [HC.out]
  obtain ⟨w2, hw2⟩ : ∃ x, x = w1.alloc (.cells CL.toArray 68 (0, 0)) := ⟨_, rfl⟩
  rw [← hw2]
  have L2 : Hid (Below C w1 w2) := (show Below _ _ _ by rw [hw2]; exact (Below.refl _ _).alloc (by rw [HC.out]; exact Nat.le_refl _) _)
  have A2 : Hid (At w2 D S M n cap N vo vk s) := A1.out.kept (by rw [HC.out]; exact L2.out)
  have R2 : Hid (Rd w2 v b) := R1.out.kept (by rw [HC.out]; exact L2.out)
  have B2 : Hid (Blk w2 C 68 CL) := (show Blk _ _ _ _ by rw [hw2, ← HC.out]; exact Blk.new w1 68 CL)
  have hBC : B ≤ C := by have := L1.out.size; rw [HB.out, HC.out] at this; exact this
  have HCs : Hid (C < w2.heap.size) := B2.out.lt
  clear hw2 A1 R1
  have hs1 : ∀ W, (Instr.sliceAt 68 (.pointer (some ⟨C, 0, none⟩)) (some (.int .i64 ((p : Int) % 32))) none none).run Try.prog W = .ok (.slice (some ⟨C, o, none⟩) (32 - o) (32 - o)) W := by rw [E2.out]; exact slice_sec C o ho
  obtain ⟨c, HXc⟩ : ∃ c, Hid (X.length = c) := ⟨_, rfl⟩
  go_upto_region 4 with (first
    | (refine wpList_copy_bytes rfl (.tmp 19) (.tmp 20) 29 29 rfl 5 Try.underlying29 Try.size5 C o (32 - o) (32 - o) v b rfl rfl R2.out X c HX.out HXc.out 68 CL B2.out (by omega) ?_)
    | fail)
  obtain ⟨w3, hw3⟩ : ∃ x, x = w2.setCells C o (By X) := ⟨_, rfl⟩
  rw [← hw3]
  have U3 : Hid (But C w2 w3) := (show But _ _ _ by rw [hw3]; exact But.setCells C _ _ _)
  have L3 : Hid (Below C w1 w3) := L2.out.trans (U3.out.below (Nat.le_refl _) (Nat.le_of_lt HCs.out))
  have A3 : Hid (At w3 D S M n cap N vo vk s) := HA.out.kept (by rw [HB.out]; exact L1.out.trans (L3.out.mono hBC))
  obtain ⟨y, HY⟩ : ∃ y, Hid (spl l o X = y) := ⟨_, rfl⟩
  have hyl : y.length = 32 := by rw [← HY.out, spl_length (by omega)]; exact hll
  have HYl : (By y).length = 32 := by rw [By_length, hyl]
  have Y3 : Hid (Blk w3 C 68 (By y)) := (show Blk _ _ _ _ by
    have := Blk.over (By X) B2.out o (by rw [By_length]; omega)
    rw [← HCL.out, By_over, HY.out] at this
    rw [hw3]; exact this)
  clear hw3 hs1 U3 B2 A2 R2
  have c2 := A3.out.d.cell (j := 2) rfl
  obtain ⟨x, hx, hfx, hlk⟩ := A3.out.mp.look k (i64_of_nat (by omega))
  have X1 : Hid (∀ u ∈ By x, u.oneCell' = true) := By_one x
  have HXl : (By x).length = 32 := by rw [By_length, hx]
  obtain ⟨XX, HXX⟩ : ∃ X, Hid (By x = X) := ⟨_, rfl⟩
  rw [HXX.out] at hlk X1 HXl
  obtain ⟨E, HE⟩ : ∃ C, Hid (w3.heap.size = C) := ⟨_, rfl⟩
  have hCE : C < E := by rw [← HE.out]; exact Y3.out.lt
  go_upto_region 5 with (first
    | (refine wpList_store_new rfl 68 _ _ rfl w3 _ _ _ rfl rfl rfl (by simpa [HXl] using Try.size68) (by simp [hzl, HXl]) (all_one X1.out) ?_)
    | fail)
  rw [HE.out]
  obtain ⟨w4, hw4⟩ : ∃ x, x = w3.alloc (.cells XX.toArray 68 (0, 0)) := ⟨_, rfl⟩
  rw [← hw4]
  have L4 : Hid (Below E w3 w4) := (show Below _ _ _ by rw [hw4]; exact (Below.refl _ _).alloc (by rw [HE.out]; exact Nat.le_refl _) _)
  have A4 : Hid (At w4 D S M n cap N vo vk s) := A3.out.kept (by rw [HE.out]; exact L4.out)
  have Y4 : Hid (Blk w4 C 68 (By y)) := Y3.out.kept (by rw [HE.out]; exact L4.out)
  have L04 : Hid (Below B w w4) := L1.out.trans ((L3.out.mono hBC).trans (L4.out.mono (by omega)))
  clear hw4 hlk c2 L4 L3 L2 L1 A3 Y3 HA HR
  have c2 := A4.out.d.cell (j := 2) rfl
  have c3 := A4.out.d.cell (j := 3) rfl
  have z3 := A4.out.d.frozen 3
  have HKM : Hid (¬ InB vk M) := (show ¬ _ from fun hM => by
    obtain ⟨off, m, cp, e, hm⟩ := hM
    have hkp := A4.out.kp
    rw [e] at hkp
    obtain ⟨a, cp', e', h1, h2, h3, h4⟩ := hkp
    simp only [Value.slice.injEq] at e'
    obtain ⟨rfl, e2, rfl⟩ := e'
    obtain ⟨b', off', e3, hlt, hc⟩ := h4 (by omega)
    simp only [Option.some.injEq, Addr.mk.injEq, and_true] at e3
    obtain ⟨rfl, rfl⟩ := e3
    obtain ⟨es, clock, hb⟩ := A4.out.mp.block
    have := hc 0 (by omega)
    simp [World.cell?, hb] at this)
  have U4 : Hid (Chg (fun c => c = D ∨ c = M ∨ vo.ownBlock = some c) w w4) := Chg.of_below (by rw [HB.out]; exact L04.out)
  cases hf : s.f k with
  | some z =>
    simp only [Option.isSome_some]
    go_wp2_with fail
    obtain ⟨w5, hw5⟩ : ∃ x, x = w4 := ⟨_, rfl⟩
    have A5 : Hid (At w5 D S M n cap N vo vk s) := hw5 ▸ A4
    have Y5 : Hid (Blk w5 C 68 (By y)) := hw5 ▸ Y4
    have U5 : Hid (Chg (fun c => c = D ∨ c = M ∨ vo.ownBlock = some c) w w5) := hw5 ▸ U4
    have HOD : Hid (s.order = (layS s k o X).order) := (show _ = _ by simp [layS, hf])
    have HVO : Hid (∀ c, vo.ownBlock = some c → vo.ownBlock = some c ∨ w.heap.size ≤ c) := fun c hc => .inl hc
    rw [← hw5]
    clear hw5 A4 Y4 U4 c2 c3 z3
    have r5 := Y5.out.drew.range0
    have c2 := A5.out.d.drew.cell (j := 2) rfl
    refine wp_region_still_tail 6 Try.mixed (by kernel_rfl) ?_
    simp only [List.take_succ_cons, List.take_zero, List.drop_succ_cons, List.drop_zero]
    iterate 5 still_step
    refine wpStill_load_mid rfl 68 _ rfl C 0 rfl (By y) _ r5 Try.underlying68 rfl (by rw [HYl]; exact Try.size68) ?_
    refine wpStill_nil ?_
    refine wpList_mapput rfl _ _ _ rfl M N s.f rfl A5.out.drew.mp hN k (i64_of_nat (by omega)) rfl y hyl rfl ?_
    intro w6 m6 t6
    have U6 : Hid (Chg (fun c => c = D ∨ c = M ∨ vo.ownBlock = some c) w w6) := U5.out.trans ((Chg.drew _ _).trans (Chg.turned t6 (.inr (.inl rfl))))
    have A6 : Hid (At w6 D S M n cap (cntS s.f k N) vo vk (layS s k o X)) := (show At _ _ _ _ _ _ _ _ _ _ by
      have hA := A5.out.drew
      have hT : Chg (fun c => c = M) w5.drew w6 := Chg.turned t6 rfl
      exact ⟨hA.d.chg hT hA.DM, hA.sf.chg hT hA.SM, by rw [← HY.out, ← HL.out] at m6; exact m6, HOD.out ▸ hA.od.chg hT (fun b hb => (hA.VD hb).2.2), hA.kp.chg hT (fun b hb e => by
        subst e
        exact HKM.out hb), hA.kw, hA.pos, hA.max⟩)
    clear m6 t6
    go_wp2
    go_ret
    exact ⟨by show Ending.returned (.int .i64 (c : Int)) = _; rw [HXc.out], vo, _, A6.out, rfl, U6.out, HVO.out⟩
  | none =>
    simp only [Option.isSome_none]
    obtain ⟨i0, hi, hz0, hz1, hz2⟩ := info_parts Try.info3
    go_upto_region 7 with (first
      | (at_builtin; refine wpList_append_own_at _ rfl _ _ 30 rfl 0 3 i0 (.int .i64 0) 1 8 Try.underlying30 hi hz0 hz1 hz2 rfl (by decide) vo (Nats s.order).length (Ni (Nats s.order)) rfl (A4.out.od.chg (F := fun _ => False) (Chg.alloc _ _ _) (fun _ _ => id)) ⟨w4.heap.size, 0, none⟩ 1 1 [.int .i64 (k : Int)] rfl rfl (cell_one_new _ _ _) (Ni_one [(k : Int)]) (by rw [Nats_length]; unfold maxLen; omega) (by rw [Nats_length]; omega) (by simp) ?_; intro v5 wa ho5 hg5 hn5 hl5; clear hn5; have HO5 : Hid _ := ho5; have HG5 : Hid _ := hg5; have HL5 : Hid _ := hl5; have da : Blk wa D 56 (DB s.on S n cap M vo s.ops vk s.torn) := A4.out.d.chg ((Chg.alloc (fun c => vo.ownBlock = some c) w4 _).trans (Chg.of_grown hg5 (fun k e _ => e))) (fun e => (A4.out.VD e).1 rfl); have ca := da.cell (j := 3) rfl; have za := da.frozen 3; have hv5 := slice_of_owns ho5; clear ho5 hg5 hl5 da; obtain ⟨g5, cp5, he5⟩ := hv5; rw [he5])
      | fail)
    rw [← he5]
    obtain ⟨w5, hw5⟩ : ∃ x, x = wa.setCell ⟨D, 3, none⟩ v5 := ⟨_, rfl⟩
    rw [← hw5]
    have UA : Hid (Chg (fun c => vo.ownBlock = some c) w4 wa) := (Chg.alloc (fun c => vo.ownBlock = some c) w4 _).trans (Chg.of_grown HG5.out (fun k e _ => e))
    have UB : Hid (Chg (fun c => c = D) wa w5) := (show Chg _ _ _ by rw [hw5]; exact Chg.setCell (F := fun c => c = D) wa rfl 3 v5)
    have HVO : Hid (∀ c, v5.ownBlock = some c → vo.ownBlock = some c ∨ w.heap.size ≤ c) := fun c hc => by
      rcases HL5.out with e | e
      · exact .inl (e ▸ hc)
      · rw [e] at hc
        cases hc
        refine .inr ?_
        have := L04.out.size
        simp
        omega
    have HV5D : Hid (∀ c, v5.ownBlock = some c → ¬ c = D) := fun c hc e => by
      rcases HL5.out with e' | e'
      · exact (A4.out.VD (e' ▸ hc)).1 e
      · rw [e'] at hc
        cases hc
        have := A4.out.d.lt
        simp at e
        omega
    have A5 : Hid (At w5 D S M n cap N v5 vk { s with order := s.order ++ [k] }) := (show At _ _ _ _ _ _ _ _ _ _ by
      have hA := A4.out
      refine ⟨?_, (hA.sf.chg UA.out (fun e => (hA.VD e).2.1 rfl)).chg UB.out (fun e => hA.DS e.symm), (hA.mp.chg UA.out (fun e => (hA.VD e).2.2 rfl)).chg UB.out (fun e => hA.DM e.symm), ?_, (hA.kp.chg UA.out (fun c hc e => (hvk c hc).2 e)).chg UB.out (fun c hc e => (hvk c hc).1 e), hA.kw, hA.pos, hA.max⟩
      · have hB := (hA.d.chg UA.out (fun e => (hA.VD e).1 rfl)).set 3 v5
        rw [hw5]
        exact hB
      · refine OwnN.chg (w := wa) ?_ UB.out HV5D.out
        have := HO5.out
        unfold OwnN
        rw [show Nats (s.order ++ [k]) = Nats s.order ++ [(k : Int)] by simp [Nats], Ni_append, List.length_append]
        exact this)
    have Y5 : Hid (Blk w5 C 68 (By y)) := (Y4.out.chg UA.out (fun e => by
        obtain ⟨cur, hc⟩ := A4.out.od.block e
        exact absurd (Y4.out.type (cs' := cur.toList) (by simpa [Blk] using hc)) (by decide))).chg UB.out (fun e => by
        subst e
        exact absurd (Y4.out.type A4.out.d) (by decide))
    have U5 : Hid (Chg (fun c => c = D ∨ c = M ∨ vo.ownBlock = some c) w w5) := U4.out.trans ((UA.out.mono (fun _ _ e => .inr (.inr e))).trans (UB.out.mono (fun _ _ e => .inl e)))
    have HOD : Hid (s.order ++ [k] = (layS s k o X).order) := (show _ = _ by simp [layS, hf])
    clear hw5 A4 Y4 U4 c2 c3 z3 ca za UA UB HO5 HG5 HL5 HV5D he5
    have r5 := Y5.out.drew.range0
    have c2 := A5.out.d.drew.cell (j := 2) rfl
    refine wp_region_still_tail 6 Try.mixed (by kernel_rfl) ?_
    simp only [List.take_succ_cons, List.take_zero, List.drop_succ_cons, List.drop_zero]
    iterate 5 still_step
    refine wpStill_load_mid rfl 68 _ rfl C 0 rfl (By y) _ r5 Try.underlying68 rfl (by rw [HYl]; exact Try.size68) ?_
    refine wpStill_nil ?_
    refine wpList_mapput rfl _ _ _ rfl M N s.f rfl A5.out.drew.mp hN k (i64_of_nat (by omega)) rfl y hyl rfl ?_
    intro w6 m6 t6
    have U6 : Hid (Chg (fun c => c = D ∨ c = M ∨ vo.ownBlock = some c) w w6) := U5.out.trans ((Chg.drew _ _).trans (Chg.turned t6 (.inr (.inl rfl))))
    have A6 : Hid (At w6 D S M n cap (cntS s.f k N) v5 vk (layS s k o X)) := (show At _ _ _ _ _ _ _ _ _ _ by
      have hA := A5.out.drew
      have hT : Chg (fun c => c = M) w5.drew w6 := Chg.turned t6 rfl
      exact ⟨hA.d.chg hT hA.DM, hA.sf.chg hT hA.SM, by rw [← HY.out, ← HL.out] at m6; exact m6, HOD.out ▸ hA.od.chg hT (fun b hb => (hA.VD hb).2.2), hA.kp.chg hT (fun b hb e => by
        subst e
        exact HKM.out hb), hA.kw, hA.pos, hA.max⟩)
    clear m6 t6
    go_wp2
    go_ret
    exact ⟨by show Ending.returned (.int .i64 (c : Int)) = _; rw [HXc.out], v5, _, A6.out, rfl, U6.out, HVO.out⟩
end Go.Proofs.Ytnkcjhfdmnpckaa
