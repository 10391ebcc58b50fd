/-
  indenturelaw08.StoreNone: what the call does.
-/
import Derived.Test.YtgaoionnfkbhaaaStU
namespace Go.Proofs.Ytgaoionnfkbhaaa
open Go.RowKit
theorem index_ptr {P : Program} {t e u : TypeId} {n : Nat} (hu : P.underlying t = some (.array n e)) (he : P.underlying e = some (.pointer u)) (hsz : (P.info? e).map (·.size) = some 1)
    (cs : Array Value) (i : Nat) (v : Value) (hi : i < n) (hv : cs.toList[i]? = some v) (W : World) : (Instr.index t (.agg cs) (.int .i64 (i : Int))).run P W = .ok v W := by
  rw [Array.getElem?_toList] at hv
  cases hq : P.info? e with
  | none => simp [hq] at hsz
  | some j =>
    have hj : j.size = 1 := by simpa [hq] using hsz
    simp [Instr.index, asIntOf, run_underlying hu, run_underlying he, part, isAgg, sizeOf, typeInfo, hq, hj, hv]
    omega
theorem Try.size25 : (Try.prog.info? 25).map (·.size) = some 1 := by kernel_rfl
theorem buildA (a : Ac) (W : World) : (Instr.buildSlice 22 1 #[(0, .agg (AC a).toArray)]).run Try.prog W = .ok (.slice (some ⟨W.heap.size, 0, none⟩) 1 1) (W.alloc (.cells (AC a).toArray 33 (0, 0))) := by
  kernel_rfl
theorem wpList_buildA {ops : Array Oper} {rest : List Oper} {op : Oper} {a : Act} {w : World} {Q : Exit → Act → World → Prop} (hgd : op.guard = none) (x : Operand) (ho : op.op = .buildSlice 22 1 #[(0, x)]) (p : Ac) (hx : a.eval x = .agg (AC p).toArray)
    (h : wpList Try.prog ops Q rest (a.put op.dst (.slice (some ⟨w.heap.size, 0, none⟩) 1 1)) (w.alloc (.cells (AC p).toArray 33 (0, 0)))) : wpList Try.prog ops Q (op :: rest) a w := by
  refine wpList_plain hgd fun K hK => ?_
  have hr := buildA p w
  unfold Oper.wp execOp
  simp only [ho, hx, hr, List.map_toArray, List.map_cons, List.map_nil, Sem.run_bind, Sem.run_pure, Result.andThen_ok]
  exact hK _ _ h
set_option maxRecDepth 100000 in
set_option maxHeartbeats 4000000 in
theorem storeNone_any {w : World} {x : Ac} (h : AcOk w x) : Calls Try.prog 7 #[.agg (AC x).toArray] w fun e w' => e = .returned (.bool true) ∧ Below w.heap.size w w' := by
  have HX := hide h
  clear h
  have L1 : Hid (Below w.heap.size w (w.alloc (.cells (AC x).toArray 33 (0, 0)))) := (Below.refl _ _).alloc (Nat.le_refl _) _
  have B1 := hide (Blk.new w 33 (AC x))
  go_enter Try.func7, Try.ntmps7
  go_upto_region 1 with fail
  obtain ⟨E, HE⟩ : ∃ E, Hid (w.heap.size = E) := ⟨_, rfl⟩
  obtain ⟨w1, hw1⟩ : ∃ y, y = w.alloc (.cells (AC x).toArray 33 (0, 0)) := ⟨_, rfl⟩
  rw [← hw1] at L1 B1 ⊢
  rw [HE.out] at B1 ⊢
  clear hw1
  have B1r := B1.out.range0
  have L2 : Hid (Below w1.heap.size w1 (w1.alloc (.cells (AC x).toArray 33 (0, 0)))) := (Below.refl _ _).alloc (Nat.le_refl _) _
  have R2 : Hid (RdG AE (w1.alloc (.cells (AC x).toArray 33 (0, 0))) (.slice (some ⟨w1.heap.size, 0, none⟩) 1 1) [x]) := rdG_one (E := AE) w1 33 x
  have K2 : Hid (AcsOk (w1.alloc (.cells (AC x).toArray 33 (0, 0))) [x]) := (show AcsOk _ _ from fun a ha => by
    simp only [List.mem_singleton] at ha
    subst ha
    exact (HX.out.kept L1.out).kept L2.out)
  go_wp2_with (first
    | (refine wpList_load_mid rfl 33 _ rfl E 0 rfl (AC x) _ B1r Try.underlying33 rfl Try.size33 ?_)
    | (refine wpList_buildA rfl _ rfl x rfl ?_)
    | fail)
  refine (light_any R2.out K2.out).mono ?_
  rintro e w3 ⟨b, rfl, -, hb3⟩
  have G3 : Hid (Below w1.heap.size w1 w3) := L2.out.trans (hb3.mono L2.out.size)
  have L3 : Hid (Below w.heap.size w w3) := L1.out.trans (G3.out.mono L1.out.size)
  have B3 := hide (B1.out.kept G3.out)
  clear hb3 R2 K2 L2 B1r
  cases b with
  | false =>
    go_wp2_with fail
    refine (lives_any w3).mono ?_
    rintro e w4 ⟨rfl, hb4⟩
    have L4 : Hid (Below w.heap.size w w4) := L3.out.trans (hb4.mono L3.out.size)
    clear hb4
    go_wp2_with fail
    go_ret
    exact ⟨rfl, L4.out⟩
  | true =>
    have hzs : ∀ W : World, (zeroValue 55).run Try.prog W = .ok (.agg #[.map none, .slice none 0 0, .int .i64 0, .int .i64 0]) W := fun W => by kernel_rfl
    obtain ⟨xk, xn, xm, ad, ln, cpa, pl, fr, tt⟩ := x
    have A4 : Hid (Below w3.heap.size w3 (w3.alloc (.cells #[.map none, .slice none 0 0, .int .i64 0, .int .i64 0] 55 (0, 0)))) := (Below.refl _ _).alloc (Nat.le_refl _) _
    have Z4 := hide (Blk.new w3 55 [.map none, .slice none 0 0, .int .i64 0, .int .i64 0])
    obtain ⟨Z, HZ⟩ : ∃ Z, Hid (w3.heap.size = Z) := ⟨_, rfl⟩
    go_wp2_with fail
    have L4 : Hid (Below w.heap.size w (w3.alloc (.cells #[.map none, .slice none 0 0, .int .i64 0, .int .i64 0] 55 (0, 0)))) := L3.out.trans (A4.out.mono L3.out.size)
    have B4 := hide (B3.out.kept A4.out)
    rw [HZ.out] at Z4 ⊢
    generalize w3.alloc (.cells #[.map none, .slice none 0 0, .int .i64 0, .int .i64 0] 55 (0, 0)) = w4 at L4 B4 Z4 ⊢
    clear A4 B3 L3 G3 B1
    go_loopg [16] 2 (fun g y wr => ∃ i : Nat, g + i = 2 ∧ y = .int .i64 (i : Int) ∧ Hid (Blk wr E 33 (AC ⟨xk, xn, xm, ad, ln, cpa, pl, fr, tt⟩)) ∧ Hid (Blk wr Z 55 [.map none, .slice none 0 0, .int .i64 0, .int .i64 0]) ∧ Hid (Below w.heap.size w wr))
    case atStart => exact ⟨0, by omega, rfl, B4, Z4, L4⟩
    case round =>
      obtain ⟨i, hgi, rfl, BR, ZR, LR⟩ := hrel
      by_cases hlt : i < 2
      · have q2 : (i : Int) < 2 := by omega
        obtain ⟨q, hq, hu⟩ : ∃ q, (#[Value.pointer none, Value.pointer (some ⟨Z, 0, none⟩)] : Array Value).toList[i]? = some q ∧ Un wr q := by
          have hi : i = 0 ∨ i = 1 := by omega
          rcases hi with rfl | rfl
          · exact ⟨_, rfl, .inl rfl⟩
          · exact ⟨_, rfl, .inr ⟨Z, rfl, ZR.out⟩⟩
        have hix : ∀ W, (Instr.index 56 (.agg #[Value.pointer none, Value.pointer (some ⟨Z, 0, none⟩)]) (.int .i64 (i : Int))).run Try.prog W = .ok q W := fun W => index_ptr Try.underlying56 Try.underlying25 Try.size25 _ i q hlt hq W
        have HU := hide hu
        clear hq hu
        have e1 := BR.out.cell (j := 1) rfl
        have e2 := BR.out.cell (j := 2) rfl
        have e3 := BR.out.cell (j := 3) rfl
        have e4 := BR.out.cell (j := 4) rfl
        have e5 := BR.out.cell (j := 5) rfl
        simp only at e1 e2 e3 e4 e5
        go_wp2_with fail
        refine (uGet_any HU.out fr xn).mono ?_
        rintro e v1 ⟨rfl, hb⟩
        replace LR : Hid (Below w.heap.size w v1) := LR.out.trans (hb.mono LR.out.size)
        replace BR := hide (BR.out.kept hb)
        replace ZR := hide (ZR.out.kept hb)
        replace HU := hide (HU.out.kept hb)
        clear hb e1 e2 e3 e4 e5
        have e1 := BR.out.cell (j := 1) rfl
        have e2 := BR.out.cell (j := 2) rfl
        have e3 := BR.out.cell (j := 3) rfl
        have e4 := BR.out.cell (j := 4) rfl
        have e5 := BR.out.cell (j := 5) rfl
        simp only at e1 e2 e3 e4 e5
        go_wp2_with fail
        refine (uScan_any HU.out fr tt xn xm).mono ?_
        rintro e v2 ⟨rfl, hb⟩
        replace LR : Hid (Below w.heap.size w v2) := LR.out.trans (hb.mono LR.out.size)
        replace BR := hide (BR.out.kept hb)
        replace ZR := hide (ZR.out.kept hb)
        replace HU := hide (HU.out.kept hb)
        clear hb e1 e2 e3 e4 e5
        have e1 := BR.out.cell (j := 1) rfl
        have e2 := BR.out.cell (j := 2) rfl
        have e3 := BR.out.cell (j := 3) rfl
        have e4 := BR.out.cell (j := 4) rfl
        have e5 := BR.out.cell (j := 5) rfl
        simp only at e1 e2 e3 e4 e5
        go_wp2_with fail
        refine (uInstall_any HU.out xn (.slice ad ln cpa)).mono ?_
        rintro e v3 ⟨rfl, hb⟩
        replace LR : Hid (Below w.heap.size w v3) := LR.out.trans (hb.mono LR.out.size)
        replace BR := hide (BR.out.kept hb)
        replace ZR := hide (ZR.out.kept hb)
        replace HU := hide (HU.out.kept hb)
        clear hb e1 e2 e3 e4 e5
        have e1 := BR.out.cell (j := 1) rfl
        have e2 := BR.out.cell (j := 2) rfl
        have e3 := BR.out.cell (j := 3) rfl
        have e4 := BR.out.cell (j := 4) rfl
        have e5 := BR.out.cell (j := 5) rfl
        simp only at e1 e2 e3 e4 e5
        go_wp2_with fail
        refine (uCollect_any HU.out xn).mono ?_
        rintro e v4 ⟨rfl, hb⟩
        replace LR : Hid (Below w.heap.size w v4) := LR.out.trans (hb.mono LR.out.size)
        replace BR := hide (BR.out.kept hb)
        replace ZR := hide (ZR.out.kept hb)
        replace HU := hide (HU.out.kept hb)
        clear hb e1 e2 e3 e4 e5
        have e1 := BR.out.cell (j := 1) rfl
        have e2 := BR.out.cell (j := 2) rfl
        have e3 := BR.out.cell (j := 3) rfl
        have e4 := BR.out.cell (j := 4) rfl
        have e5 := BR.out.cell (j := 5) rfl
        simp only at e1 e2 e3 e4 e5
        go_wp2_with fail
        refine (uLast_any HU.out).mono ?_
        rintro e v5 ⟨rfl, hb⟩
        replace LR : Hid (Below w.heap.size w v5) := LR.out.trans (hb.mono LR.out.size)
        replace BR := hide (BR.out.kept hb)
        replace ZR := hide (ZR.out.kept hb)
        replace HU := hide (HU.out.kept hb)
        clear hb e1 e2 e3 e4 e5
        have e1 := BR.out.cell (j := 1) rfl
        have e2 := BR.out.cell (j := 2) rfl
        have e3 := BR.out.cell (j := 3) rfl
        have e4 := BR.out.cell (j := 4) rfl
        have e5 := BR.out.cell (j := 5) rfl
        simp only at e1 e2 e3 e4 e5
        go_wp2_with fail
        refine (uFloor_any HU.out).mono ?_
        rintro e v6 ⟨rfl, hb⟩
        replace LR : Hid (Below w.heap.size w v6) := LR.out.trans (hb.mono LR.out.size)
        replace BR := hide (BR.out.kept hb)
        replace ZR := hide (ZR.out.kept hb)
        replace HU := hide (HU.out.kept hb)
        clear hb e1 e2 e3 e4 e5
        have e1 := BR.out.cell (j := 1) rfl
        have e2 := BR.out.cell (j := 2) rfl
        have e3 := BR.out.cell (j := 3) rfl
        have e4 := BR.out.cell (j := 4) rfl
        have e5 := BR.out.cell (j := 5) rfl
        simp only at e1 e2 e3 e4 e5
        go_wp2_with fail
        refine (uVersions_any HU.out).mono ?_
        rintro e v7 ⟨rfl, hb⟩
        replace LR : Hid (Below w.heap.size w v7) := LR.out.trans (hb.mono LR.out.size)
        replace BR := hide (BR.out.kept hb)
        replace ZR := hide (ZR.out.kept hb)
        replace HU := hide (HU.out.kept hb)
        clear hb e1 e2 e3 e4 e5
        have e1 := BR.out.cell (j := 1) rfl
        have e2 := BR.out.cell (j := 2) rfl
        have e3 := BR.out.cell (j := 3) rfl
        have e4 := BR.out.cell (j := 4) rfl
        have e5 := BR.out.cell (j := 5) rfl
        simp only at e1 e2 e3 e4 e5
        go_wp2_with fail
        refine (uWrote_any HU.out fr xn).mono ?_
        rintro e v8 ⟨rfl, hb⟩
        replace LR : Hid (Below w.heap.size w v8) := LR.out.trans (hb.mono LR.out.size)
        replace BR := hide (BR.out.kept hb)
        replace ZR := hide (ZR.out.kept hb)
        replace HU := hide (HU.out.kept hb)
        clear hb e1 e2 e3 e4 e5
        have e1 := BR.out.cell (j := 1) rfl
        have e2 := BR.out.cell (j := 2) rfl
        have e3 := BR.out.cell (j := 3) rfl
        have e4 := BR.out.cell (j := 4) rfl
        have e5 := BR.out.cell (j := 5) rfl
        simp only at e1 e2 e3 e4 e5
        go_wp2_with fail
        refine (uWithin_any HU.out fr tt xn).mono ?_
        rintro e v9 ⟨rfl, hb⟩
        replace LR : Hid (Below w.heap.size w v9) := LR.out.trans (hb.mono LR.out.size)
        replace BR := hide (BR.out.kept hb)
        replace ZR := hide (ZR.out.kept hb)
        replace HU := hide (HU.out.kept hb)
        clear hb e1 e2 e3 e4 e5
        have e1 := BR.out.cell (j := 1) rfl
        have e2 := BR.out.cell (j := 2) rfl
        have e3 := BR.out.cell (j := 3) rfl
        have e4 := BR.out.cell (j := 4) rfl
        have e5 := BR.out.cell (j := 5) rfl
        simp only at e1 e2 e3 e4 e5
        go_wp2_with fail
        refine (uCopy_any HU.out).mono ?_
        rintro e v10 ⟨rfl, hb⟩
        replace LR : Hid (Below w.heap.size w v10) := LR.out.trans (hb.mono LR.out.size)
        replace BR := hide (BR.out.kept hb)
        replace ZR := hide (ZR.out.kept hb)
        replace HU := hide (HU.out.kept hb)
        clear hb e1 e2 e3 e4 e5
        have e1 := BR.out.cell (j := 1) rfl
        have e2 := BR.out.cell (j := 2) rfl
        have e3 := BR.out.cell (j := 3) rfl
        have e4 := BR.out.cell (j := 4) rfl
        have e5 := BR.out.cell (j := 5) rfl
        simp only at e1 e2 e3 e4 e5
        go_wp2_with fail
        go_roundg (gk - 1)
        case measure => omega
        case rel => exact ⟨i + 1, by omega, by go_num, BR, ZR, LR⟩
      · obtain rfl : i = 2 := by omega
        go_wp2_with fail
        refine (lives_any wr).mono ?_
        rintro e w5 ⟨rfl, hb5⟩
        have L5 : Hid (Below w.heap.size w w5) := LR.out.trans (hb5.mono LR.out.size)
        clear hb5
        go_wp2_with fail
        go_ret
        exact ⟨rfl, L5.out⟩
#print axioms storeNone_any
end Go.Proofs.Ytgaoionnfkbhaaa
