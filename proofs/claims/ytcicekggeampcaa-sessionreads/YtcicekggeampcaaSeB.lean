/-
  package session: isStore, Begin: what the calls do.
-/
import Derived.Test.YtcicekggeampcaaSeC
namespace Go.Proofs.Ytcicekggeampcaa
open Go.RowKit
theorem getS_last {s : SP} (h : s.floor ≤ s.last) (k : ByteArray) : (getS s k s.last).2 = 0 ∨ (getS s k s.last).2 = 8 := by
  unfold getS
  rw [may0 h (Int.le_refl _)]
  simp only [if_true]
  split
  · exact .inl rfl
  · exact .inr rfl
set_option maxRecDepth 100000 in
theorem zIsStore_any {w0 w : World} {D i : Nat} {s : SP} {O : Nat → Prop} (hl : LS w0 w D i s O) (hi : i ≤ 1000) : Calls Try.prog 36 #[PT D] w fun e w' => e = .returned (.bool true) ∧ Below w.heap.size w w' := by
  have CL := hide hl.last
  have hb := hl.bnd
  have CG := hide (hl.get hi em (Nat.zero_le _) s.last)
  have h8 := getS_last (by omega : s.floor ≤ s.last) em
  obtain ⟨n, HN⟩ : ∃ n, Hid (s.last = n) := ⟨_, rfl⟩
  rw [HN.out] at CL CG h8
  obtain ⟨e0, HE⟩ : ∃ e0, Hid ((getS s em n).2 = e0) := ⟨_, rfl⟩
  rw [HE.out] at CG h8
  have q1 : (e0 != 1) = true := by simp; omega
  clear hb h8
  go_enter Try.func36, Try.ntmps36
  go_wp2_with fail
  refine CL.out.mono ?_
  rintro e w_ ⟨rfl, hw⟩
  subst w_
  go_wp2_with fail
  refine CG.out.mono ?_
  rintro e w1 ⟨rfl, hb⟩
  have L1 := hide hb
  clear hb
  go_wp2_with fail
  go_ret
  exact ⟨rfl, L1.out⟩
set_option maxRecDepth 100000 in
theorem zIsStore_nil (w : World) : Calls Try.prog 36 #[.pointer none] w fun e w' => e = .returned (.bool false) ∧ Below w.heap.size w w' := by
  have CL := hide (uLast_any (w := w) (v := .pointer none) (.inl rfl))
  go_enter Try.func36, Try.ntmps36
  go_wp2_with fail
  refine CL.out.mono ?_
  rintro e w1 ⟨rfl, hb⟩
  have L1 := hide hb
  have CG := hide (suGet_any (w := w1) (v := .pointer none) (.inl rfl) em 0)
  clear hb
  go_wp2_with fail
  refine CG.out.mono ?_
  rintro e w2 ⟨rfl, hb⟩
  have L2 : Hid (Below w.heap.size w w2) := (show Below _ _ _ from L1.out.trans (hb.mono L1.out.size))
  clear hb
  go_wp2_with fail
  go_ret
  exact ⟨rfl, L2.out⟩
set_option maxRecDepth 100000 in
theorem zBegin_some {w : World} {B X : Nat} {id : Int} {b : Tb} {t : Tx} (h : SesAt w B X id (some (b, t))) (v : Value) (st : Bool) : Calls Try.prog 14 #[PT X, v, .bool st] w fun e w' => e = .returned (.int .i64 9) ∧ w' = w := by
  have CM := hide (zMade_any h.x h.id.1)
  have CO := hide (zOpen_any h)
  clear h
  go_enter Try.func14, Try.ntmps14
  go_wp2_with fail
  refine CM.out.mono ?_
  rintro e w_ ⟨rfl, hw⟩
  subst w_
  go_wp2_with fail
  refine CO.out.mono ?_
  rintro e w_ ⟨rfl, hw⟩
  subst w_
  go_wp2_with fail
  go_ret
  exact ⟨rfl, rfl⟩
set_option maxRecDepth 100000 in
theorem zBegin_nil {w : World} {B X : Nat} {id : Int} (h : SesAt w B X id none) (st : Bool) : Calls Try.prog 14 #[PT X, .pointer none, .bool st] w fun e w' => e = .returned (.int .i64 1) ∧ Below w.heap.size w w' := by
  have CM := hide (zMade_any h.x h.id.1)
  have CO := hide (zOpen_any h)
  have CS := hide (zIsStore_nil w)
  clear h
  go_enter Try.func14, Try.ntmps14
  go_wp2_with fail
  refine CM.out.mono ?_
  rintro e w_ ⟨rfl, hw⟩
  subst w_
  go_wp2_with fail
  refine CO.out.mono ?_
  rintro e w_ ⟨rfl, hw⟩
  subst w_
  go_wp2_with fail
  refine CS.out.mono ?_
  rintro e w1 ⟨rfl, hb⟩
  have L1 := hide hb
  clear hb
  go_wp2_with fail
  go_ret
  exact ⟨rfl, L1.out⟩
set_option maxRecDepth 100000 in
theorem zBegin_un {w : World} {v : Value} (h : UnS w v) (x : Value) (st : Bool) : Calls Try.prog 14 #[v, x, .bool st] w fun e w' => e = .returned (.int .i64 1) ∧ w' = w := by
  have CM := hide (zMade_un h)
  clear h
  go_enter Try.func14, Try.ntmps14
  go_wp2_with fail
  refine CM.out.mono ?_
  rintro e w_ ⟨rfl, hw⟩
  subst w_
  go_wp2_with fail
  go_ret
  exact ⟨rfl, rfl⟩
/-- A pointer into a cell. -/
theorem wpList_store_pt {P : Program} {ops : Array Oper} {rest : List Oper} {o : Oper} {a : Act} {w : World} {Q : Exit → Act → World → Prop} (hgd : o.guard = none) (ty : TypeId) (hso : ∀ W, (sizeOf ty).run P W = .ok 1 W) (x y : Operand) (ho : o.op = .store ty x y) (b j : Nat) (T : TypeId) (cs : List Value) (p : Option Addr)
    (hx : a.eval x = .pointer (some ⟨b, j, none⟩)) (hy : a.eval y = .pointer p) (hB : Blk w b T cs) (hj : j < cs.length) (h : ∀ w', Blk w' b T (cs.set j (.pointer p)) → But b w w' → wpList P ops Q rest (a.put o.dst undef) w') : wpList P ops Q (o :: rest) a w := by
  have hc := hB.cell (j := j) (v := cs[j]) (List.getElem?_eq_getElem hj)
  have hf := hB.frozen j
  have hrun : (execOp a.eval o).run P w = .ok .skip (w.setCell ⟨b, j, none⟩ (.pointer p)) := by
    simp only [execOp, ho, hx, hy]
    go_simp
  refine wpList_plain hgd fun K hK => ?_
  unfold Oper.wp
  rw [hrun]
  exact hK _ _ (h _ (hB.set j (.pointer p)) (But.setCell b w j _))
theorem szp : ∀ W : World, (sizeOf 57).run Try.prog W = .ok 1 W := fun W => by kernel_rfl
theorem build_tx (n : Int) (st : Bool) (S D : Nat) : ∀ W : World, (Instr.build 91 #[(0, .int .i64 n), (1, .bool st), (3, .map (some S)), (4, PT D)]).run Try.prog W = .ok (.agg (TC ⟨0, S, D, 0, none, 0, []⟩ ⟨n, st, [], [], 0⟩).toArray) W := fun W => by kernel_rfl
set_option maxHeartbeats 2000000 in
set_option maxRecDepth 100000 in
theorem zBegin_any {w0 w : World} {D i : Nat} {s : SP} {O : Nat → Prop} (hl : LS w0 w D i s O) (hi : i ≤ 1000) {B X : Nat} {id : Int} (h : SesAt w B X id none) (st : Bool) :
    Calls Try.prog 14 #[PT X, PT D, .bool st] w fun e w' => e = .returned (.int .i64 0) ∧ ∃ b, SesAt w' B X id (some (b, ⟨s.last, st, [], [], 0⟩)) ∧ Chg (fun k => k = X) w w' ∧ ∀ k, b.G k → w.heap.size ≤ k := by
  have H := hide h
  have HL := hide hl
  have CM := hide (zMade_any h.x h.id.1)
  have CO := hide (zOpen_any h)
  have CS := hide (zIsStore_any hl hi)
  have hmm := @run_makeMap Try.prog
  have hbt := build_tx
  have hBX : Hid (B ≤ X ∧ X < w.heap.size) := (show _ ∧ _ from ⟨h.lo, h.x.lt⟩)
  clear h hl
  go_enter Try.func14, Try.ntmps14
  go_wp2_with fail
  refine CM.out.mono ?_
  rintro e w_ ⟨rfl, hw⟩
  subst w_
  go_wp2_with fail
  refine CO.out.mono ?_
  rintro e w_ ⟨rfl, hw⟩
  subst w_
  go_wp2_with fail
  refine CS.out.mono ?_
  rintro e w1 ⟨rfl, hb⟩
  have L1 := hide hb
  have CL := hide (HL.out.kept hb).last
  clear hb
  go_wp2_with fail
  refine CL.out.mono ?_
  rintro e w_ ⟨rfl, hw⟩
  subst w_
  obtain ⟨S, HS⟩ : ∃ S, Hid (w1.heap.size = S) := ⟨_, rfl⟩
  obtain ⟨w2, hw2⟩ : ∃ y, y = w1.alloc (.map #[] 0) := ⟨_, rfl⟩
  have SS : Hid (SetS w2 S []) := (show SetS _ _ _ by rw [hw2, ← HS.out]; exact SetS.made w1)
  have b12 : Below w1.heap.size w1 w2 := by rw [hw2]; exact (Below.refl _ _).alloc (Nat.le_refl _) _
  have L2 : Hid (Below w.heap.size w w2) := (show Below _ _ _ from L1.out.trans (b12.mono L1.out.size))
  have HW := hide hw2
  have CB := hide (bNew_any w2)
  clear hw2 b12
  go_wp2_with fail
  rw [HS.out]
  change Calls _ _ _ (w1.alloc (.map #[] 0)) _
  rw [← HW.out]
  refine CB.out.mono ?_
  rintro e w3 ⟨Db, M, rfl, hB, hD, hM, hb3⟩
  have HB := hide hB
  have HDM : Hid (w2.heap.size ≤ Db ∧ w2.heap.size ≤ M) := (show _ ∧ _ from ⟨hD, hM⟩)
  have L3 : Hid (Below w.heap.size w w3) := (show Below _ _ _ from L2.out.trans (hb3.mono L2.out.size))
  have L23 := hide hb3
  obtain ⟨T, HT⟩ : ∃ T, Hid (w3.heap.size = T) := ⟨_, rfl⟩
  obtain ⟨n, HN⟩ : ∃ n, Hid (s.last = n) := ⟨_, rfl⟩
  obtain ⟨w4, hw4⟩ : ∃ y, y = w3.alloc (.cells (TC ⟨0, S, Db, 0, none, 0, []⟩ ⟨n, st, [], [], 0⟩).toArray 91 (0, 0)) := ⟨_, rfl⟩
  obtain ⟨B4, L34⟩ := newB HT hw4
  have L4 : Hid (Below w.heap.size w w4) := (show Below _ _ _ from L3.out.trans (L34.out.mono L3.out.size))
  have X4 := hide (H.out.x.kept L4.out)
  have HW4 := hide hw4
  clear hB hD hM hb3 hw4
  rw [HN.out]
  go_wp2_with (first
    | (change wpList _ _ _ (_ :: []) _ (w3.alloc (.cells (TC ⟨0, S, Db, 0, none, 0, []⟩ ⟨n, st, [], [], 0⟩).toArray 91 (0, 0))); rw [← HW4.out, HT.out]; refine wpList_store_pt rfl 57 szp _ _ rfl X 1 59 _ _ rfl rfl X4.out (by simp) ?_; intro w5 hb5 hu5)
    | fail)
  go_ret
  have h2 := L2.out.size
  have h1 := L1.out.size
  have hdm := HDM.out
  have hb5' := hBX.out
  have hs2 : S < w2.heap.size := SS.out.lt
  have hS1 : w1.heap.size ≤ S := Nat.le_of_eq HS.out
  have hT3 : w3.heap.size ≤ T := Nat.le_of_eq HT.out
  have h3 := L23.out.size
  have C45 : Chg (fun k => k = X) w4 w5 := Chg.of_but hu5 rfl
  have S4 : SetS w4 S [] := (SS.out.chg (F := fun _ => False) (Chg.of_below L23.out) (fun h => h)).chg (F := fun _ => False) (Chg.of_below L34.out) (fun h => h)
  have B4' : BAt w4 Db M [] := HB.out.kept L34.out
  have hTX : T ≠ X := by omega
  have hSX : S ≠ X := by omega
  have hDX : Db ≠ X := by omega
  have hMX : M ≠ X := by omega
  have hSM : S ≠ M := by omega
  have hlo : B ≤ T ∧ B ≤ S ∧ B ≤ M := by omega
  have hge : w.heap.size ≤ T ∧ w.heap.size ≤ S ∧ w.heap.size ≤ M := by omega
  have D5 : Blk w5 T 91 (TC ⟨T, S, Db, M, none, 0, []⟩ ⟨s.last, st, [], [], 0⟩) := by
    rw [HN.out]
    exact B4.out.chg C45 hTX
  have HT5 : TxAt w5 B ⟨T, S, Db, M, none, 0, []⟩ ⟨s.last, st, [], [], 0⟩ := ⟨D5, ownG_nil _ _ _, (fun y hy => by cases hy), rfl, S4.chg C45 hSX, B4'.chg C45 hDX hMX, hSM, hlo, by simp, by simp⟩
  refine ⟨rfl, ⟨T, S, Db, M, none, 0, []⟩, ⟨hb5, hBX.out.1, H.out.id, fun b t e => ?_⟩, (Chg.of_below L4.out).trans C45, ?_⟩
  · cases e
    exact HT5
  · intro k hk
    rcases hk with hk | hk | hk | hk
    · rw [hk]; exact hge.1
    · rw [hk]; exact hge.2.1
    · rw [hk]; exact hge.2.2
    · cases hk
end Go.Proofs.Ytcicekggeampcaa
