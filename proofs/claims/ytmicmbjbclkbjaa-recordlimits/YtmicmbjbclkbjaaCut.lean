/-
  pack.cut, pack.addNum, pack.Num: what the calls do.
-/
import Derived.Test.YtmicmbjbclkbjaaFresh
import Derived.Test.YtmicmbjbclkbjaaPlain
namespace Go.Proofs.Ytmicmbjbclkbjaa
open Go.RowKit

theorem Try.sizeDigits : (Try.prog.info? 83).map (·.size) = some 9 := by kernel_rfl

theorem wpList_load_row {P : Program} {ops : Array Oper} {rest : List Oper} {op : Oper} {a : Act} {w : World} {Q : Exit → Act → World → Prop} (hgd : op.guard = none) (ty : TypeId) (x : Operand) (ho : op.op = .load ty x)
    (g : Nat) (hx : a.eval x = .pointer (some ⟨g, 0, none⟩)) (t : TypeId) (cs : Array Value) (fr : Nat × Nat) (d : TypeDesc) (hg : w.heap[g]? = some (.cells cs t fr))
    (hu : P.underlying ty = some d) (hd : (match d with | .struct _ | .array _ _ => true | _ => false) = true) (hi : (P.info? ty).map (·.size) = some cs.size)
    (h : wpList P ops Q rest (a.put op.dst (.agg cs)) w) : wpList P ops Q (op :: rest) a w := by
  refine wpList_plain hgd fun K hK => ?_
  unfold Oper.wp execOp
  simp only [ho, hx, Instr.loadAt, Instr.sureAddr, Sem.run_bind, Sem.run_pure, Result.andThen_ok, run_loadVar_row w g t ty cs fr d hg hu hd hi]
  exact hK _ _ h

theorem wpList_store_row {P : Program} {ops : Array Oper} {rest : List Oper} {op : Oper} {a : Act} {w : World} {Q : Exit → Act → World → Prop} (hgd : op.guard = none) (ty : TypeId) (x y : Operand) (ho : op.op = .store ty x y)
    (g : Nat) (cells : Array Value) (hx : a.eval x = .pointer (some ⟨g, 0, none⟩)) (hy : a.eval y = .agg cells) (t : TypeId) (old : Array Value)
    (hg : w.heap[g]? = some (.cells old t (0, 0))) (hi : (P.info? ty).map (·.size) = some cells.size) (hold : old.size = cells.size) (h1 : cells.all (·.oneCell') = true)
    (h : wpList P ops Q rest (a.put op.dst undef) (w.setRow g cells)) : wpList P ops Q (op :: rest) a w := by
  refine wpList_plain hgd fun K hK => ?_
  unfold Oper.wp execOp
  simp only [ho, hx, hy, Instr.storeAt, Instr.sureAddr, Sem.run_bind, Sem.run_pure, Result.andThen_ok, run_storeVar_row w g t ty old cells hg hi hold h1]
  exact hK _ _ h

theorem wpList_store_newS {P : Program} {ops : Array Oper} {rest : List Oper} {op : Oper} {a : Act} {w : World} {Q : Exit → Act → World → Prop} (hgd : op.guard = none) (ty : TypeId) (x y : Operand) (ho : op.op = .store ty x y)
    (g : Nat) (cells : Array Value) (hx : a.eval x = .pointer (some ⟨g, 0, none⟩)) (hy : a.eval y = .agg cells) (t : TypeId) (old : Array Value)
    (hg : w.heap[g]? = some (.cells old t (0, 0))) (hi : (P.info? ty).map (·.size) = some cells.size) (hold : old.size = cells.size) (h1 : cells.all (·.oneCell') = true)
    (B : Nat) (w0 : World) (hb : Below B w0 w) (hB : B ≤ g)
    (h : ∀ w', Hid (w'.heap[g]? = some (.cells cells t (0, 0))) → Below B w0 w' → wpList P ops Q rest (a.put op.dst undef) w') : wpList P ops Q (op :: rest) a w :=
  wpList_store_row hgd ty x y ho g cells hx hy t old hg hi hold h1 (h _ (setRow_heap w g old cells t _ hg) (below_setRow hb hB _))

theorem By_setS (L : List UInt8) (q : Nat) (x : UInt8) : (By L).toArray.setIfInBounds q (.int .u8 (x.toNat : Int)) = (By (L.set q x)).toArray := by
  simp [By, List.map_set]
theorem By_all (L : List UInt8) : (By L).toArray.all (·.oneCell') = true :=
  Array.all_eq_true_iff_forall_mem.2 (fun v hv => By_one L v (by simpa using hv))

theorem byte_mod (m : Nat) : Value.int .u8 ((m : Int) % 256) = .int .u8 ((UInt8.ofNat m).toNat : Int) := by
  simp

/-- One round: the byte is laid ahead of those that lie there. -/
theorem row_push {w : World} {g q : Nat} {ds : List UInt8} {t : TypeId} (x : UInt8) (h : w.heap[g]? = some (.cells (By (List.replicate (q + 1) 0 ++ ds)).toArray t (0, 0))) :
    (w.setCell ⟨g, q, none⟩ (.int .u8 (x.toNat : Int))).heap[g]? = some (.cells (By (List.replicate q 0 ++ x :: ds)).toArray t (0, 0)) := by
  rw [heap_setCell_same w g q _ t _ h, By_setS, set_push]

theorem row_cell {w : World} {g q : Nat} {ds : List UInt8} {t : TypeId} (h : w.heap[g]? = some (.cells (By (List.replicate (q + 1) 0 ++ ds)).toArray t (0, 0))) :
    w.cell? ⟨g, q, none⟩ = some (.int .u8 0) ∧ w.frozen? ⟨g, q, none⟩ = false := by
  refine ⟨?_, frozen_of_row w g q _ t h⟩
  rw [cell_of_row w g q _ t _ h]
  simp only [By, List.map_append, List.map_replicate, List.getElem?_toArray]
  rw [List.getElem?_append_left (by simp)]
  simp

theorem two_new (w : World) (o o' : Obj) : ((w.alloc o).alloc o').heap[w.heap.size + 1]? = some o' := by
  have := heap_alloc_new (w.alloc o) o'
  simpa using this

theorem exit_row {w : World} {g q : Nat} {ds : List UInt8} {t : TypeId} {n : Nat} (ha : Hid (arr n = List.replicate q 0 ++ UInt8.ofNat (247 + ds.length) :: ds)) (hq : Hid (ds.length + q = 8))
    (h : Hid (w.heap[g]? = some (.cells (By (List.replicate (q + 1) 0 ++ ds)).toArray t (0, 0)))) :
    (w.setCell ⟨g, q, none⟩ (.int .u8 (247 + (9 - ((q : Int) + 1))))).heap[g]? = some (.cells (By (arr n)).toArray t (0, 0)) := by
  have e : (247 + (9 - ((q : Int) + 1))) = ((247 + ds.length : Nat) : Int) % 256 := by have := hq.out; omega
  rw [e, byte_mod, row_push _ h.out, ha.out]

theorem res28 (tmps : Array Value) (W : World) (g : Nat) (x : Int) (L : List UInt8) (h2 : tmps.getD 2 undef = .pointer (some ⟨g, 0, none⟩)) (h3 : tmps.getD 3 undef = .int .i64 x)
    (hg : W.heap[g]? = some (.cells (By L).toArray 83 (0, 0))) (hL : L.length = 9) : (results Try.f56 tmps).run Try.prog W = .ok (.tuple #[.agg (By L).toArray, .int .i64 x]) W := by
  rw [results_cell_tmp Try.results56, h2, h3]
  have hl := run_loadVar_row (P := Try.prog) W g 83 83 (By L).toArray (0, 0) (.array 9 5) hg Try.underlying83 rfl (by rw [Try.sizeDigits]; simp [By_length, hL])
  simp [asAddr, hl, Result.andThen]

set_option maxRecDepth 100000 in
set_option maxHeartbeats 400000 in
theorem cut_long (n : Nat) (w : World) (h : 248 ≤ n) (h2 : Hid (n < 256 ^ 8)) :
    Calls Try.prog 56 #[.int .u64 n] w fun e w' => e = .returned (.tuple #[.agg (By (arr n)).toArray, .int .i64 ((9 - (enc n).length : Nat) : Int)]) ∧ Below w.heap.size w w' := by
  have hb : (248 : Int) ≤ n := by omega
  go_enter Try.func56, Try.ntmps56
  go_wp2
  go_loopw [0, 5] (fun x y wr => ∃ (m q : Nat) (ds : List UInt8), x = .int .u64 m ∧ y = .int .i64 (q + 1 : Nat) ∧ Hid (m < 256 ^ q) ∧ Hid (ds.length + q = 8) ∧ Hid (dg 8 n = dg q m ++ ds) ∧
      Hid (wr.heap[w.heap.size]? = some (.cells (By (List.replicate 9 0)).toArray 83 (0, 0))) ∧ Hid (wr.heap[w.heap.size + 1]? = some (.cells (By (List.replicate (q + 1) 0 ++ ds)).toArray 83 (0, 0))) ∧ Below w.heap.size w wr)
    (fun x _ _ => (intOf x).toNat)
  case atStart =>
    refine ⟨n, 8, [], rfl, rfl, h2, rfl, ?_, ?_, ?_, ?_⟩
    · exact (List.append_nil _).symm
    · exact (Below.heap_alloc _ _ _ (by simp)).trans (heap_alloc_new w _)
    · exact two_new w _ _
    · exact ((Below.refl _ _).alloc (Nat.le_refl _) _).alloc (by simp) _
  case round =>
    obtain ⟨m, q, ds, rfl, rfl, hm, hq, hd, hb1, hb2, hbel⟩ := hrel
    have hq8 : (q : Int) ≤ 8 := by have := hq.out; omega
    have hq0 : (0 : Int) ≤ q := by omega
    obtain ⟨hc, hf⟩ := row_cell hb2.out
    by_cases hz : 0 < m
    · have hz' : (0 : Int) < m := by omega
      obtain ⟨p, rfl⟩ : ∃ p, q = p + 1 := ⟨q - 1, by have := hm.out; cases q with | zero => simp at this; omega | succ q => simp⟩
      have hp := row_push (UInt8.ofNat m) hb2.out
      rw [← byte_mod] at hp
      have Hp := (show Hid _ from hp)
      clear hp
      go_wp2
      go_roundw
      case rel =>
        refine ⟨m / 256, p, UInt8.ofNat m :: ds, by go_num, by go_num, pow_step p m hm.out, ?_, ?_, ?_, Hp, hbel.setCell (by simp) _⟩
        · have := hq.out; exact (show _ = _ by simp; omega)
        · exact (show _ = _ by rw [hd.out, dg_step p m hz]; simp)
        · exact (heap_setCell_other _ _ _ _ (by simp)).trans hb1.out
      case measure => simp [intOf]; omega
    · have hz' : ¬ (0 : Int) < m := by omega
      obtain rfl : m = 0 := by omega
      have hds : dg 8 n = ds := by have := hd.out; rw [dg_zero] at this; simpa using this
      obtain ⟨ha, he⟩ := arr_of n q ds h hds hq.out
      have HA : Hid (arr n = List.replicate q 0 ++ UInt8.ofNat (247 + ds.length) :: ds) := ha.symm
      have HE : Hid (9 - (enc n).length = q) := he
      clear hds ha he
      go_wp2_with (first
        | (refine wpList_load_row rfl 83 (.tmp 4) rfl (w.heap.size + 1) rfl 83 (By (arr n)).toArray (0, 0) (.array 9 5) (by exact exit_row HA hq hb2) Try.underlying83 rfl (by rw [Try.sizeDigits]; simp [By_length, arr_length]) ?_)
        | (refine wpList_store_row rfl 83 (.tmp 2) (.tmp 32) rfl w.heap.size (By (arr n)).toArray rfl rfl 83 (By (List.replicate 9 0)).toArray (by exact (heap_setCell_other _ _ _ _ (by simp)).trans hb1.out) (by rw [Try.sizeDigits]; simp [By_length, arr_length]) (by simp [By_length, arr_length]) (By_all _) ?_))
      refine bodyPost_ret (res28 _ _ w.heap.size q (arr n) rfl rfl (setRow_heap _ _ (By (List.replicate 9 0)).toArray _ _ _ (by exact (heap_setCell_other _ _ _ _ (by simp)).trans hb1.out)) (arr_length n)) rfl ⟨by rw [HE.out], ?_⟩
      exact below_setRow (hbel.setCell (by simp) _) (Nat.le_refl _) _

set_option maxRecDepth 100000 in
set_option maxHeartbeats 400000 in
theorem cut_short (n : Nat) (w : World) (h : n < 248) :
    Calls Try.prog 56 #[.int .u64 n] w fun e w' => e = .returned (.tuple #[.agg (By (arr n)).toArray, .int .i64 ((9 - (enc n).length : Nat) : Int)]) ∧ Below w.heap.size w w' := by
  have hb : (n : Int) < 248 := by omega
  obtain ⟨ha, he⟩ := arr_short h
  have e8 : Value.int .u8 (n : Int) = .int .u8 ((UInt8.ofNat n).toNat : Int) := by rw [← byte_mod]; congr 1; omega
  have HA : Hid (By (arr n) = [.int .u8 0, .int .u8 0, .int .u8 0, .int .u8 0, .int .u8 0, .int .u8 0, .int .u8 0, .int .u8 0, .int .u8 n]) := by rw [ha, e8]; rfl
  have HE : Hid (9 - (enc n).length = 8) := he
  clear ha he e8
  go_enter Try.func56, Try.ntmps56
  go_wp2
  refine bodyPost_ret (v := .tuple #[.agg (By (arr n)).toArray, .int .i64 8]) (by rw [HA.out]; simp [results, Try.results56, go_sem]) rfl ⟨by rw [HE.out]; rfl, ?_⟩
  exact ((Below.refl _ _).alloc (Nat.le_refl _) _).alloc (by simp) _

theorem cut_any (n : Nat) (w : World) (h2 : Hid (n < 256 ^ 8)) :
    Calls Try.prog 56 #[.int .u64 n] w fun e w' => e = .returned (.tuple #[.agg (By (arr n)).toArray, .int .i64 ((9 - (enc n).length : Nat) : Int)]) ∧ Below w.heap.size w w' := by
  rcases Nat.lt_or_ge n 248 with h | h
  · exact cut_short n w h
  · exact cut_long n w h h2
#print axioms cut_any
end Go.Proofs.Ytmicmbjbclkbjaa
