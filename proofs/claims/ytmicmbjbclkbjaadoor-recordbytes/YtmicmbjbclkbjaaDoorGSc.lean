/-
  Texts that ride together: Fresh Plain Cut Num Ref Get Plain2 RefGet Plain3 PkA PkG.
-/
import Derived.Test.YtmicmbjbclkbjaaDoorChecked
import Derived.Test.YtmicmbjbclkbjaaDoorGK
import Derived.Deep.QuietTactic
import Derived.BigQuiet
/-
  pack.fresh, bytes.Equal: what the calls do.
-/
namespace Go.Proofs.YtmicmbjbclkbjaaDoor
open Go.RowKit

theorem Tryd.info5S : (Tryd.prog.info? 5).map (fun i => (i.zero, i.size, i.bytes)) = some (some (.int .u8 0), 1, 1) := by kernel_rfl
theorem Tryd.size5S : (Tryd.prog.info? 5).map (·.size) = some 1 := by kernel_rfl

theorem wpList_make_bytesS {P : Program} (w : World) {ops : Array Oper} {rest : List Oper} {o : Oper} {a : Act} {Q : Exit → Act → World → Prop}
    (hg : o.guard = none) (l c : Operand) (t : TypeId) (hop : o.op = Op.makeSlice t l c)
    (i : TypeInfo) (h1 : P.underlying t = some (.slice 5)) (h2 : P.info? 5 = some i) (h3 : i.zero = some (.int .u8 0)) (h4 : i.size = 1) (h5 : i.bytes = 1)
    (kl kc : IntKind) (L C : Int) (n m : Nat) (hl : a.eval l = .int kl L) (hc : a.eval c = .int kc C) (hL : L = (n : Int)) (hC : C = (m : Int)) (hnm : n ≤ m) (b2 : m ≤ 281474976710656)
    (hK : wpList P ops Q rest (a.put o.dst (.slice (some ⟨w.heap.size, 0, none⟩) n m)) (w.alloc (.cells (List.replicate m (Value.int .u8 0)).toArray 5))) :
    wpList P ops Q (o :: rest) a w := by
  refine wpList_plain hg fun K hK' => ?_
  subst hL
  subst hC
  have hrun := run_make (P := P) w t 5 i (.int .u8 0) h1 h2 h3 kl kc n m (by omega) (by omega) (by rw [h5]; omega) (by omega)
  have e : madeCells (Value.int .u8 0).cells ((m : Int).toNat * i.size) = (List.replicate m (Value.int .u8 0)).toArray := by
    apply Array.ext'
    rw [h4]
    show (madeCells #[Value.int .u8 0] _).toList = _
    rw [toList_madeCells_one]
    simp
  rw [e] at hrun
  simp only [Int.toNat_natCast] at hrun
  unfold Oper.wp
  simp only [execOp, hop, hl, hc, hrun, Result.andThen, Sem.run_bind, Sem.run_pure]
  exact hK' _ _ hK

theorem Own_of_row {w : World} {B g C : Nat} {l : List UInt8} (h : w.heap[g]? = some (.cells (splice (List.replicate C (Value.int .u8 0)) 0 (By l)).toArray 5 (0, 0))) (hB : B ≤ g) (hl : l.length ≤ C) (hC : C ≤ maxLen) :
    Own w B (.slice (some ⟨g, 0, none⟩) l.length C) l := by
  refine ⟨by simp [By_length], .inr ⟨g, C, _, rfl, hB, h, hl, hC, ?_, ?_⟩⟩
  · simp only [List.size_toArray, Nat.mul_one]
    rw [length_splice]
    · simp
    · simp [By_length]; omega
  · simp only [Nat.mul_one, splice, List.take_zero, List.nil_append]
    rw [← By_length l]
    exact List.take_left

set_option maxHeartbeats 400000 in
theorem fresh_any (v : Value) (l : List UInt8) (m : Nat) (w : World) (hr : Rd w v l) (hm : l.length + m ≤ 140737488355328) :
    Calls Tryd.prog 82 #[v, .int .i64 m] w fun e w' => ∃ v', e = .returned v' ∧ Own w' w.heap.size v' l ∧ Below w.heap.size w w' := by
  have hr0 := hr
  obtain ⟨a, cap, rfl, h1, h2, h3, h4⟩ := hr
  obtain ⟨i0, hi, hz0, hz1, hz2⟩ := info_parts Tryd.info5S
  have hmx : (l.length : Int) + m ≤ 140737488355328 := by omega
  go_enter Tryd.func82, Tryd.ntmps82
  go_wp2_with (first
    | (at_make; refine wpList_make_bytesS _ rfl _ _ 28 rfl i0 Tryd.underlying28 hi hz0 hz1 hz2 _ _ _ _ l.length (l.length + m) rfl rfl rfl (by omega) (by omega) (by omega) ?_)
    | (refine wpList_copy_splice rfl (.tmp 13) (.tmp 14) 28 28 rfl 5 Tryd.underlying28 Tryd.size5S _ _ _ _ _ _ rfl rfl w.heap.size 0 (List.replicate (l.length + m) (Value.int .u8 0)) 5 (heap_alloc_new w _) (By l) (by simp [By_length]) ?_ (by simp [By_length]) (By_one l) w.heap.size w ((Below.refl _ _).alloc (Nat.le_refl _) _) (Nat.le_refl _) ?_; rotate_left; intro w2 HG2 hB2))
  · go_ret
    exact ⟨_, rfl, Own_of_row HG2.out (Nat.le_refl _) (by omega) (by simp only [maxLen]; omega), hB2⟩
  · intro hpos
    rw [By_length] at hpos
    obtain ⟨b, off, rfl, hlt, hc⟩ := h4 hpos
    exact ⟨_, rfl, fun j u hj => by rw [Addr.add_lit]; exact (((Below.refl w.heap.size w).alloc (Nat.le_refl _) _).cell (p := ⟨b, off + j, none⟩) hlt).trans (hc j u hj)⟩

set_option maxHeartbeats 400000 in
theorem equal_any (v u : Value) (l m : List UInt8) (w : World) (hv : Rd w v l) (hu : Rd w u m) :
    Calls Tryd.prog 71 #[v, u] w fun e w' => e = .returned (.bool (l == m)) ∧ w' = w := by
  have c1 := hv.conv (P := Tryd.prog) 28 9 Tryd.underlying28 Tryd.underlying5 Tryd.underlying9
  have c2 := hu.conv (P := Tryd.prog) 28 9 Tryd.underlying28 Tryd.underlying5 Tryd.underlying9
  obtain ⟨a, cap, rfl, -⟩ := hv
  obtain ⟨b, cap', rfl, -⟩ := hu
  go_enter Tryd.func71, Tryd.ntmps71
  go_wp2
  go_ret
  exact ⟨rfl, rfl⟩
#print axioms fresh_any
#print axioms equal_any
end Go.Proofs.YtmicmbjbclkbjaaDoor

/-
  Plain mathematics of the packed numbers and texts: no program is spoken of.
-/
namespace Go.Proofs.YtmicmbjbclkbjaaDoor

/-- The bytes of n, the greatest first, at most f of them. -/
def dg : Nat → Nat → List UInt8
  | 0, _ => []
  | f + 1, n => if n = 0 then [] else dg f (n / 256) ++ [UInt8.ofNat n]

theorem dg_zero (f : Nat) : dg f 0 = [] := by cases f <;> simp [dg]
theorem dg_step (f n : Nat) (h : 0 < n) : dg (f + 1) n = dg f (n / 256) ++ [UInt8.ofNat n] := by
  simp only [dg]; rw [if_neg (by omega)]
theorem dg_length_le (f : Nat) : ∀ n, (dg f n).length ≤ f := by
  induction f with
  | zero => intro n; simp [dg]
  | succ f ih => intro n; simp only [dg]; split <;> simp; exact ih _

/-- THE NUMBER. -/
def enc (n : Nat) : List UInt8 := if n < 248 then [UInt8.ofNat n] else UInt8.ofNat (247 + (dg 8 n).length) :: dg 8 n

theorem enc_short {n : Nat} (h : n < 248) : enc n = [UInt8.ofNat n] := by simp [enc, h]
theorem enc_long {n : Nat} (h : 248 ≤ n) : enc n = UInt8.ofNat (247 + (dg 8 n).length) :: dg 8 n := by
  unfold enc; rw [if_neg (by omega)]
/-- A text. -/
def encS (m : List UInt8) : List UInt8 := enc m.length ++ m
/-- Texts, each behind the other. -/
def encT : List (List UInt8) → List UInt8
  | [] => []
  | m :: r => encS m ++ encT r
/-- A list of texts. -/
def encL (l : List (List UInt8)) : List UInt8 := enc l.length ++ encT l
theorem encT_append (l m : List (List UInt8)) : encT (l ++ m) = encT l ++ encT m := by
  induction l with
  | nil => rfl
  | cons x r ih => simp [encT, ih]
theorem enc_length (n : Nat) : 1 ≤ (enc n).length ∧ (enc n).length ≤ 9 := by
  unfold enc
  have := dg_length_le 8 n
  split <;> simp; omega

/-- The array that the digits are pushed to the end of. -/
def arr (n : Nat) : List UInt8 := List.replicate (9 - (enc n).length) 0 ++ enc n
theorem arr_length (n : Nat) : (arr n).length = 9 := by
  have := enc_length n
  simp [arr]; omega
theorem arr_drop (n : Nat) : (arr n).drop (9 - (enc n).length) = enc n := by
  unfold arr
  rw [List.drop_left' (by simp)]

theorem arr_of (n q : Nat) (ds : List UInt8) (h : 248 ≤ n) (hd : dg 8 n = ds) (hq : ds.length + q = 8) : List.replicate q 0 ++ UInt8.ofNat (247 + ds.length) :: ds = arr n ∧ 9 - (enc n).length = q := by
  subst hd
  have e : 9 - (enc n).length = q := by rw [enc_long h]; simp; omega
  refine ⟨?_, e⟩
  unfold arr
  rw [e, enc_long h]
theorem arr_short {n : Nat} (h : n < 248) : arr n = [0, 0, 0, 0, 0, 0, 0, 0, UInt8.ofNat n] ∧ 9 - (enc n).length = 8 := by
  unfold arr
  rw [enc_short h]
  exact ⟨rfl, rfl⟩

theorem pow_step (q m : Nat) (h : m < 256 ^ (q + 1)) : m / 256 < 256 ^ q := by
  rw [Nat.pow_succ] at h
  exact Nat.div_lt_of_lt_mul (by omega)

theorem set_push (q : Nat) (x : UInt8) (ds : List UInt8) : (List.replicate (q + 1) 0 ++ ds).set q x = List.replicate q 0 ++ x :: ds := by
  apply List.ext_getElem?
  intro j
  rw [List.getElem?_set]
  by_cases h : q = j
  · subst h
    simp
    omega
  · rw [if_neg h]
    rcases Nat.lt_or_ge j q with h1 | h1
    · rw [List.getElem?_append_left (by simp; omega), List.getElem?_append_left (by simpa using h1)]
      simp [h1, Nat.lt_succ_of_lt h1]
    · rw [List.getElem?_append_right (by simp; omega), List.getElem?_append_right (by simpa using h1)]
      obtain ⟨d, rfl⟩ : ∃ d, j = q + 1 + d := ⟨j - q - 1, by omega⟩
      simp only [List.length_replicate]
      rw [show q + 1 + d - (q + 1) = d from by omega, show q + 1 + d - q = d + 1 from by omega]
      simp

/-- The number that bytes are, the greatest first. -/
def val (l : List UInt8) : Nat := l.foldl (fun n x => n * 256 + x.toNat) 0
theorem val_snoc (l : List UInt8) (x : UInt8) : val (l ++ [x]) = val l * 256 + x.toNat := by simp [val]
theorem val_take (l : List UInt8) (i : Nat) (h : i < l.length) : val (l.take (i + 1)) = val (l.take i) * 256 + l[i].toNat := by
  rw [List.take_succ_eq_append_getElem h, val_snoc]
theorem val_lt_rev : ∀ l : List UInt8, val l.reverse < 256 ^ l.length
  | [] => by simp [val]
  | x :: l => by
    have := val_lt_rev l
    have hx := x.toNat_lt
    rw [List.reverse_cons, val_snoc, List.length_cons, Nat.pow_succ]
    omega
theorem val_lt (l : List UInt8) : val l < 256 ^ l.length := by
  have := val_lt_rev l.reverse
  simpa using this

/-- What the number at the begin of bytes is: the number, how many bytes it has, whether there is one. -/
def gn : List UInt8 → Nat × Nat × Bool
  | [] => (0, 0, false)
  | x :: r =>
    if x.toNat < 248 then (x.toNat, 1, true)
    else if r.length < x.toNat - 247 then (0, 0, false)
    else if enc (val (r.take (x.toNat - 247))) = x :: r.take (x.toNat - 247) then (val (r.take (x.toNat - 247)), x.toNat - 246, true)
    else (0, 0, false)

theorem val_bound {l : List UInt8} (h : l.length ≤ 7) : val l < 72057594037927936 := by
  refine Nat.lt_of_lt_of_le (val_lt l) ?_
  have : (256 : Nat) ^ 7 = 72057594037927936 := by decide
  rw [← this]
  exact Nat.pow_le_pow_right (by decide) h
theorem take_get (r : List UInt8) (k i : Nat) (hi : i < (r.take k).length) : r[i]? = some (r.take k)[i] := by
  simp at hi
  rw [List.getElem_take]
  exact List.getElem?_eq_getElem (by omega)
theorem gn_long {x : UInt8} {r d : List UInt8} {k n : Nat} (hx : x.toNat = 247 + k) (hk : 1 ≤ k) (hr : ¬ r.length < k) (hd : d = r.take k) (hn : val d = n) :
    gn (x :: r) = if enc n = x :: d then (n, k + 1, true) else (0, 0, false) := by
  subst hn
  subst hd
  simp only [gn]
  rw [if_neg (by omega), if_neg (by omega)]
  rw [show x.toNat - 247 = k from by omega, show x.toNat - 246 = k + 1 from by omega]
end Go.Proofs.YtmicmbjbclkbjaaDoor

/-
  pack.cut, pack.addNum, pack.Num: what the calls do.
-/
namespace Go.Proofs.YtmicmbjbclkbjaaDoor
open Go.RowKit

theorem Tryd.sizeDigits : (Tryd.prog.info? 93).map (·.size) = some 9 := by kernel_rfl

theorem wpList_load_row {P : Program} {ops : Array Oper} {rest : List Oper} {op : Oper} {a : Act} {w : World} {Q : Exit → Act → World → Prop} (hgd : op.guard = none) (ty : TypeId) (x : Operand) (ho : op.op = .load ty x)
    (g : Nat) (hx : a.eval x = .pointer (some ⟨g, 0, none⟩)) (t : TypeId) (cs : Array Value) (fr : Nat × Nat) (d : TypeDesc) (hg : w.heap[g]? = some (.cells cs t fr))
    (hu : P.underlying ty = some d) (hd : (match d with | .struct _ | .array _ _ => true | _ => false) = true) (hi : (P.info? ty).map (·.size) = some cs.size)
    (h : wpList P ops Q rest (a.put op.dst (.agg cs)) w) : wpList P ops Q (op :: rest) a w := by
  refine wpList_plain hgd fun K hK => ?_
  unfold Oper.wp execOp
  simp only [ho, hx, Instr.loadAt, Instr.sureAddr, Sem.run_bind, Sem.run_pure, Result.andThen_ok, run_loadVar_row w g t ty cs fr d hg hu hd hi]
  exact hK _ _ h

theorem wpList_store_row {P : Program} {ops : Array Oper} {rest : List Oper} {op : Oper} {a : Act} {w : World} {Q : Exit → Act → World → Prop} (hgd : op.guard = none) (ty : TypeId) (x y : Operand) (ho : op.op = .store ty x y)
    (g : Nat) (cells : Array Value) (hx : a.eval x = .pointer (some ⟨g, 0, none⟩)) (hy : a.eval y = .agg cells) (t : TypeId) (old : Array Value)
    (hg : w.heap[g]? = some (.cells old t (0, 0))) (hi : (P.info? ty).map (·.size) = some cells.size) (hold : old.size = cells.size) (h1 : cells.all (·.oneCell') = true)
    (h : wpList P ops Q rest (a.put op.dst undef) (w.setRow g cells)) : wpList P ops Q (op :: rest) a w := by
  refine wpList_plain hgd fun K hK => ?_
  unfold Oper.wp execOp
  simp only [ho, hx, hy, Instr.storeAt, Instr.sureAddr, Sem.run_bind, Sem.run_pure, Result.andThen_ok, run_storeVar_row w g t ty old cells hg hi hold h1]
  exact hK _ _ h

theorem wpList_store_newS {P : Program} {ops : Array Oper} {rest : List Oper} {op : Oper} {a : Act} {w : World} {Q : Exit → Act → World → Prop} (hgd : op.guard = none) (ty : TypeId) (x y : Operand) (ho : op.op = .store ty x y)
    (g : Nat) (cells : Array Value) (hx : a.eval x = .pointer (some ⟨g, 0, none⟩)) (hy : a.eval y = .agg cells) (t : TypeId) (old : Array Value)
    (hg : w.heap[g]? = some (.cells old t (0, 0))) (hi : (P.info? ty).map (·.size) = some cells.size) (hold : old.size = cells.size) (h1 : cells.all (·.oneCell') = true)
    (B : Nat) (w0 : World) (hb : Below B w0 w) (hB : B ≤ g)
    (h : ∀ w', Hid (w'.heap[g]? = some (.cells cells t (0, 0))) → Below B w0 w' → wpList P ops Q rest (a.put op.dst undef) w') : wpList P ops Q (op :: rest) a w :=
  wpList_store_row hgd ty x y ho g cells hx hy t old hg hi hold h1 (h _ (setRow_heap w g old cells t _ hg) (below_setRow hb hB _))

theorem By_setS (L : List UInt8) (q : Nat) (x : UInt8) : (By L).toArray.setIfInBounds q (.int .u8 (x.toNat : Int)) = (By (L.set q x)).toArray := by
  simp [By, List.map_set]
theorem By_all (L : List UInt8) : (By L).toArray.all (·.oneCell') = true :=
  Array.all_eq_true_iff_forall_mem.2 (fun v hv => By_one L v (by simpa using hv))

theorem byte_mod (m : Nat) : Value.int .u8 ((m : Int) % 256) = .int .u8 ((UInt8.ofNat m).toNat : Int) := by
  simp

/-- One round: the byte is laid ahead of those that lie there. -/
theorem row_push {w : World} {g q : Nat} {ds : List UInt8} {t : TypeId} (x : UInt8) (h : w.heap[g]? = some (.cells (By (List.replicate (q + 1) 0 ++ ds)).toArray t (0, 0))) :
    (w.setCell ⟨g, q, none⟩ (.int .u8 (x.toNat : Int))).heap[g]? = some (.cells (By (List.replicate q 0 ++ x :: ds)).toArray t (0, 0)) := by
  rw [heap_setCell_same w g q _ t _ h, By_setS, set_push]

theorem row_cell {w : World} {g q : Nat} {ds : List UInt8} {t : TypeId} (h : w.heap[g]? = some (.cells (By (List.replicate (q + 1) 0 ++ ds)).toArray t (0, 0))) :
    w.cell? ⟨g, q, none⟩ = some (.int .u8 0) ∧ w.frozen? ⟨g, q, none⟩ = false := by
  refine ⟨?_, frozen_of_row w g q _ t h⟩
  rw [cell_of_row w g q _ t _ h]
  simp only [By, List.map_append, List.map_replicate, List.getElem?_toArray]
  rw [List.getElem?_append_left (by simp)]
  simp

theorem two_new (w : World) (o o' : Obj) : ((w.alloc o).alloc o').heap[w.heap.size + 1]? = some o' := by
  have := heap_alloc_new (w.alloc o) o'
  simpa using this

theorem exit_row {w : World} {g q : Nat} {ds : List UInt8} {t : TypeId} {n : Nat} (ha : Hid (arr n = List.replicate q 0 ++ UInt8.ofNat (247 + ds.length) :: ds)) (hq : Hid (ds.length + q = 8))
    (h : Hid (w.heap[g]? = some (.cells (By (List.replicate (q + 1) 0 ++ ds)).toArray t (0, 0)))) :
    (w.setCell ⟨g, q, none⟩ (.int .u8 (247 + (9 - ((q : Int) + 1))))).heap[g]? = some (.cells (By (arr n)).toArray t (0, 0)) := by
  have e : (247 + (9 - ((q : Int) + 1))) = ((247 + ds.length : Nat) : Int) % 256 := by have := hq.out; omega
  rw [e, byte_mod, row_push _ h.out, ha.out]

theorem res28 (tmps : Array Value) (W : World) (g : Nat) (x : Int) (L : List UInt8) (h2 : tmps.getD 2 undef = .pointer (some ⟨g, 0, none⟩)) (h3 : tmps.getD 3 undef = .int .i64 x)
    (hg : W.heap[g]? = some (.cells (By L).toArray 93 (0, 0))) (hL : L.length = 9) : (results Tryd.f70 tmps).run Tryd.prog W = .ok (.tuple #[.agg (By L).toArray, .int .i64 x]) W := by
  rw [results_cell_tmp Tryd.results70, h2, h3]
  have hl := run_loadVar_row (P := Tryd.prog) W g 93 93 (By L).toArray (0, 0) (.array 9 5) hg Tryd.underlying93 rfl (by rw [Tryd.sizeDigits]; simp [By_length, hL])
  simp [asAddr, hl, Result.andThen]

set_option maxRecDepth 100000 in
set_option maxHeartbeats 400000 in
theorem cut_long (n : Nat) (w : World) (h : 248 ≤ n) (h2 : Hid (n < 256 ^ 8)) :
    Calls Tryd.prog 70 #[.int .u64 n] w fun e w' => e = .returned (.tuple #[.agg (By (arr n)).toArray, .int .i64 ((9 - (enc n).length : Nat) : Int)]) ∧ Below w.heap.size w w' := by
  have hb : (248 : Int) ≤ n := by omega
  go_enter Tryd.func70, Tryd.ntmps70
  go_wp2
  go_loopw [0, 5] (fun x y wr => ∃ (m q : Nat) (ds : List UInt8), x = .int .u64 m ∧ y = .int .i64 (q + 1 : Nat) ∧ Hid (m < 256 ^ q) ∧ Hid (ds.length + q = 8) ∧ Hid (dg 8 n = dg q m ++ ds) ∧
      Hid (wr.heap[w.heap.size]? = some (.cells (By (List.replicate 9 0)).toArray 93 (0, 0))) ∧ Hid (wr.heap[w.heap.size + 1]? = some (.cells (By (List.replicate (q + 1) 0 ++ ds)).toArray 93 (0, 0))) ∧ Below w.heap.size w wr)
    (fun x _ _ => (intOf x).toNat)
  case atStart =>
    refine ⟨n, 8, [], rfl, rfl, h2, rfl, ?_, ?_, ?_, ?_⟩
    · exact (List.append_nil _).symm
    · exact (Below.heap_alloc _ _ _ (by simp)).trans (heap_alloc_new w _)
    · exact two_new w _ _
    · exact ((Below.refl _ _).alloc (Nat.le_refl _) _).alloc (by simp) _
  case round =>
    obtain ⟨m, q, ds, rfl, rfl, hm, hq, hd, hb1, hb2, hbel⟩ := hrel
    have hq8 : (q : Int) ≤ 8 := by have := hq.out; omega
    have hq0 : (0 : Int) ≤ q := by omega
    obtain ⟨hc, hf⟩ := row_cell hb2.out
    by_cases hz : 0 < m
    · have hz' : (0 : Int) < m := by omega
      obtain ⟨p, rfl⟩ : ∃ p, q = p + 1 := ⟨q - 1, by have := hm.out; cases q with | zero => simp at this; omega | succ q => simp⟩
      have hp := row_push (UInt8.ofNat m) hb2.out
      rw [← byte_mod] at hp
      have Hp := (show Hid _ from hp)
      clear hp
      go_wp2
      go_roundw
      case rel =>
        refine ⟨m / 256, p, UInt8.ofNat m :: ds, by go_num, by go_num, pow_step p m hm.out, ?_, ?_, ?_, Hp, hbel.setCell (by simp) _⟩
        · have := hq.out; exact (show _ = _ by simp; omega)
        · exact (show _ = _ by rw [hd.out, dg_step p m hz]; simp)
        · exact (heap_setCell_other _ _ _ _ (by simp)).trans hb1.out
      case measure => simp [intOf]; omega
    · have hz' : ¬ (0 : Int) < m := by omega
      obtain rfl : m = 0 := by omega
      have hds : dg 8 n = ds := by have := hd.out; rw [dg_zero] at this; simpa using this
      obtain ⟨ha, he⟩ := arr_of n q ds h hds hq.out
      have HA : Hid (arr n = List.replicate q 0 ++ UInt8.ofNat (247 + ds.length) :: ds) := ha.symm
      have HE : Hid (9 - (enc n).length = q) := he
      clear hds ha he
      go_wp2_with (first
        | (refine wpList_load_row rfl 93 (.tmp 4) rfl (w.heap.size + 1) rfl 93 (By (arr n)).toArray (0, 0) (.array 9 5) (by exact exit_row HA hq hb2) Tryd.underlying93 rfl (by rw [Tryd.sizeDigits]; simp [By_length, arr_length]) ?_)
        | (refine wpList_store_row rfl 93 (.tmp 2) (.tmp 32) rfl w.heap.size (By (arr n)).toArray rfl rfl 93 (By (List.replicate 9 0)).toArray (by exact (heap_setCell_other _ _ _ _ (by simp)).trans hb1.out) (by rw [Tryd.sizeDigits]; simp [By_length, arr_length]) (by simp [By_length, arr_length]) (By_all _) ?_))
      refine bodyPost_ret (res28 _ _ w.heap.size q (arr n) rfl rfl (setRow_heap _ _ (By (List.replicate 9 0)).toArray _ _ _ (by exact (heap_setCell_other _ _ _ _ (by simp)).trans hb1.out)) (arr_length n)) rfl ⟨by rw [HE.out], ?_⟩
      exact below_setRow (hbel.setCell (by simp) _) (Nat.le_refl _) _

set_option maxRecDepth 100000 in
set_option maxHeartbeats 400000 in
theorem cut_short (n : Nat) (w : World) (h : n < 248) :
    Calls Tryd.prog 70 #[.int .u64 n] w fun e w' => e = .returned (.tuple #[.agg (By (arr n)).toArray, .int .i64 ((9 - (enc n).length : Nat) : Int)]) ∧ Below w.heap.size w w' := by
  have hb : (n : Int) < 248 := by omega
  obtain ⟨ha, he⟩ := arr_short h
  have e8 : Value.int .u8 (n : Int) = .int .u8 ((UInt8.ofNat n).toNat : Int) := by rw [← byte_mod]; congr 1; omega
  have HA : Hid (By (arr n) = [.int .u8 0, .int .u8 0, .int .u8 0, .int .u8 0, .int .u8 0, .int .u8 0, .int .u8 0, .int .u8 0, .int .u8 n]) := by rw [ha, e8]; rfl
  have HE : Hid (9 - (enc n).length = 8) := he
  clear ha he e8
  go_enter Tryd.func70, Tryd.ntmps70
  go_wp2
  refine bodyPost_ret (v := .tuple #[.agg (By (arr n)).toArray, .int .i64 8]) (by rw [HA.out]; simp [results, Tryd.results70, go_sem]) rfl ⟨by rw [HE.out]; rfl, ?_⟩
  exact ((Below.refl _ _).alloc (Nat.le_refl _) _).alloc (by simp) _

theorem cut_any (n : Nat) (w : World) (h2 : Hid (n < 256 ^ 8)) :
    Calls Tryd.prog 70 #[.int .u64 n] w fun e w' => e = .returned (.tuple #[.agg (By (arr n)).toArray, .int .i64 ((9 - (enc n).length : Nat) : Int)]) ∧ Below w.heap.size w w' := by
  rcases Nat.lt_or_ge n 248 with h | h
  · exact cut_short n w h
  · exact cut_long n w h h2
#print axioms cut_any
end Go.Proofs.YtmicmbjbclkbjaaDoor

/-
  pack.addNum, pack.Num, pack.addStr, pack.Str, pack.Flag: what the calls do.
-/
namespace Go.Proofs.YtmicmbjbclkbjaaDoor
open Go.RowKit

theorem cut_k (n k : Nat) (w : World) (h2 : Hid (n < 256 ^ 8)) (hk : Hid (9 - (enc n).length = k)) :
    Calls Tryd.prog 70 #[.int .u64 n] w fun e w' => e = .returned (.tuple #[.agg (By (arr n)).toArray, .int .i64 (k : Int)]) ∧ Below w.heap.size w w' := by
  have := cut_any n w h2
  rw [hk.out] at this
  exact this

theorem sliceDigits (g k : Nat) (hk : k ≤ 8) (W : World) : (Instr.sliceAt 93 (.pointer (some ⟨g, 0, none⟩)) (some (.int .i64 (k : Int))) none none).run Tryd.prog W = .ok (.slice (some ⟨g, k, none⟩) (9 - k) (9 - k)) W := by
  have h9 : (k : Int) ≤ 9 := by omega
  have hn : ¬ 9 = k := by omega
  simp [Instr.sliceAt, Instr.sureAddr, run_underlying Tryd.underlying93, Instr.sliceBounds, run_sliceBound, h9, hn, Addr.add_lit]

theorem rd_arr {W : World} {g k n : Nat} (hk : Hid (k + (enc n).length = 9)) (hg : W.heap[g]? = some (.cells (By (arr n)).toArray 93 (0, 0))) :
    Rd W (.slice (some ⟨g, k, none⟩) (9 - k) (9 - k)) (enc n) := by
  have hk' := hk.out
  have e : 9 - k = (enc n).length := by omega
  rw [e]
  refine ⟨_, _, rfl, Nat.le_refl _, ?_, fun h => by simp at h, fun _ => ⟨g, k, rfl, (Array.getElem?_eq_some_iff.1 hg).1, fun j u hj => ?_⟩⟩
  · have := enc_length n; simp only [maxLen]; omega
  · rw [cell_of_row W g (k + j) _ 93 _ hg]
    have ea : arr n = List.replicate k 0 ++ enc n := by unfold arr; rw [show 9 - (enc n).length = k from by omega]
    simp only [List.getElem?_toArray]
    rw [ea, By_append, List.getElem?_append_right (by simp [By_length])]
    simpa [By_length] using hj

set_option maxRecDepth 100000 in
set_option maxHeartbeats 400000 in
theorem addNum_any (v : Value) (l : List UInt8) (n B : Nat) (w : World) (h : Own w B v l) (hB : B ≤ w.heap.size) (h2 : Hid (n < 256 ^ 8)) (hl : l.length ≤ 140737488300000) :
    Calls Tryd.prog 81 #[v, .int .u64 n] w fun e w' => ∃ v', e = .returned v' ∧ Own w' B v' (l ++ enc n) ∧ Below B w w' := by
  obtain ⟨i0, hi, hz0, hz1, hz2⟩ := info_parts Tryd.info5S
  have hel := enc_length n
  obtain ⟨k, HK⟩ : ∃ k, Hid (9 - (enc n).length = k) := ⟨_, rfl⟩
  have hk8 : (k : Int) ≤ 8 := by have := HK.out; omega
  have hk0 : (0 : Int) ≤ k := by omega
  have hke : k + (enc n).length = 9 := by have := HK.out; omega
  have HKE : Hid (k + (enc n).length = 9) := hke
  clear hel hke
  go_enter Tryd.func81, Tryd.ntmps81
  go_wp2_with fail
  refine (cut_k n k _ h2 HK).mono ?_
  rintro e w1 ⟨rfl, hb1⟩
  have hsl := sliceDigits w1.heap.size k (by omega)
  have ho1 := h.kept hb1
  go_wp2_with (first
        | (at_builtin; refine wpList_append_bytes _ rfl (.tmp 12) (.tmp 14) 28 28 rfl B i0 Tryd.underlying28 hi hz0 hz1 hz2 v l rfl (by exact ho1.kept (below_setRow ((Below.refl _ _).alloc (Nat.le_refl _) _) (Nat.le_refl _) _)) _ (enc n) rfl (by exact (rd_arr HKE (setRow_heap _ _ _ _ _ _ (heap_alloc_new w1 _))).src 28 Tryd.underlying28) (by have := HKE.out; omega) (by have := hb1.size; simp [World.setRow]; omega) ?_; intro v' w' hown hbel)
        | (refine wpList_store_row rfl 93 (.tmp 5) (.tmp 10) rfl w1.heap.size (By (arr n)).toArray rfl rfl 93 (By (List.replicate 9 0)).toArray (heap_alloc_new w1 _) (by rw [Tryd.sizeDigits]; simp [By_length, arr_length]) (by simp [By_length, arr_length]) (By_all _) ?_))
  go_ret
  exact ⟨_, rfl, hown, ((hb1.mono hB).trans (below_setRow ((Below.refl _ _).alloc (by have := hb1.size; omega) _) (by have := hb1.size; omega) _)).trans hbel⟩

theorem num_any (v : Value) (l : List UInt8) (n : Nat) (w : World) (h : Rd w v l) (h2 : Hid (n < 256 ^ 8)) (hl : l.length ≤ 140737488300000) :
    Calls Tryd.prog 65 #[v, .int .u64 n] w fun e w' => ∃ v', e = .returned v' ∧ Own w' w.heap.size v' (l ++ enc n) ∧ Below w.heap.size w w' := by
  go_enter Tryd.func65, Tryd.ntmps65
  go_wp2_with fail
  refine (fresh_any v l 9 _ h (by omega)).mono ?_
  rintro e w1 ⟨v1, rfl, ho1, hb1⟩
  go_wp2_with fail
  refine (addNum_any v1 l n w.heap.size _ ho1 hb1.size h2 hl).mono ?_
  rintro e w2 ⟨v2, rfl, ho2, hb2⟩
  go_wp2_with fail
  go_ret
  exact ⟨_, rfl, ho2, hb1.trans hb2⟩

#print axioms num_any

/-- A string's bytes. -/
def sl (s : ByteArray) : List UInt8 := s.data.toList
theorem sl_length (s : ByteArray) : (sl s).length = s.size := by unfold sl; rw [Array.length_toList]; rfl
theorem src_str {P : Program} (w : World) (t : TypeId) (hk : P.underlying t = some .string) (s : ByteArray) : Src P 1 t (.string s) (sl s).length (By (sl s)) w := by
  rw [sl_length]
  exact Src.ofString w hk s

theorem small_pow {n : Nat} (h : n ≤ 140737488300000) : Hid (n < 256 ^ 8) := by
  have : (256 : Nat) ^ 8 = 18446744073709551616 := by decide
  exact (show n < 256 ^ 8 by omega)

/-- A slice of one new byte. -/
theorem rd_one (w : World) (x : UInt8) (o : Obj) (ho : o = .cells #[.int .u8 (x.toNat : Int)] 5 (0, 0)) : Rd (w.alloc o) (.slice (some ⟨w.heap.size, 0, none⟩) 1 1) [x] := by
  subst ho
  refine ⟨_, _, rfl, Nat.le_refl _, by simp [maxLen], fun h => by simp at h, fun _ => ⟨_, _, rfl, by simp, fun j u hj => ?_⟩⟩
  rw [cell_of_row _ _ _ _ 5 (0, 0) (heap_alloc_new w _)]
  simpa [By] using hj

end Go.Proofs.YtmicmbjbclkbjaaDoor

/-
  indentureref01.Num, Str, Flag: what the calls do.
-/
namespace Go.Proofs.YtmicmbjbclkbjaaDoor
open Go.RowKit

/-- A new slice without elements is the call's own. -/
theorem own_noneS (w : World) (B : Nat) (hB : B ≤ w.heap.size) : Own (w.alloc (.cells #[] 5 (0, 0))) B (.slice (some ⟨w.heap.size, 0, none⟩) 0 0) [] :=
  ⟨rfl, .inr ⟨w.heap.size, 0, #[], rfl, hB, heap_alloc_new w _, Nat.le_refl _, by simp [maxLen], rfl, rfl⟩⟩
/-- A new slice of one byte is the call's own. -/
theorem own_oneS (w : World) (B : Nat) (hB : B ≤ w.heap.size) (x : UInt8) : Own (w.alloc (.cells #[.int .u8 (x.toNat : Int)] 5 (0, 0))) B (.slice (some ⟨w.heap.size, 0, none⟩) 1 1) [x] :=
  ⟨rfl, .inr ⟨w.heap.size, 1, _, rfl, hB, heap_alloc_new w _, Nat.le_refl _, by simp [maxLen], rfl, rfl⟩⟩

theorem own_oneS' (w : World) (B : Nat) (hB : B ≤ w.heap.size) (x : UInt8) (y : Int) (hy : Hid (y = (x.toNat : Int))) : Own (w.alloc (.cells #[.int .u8 y] 5 (0, 0))) B (.slice (some ⟨w.heap.size, 0, none⟩) 1 1) [x] := by
  rw [hy.out]; exact own_oneS w B hB x

set_option maxRecDepth 100000 in
set_option maxHeartbeats 400000 in
theorem refNum_any (v : Value) (l : List UInt8) (n : Nat) (w : World) (h : Rd w v l) (h2 : Hid (n < 256 ^ 8)) (hl : l.length ≤ 140737488300000) :
    Calls Tryd.prog 43 #[v, .int .u64 n] w fun e w' => ∃ v', e = .returned v' ∧ Own w' w.heap.size v' (l ++ enc n) ∧ Below w.heap.size w w' := by
  obtain ⟨i0, hi, hz0, hz1, hz2⟩ := info_parts Tryd.info5S
  have hr1 : Rd (w.alloc (.cells #[] 5 (0, 0))) v l := h.kept ((Below.refl _ _).alloc (Nat.le_refl _) _)
  by_cases hn : n < 248
  · have hn' : (n : Int) < 248 := by omega
    have HE : Hid (enc n = [UInt8.ofNat n]) := enc_short hn
    have HY : Hid ((n : Int) = ((UInt8.ofNat n).toNat : Int)) := (show _ = _ by simp; omega)
    go_enter Tryd.func43, Tryd.ntmps43
    go_wp2_with (first
      | (at_builtin; refine wpList_append_bytes _ rfl (.tmp 8) (.tmp 9) 28 28 rfl w.heap.size i0 Tryd.underlying28 hi hz0 hz1 hz2 _ [] rfl (own_noneS w _ (Nat.le_refl _)) _ l rfl (hr1.src 28 Tryd.underlying28) (by simp; omega) (by simp) ?_; intro v1 w1 ho1 hb1; simp only [List.nil_append] at ho1)
      | (at_builtin; refine wpList_append_bytes _ rfl (.tmp 13) (.tmp 16) 28 28 rfl w.heap.size i0 Tryd.underlying28 hi hz0 hz1 hz2 v1 l rfl (by exact ho1.kept ((Below.refl _ _).alloc (Nat.le_refl _) _)) _ [UInt8.ofNat n] rfl (by exact (own_oneS' _ _ (Nat.le_refl _) _ _ HY).rd.src 28 Tryd.underlying28) (by simp; omega) (by have := hb1.size; simp at this ⊢; omega) ?_; intro v2 w2 ho2 hb2))
    go_ret
    refine ⟨_, rfl, by rw [HE.out]; exact ho2, ?_⟩
    exact ((((Below.refl _ _).alloc (Nat.le_refl _) _).trans hb1).trans ((Below.refl _ _).alloc (by have := hb1.size; simp at this; omega) _)).trans hb2
  · have hn' : ¬ (n : Int) < 248 := by omega
    have hge : 248 ≤ n := by omega
    have HE : Hid (enc n = UInt8.ofNat (247 + (dg 8 n).length) :: dg 8 n) := enc_long hge
    go_enter Tryd.func43, Tryd.ntmps43
    go_wp2_with (first
      | (at_builtin; refine wpList_append_bytes _ rfl (.tmp 8) (.tmp 9) 28 28 rfl w.heap.size i0 Tryd.underlying28 hi hz0 hz1 hz2 _ [] rfl (own_noneS w _ (Nat.le_refl _)) _ l rfl (hr1.src 28 Tryd.underlying28) (by simp; omega) (by simp) ?_; intro v1 w1 ho1 hb1; simp only [List.nil_append] at ho1))
    have hbw : Below w.heap.size w w1 := ((Below.refl _ _).alloc (Nat.le_refl _) _).trans hb1
    go_loopw [6, 7] (fun y x wr => ∃ (m q : Nat) (ds : List UInt8), x = .int .u64 m ∧ Hid (m < 256 ^ q) ∧ Hid (ds.length + q = 8) ∧ Hid (dg 8 n = dg q m ++ ds) ∧
        Hid (Own wr w1.heap.size y ds) ∧ Hid (w1.heap.size ≤ wr.heap.size) ∧ Hid (Own wr w.heap.size v1 l) ∧ Below w.heap.size w wr)
      (fun _ x _ => (intOf x).toNat)
    case atStart =>
      exact ⟨n, 8, [], rfl, h2, rfl, (List.append_nil _).symm, World.ownsRow_nil _ _ _ _, Nat.le_refl _, ho1, hbw⟩
    case round =>
      clear hbw
      obtain ⟨m, q, ds, rfl, hm, hq, hd, hrd, hsz, how, hbel⟩ := hrel
      by_cases hz : 0 < m
      · have hz' : (0 : Int) < m := by omega
        obtain ⟨p, rfl⟩ : ∃ p, q = p + 1 := ⟨q - 1, by have := hm.out; cases q with | zero => simp at this; omega | succ q => simp⟩
        have HY : Hid (((m : Int) % 256) = ((UInt8.ofNat m).toNat : Int)) := (show _ = _ by simp)
        go_wp2_with (at_builtin; refine wpList_append_bytes _ rfl (.tmp 25) (.tmp 26) 28 28 rfl wr.heap.size i0 Tryd.underlying28 hi hz0 hz1 hz2 _ [UInt8.ofNat m] rfl (by exact own_oneS' _ _ (Nat.le_refl _) _ _ HY) _ ds rfl (by exact (hrd.out.kept ((Below.refl _ _).alloc (Nat.le_refl _) _)).rd.src 28 Tryd.underlying28) (by have := hq.out; simp; omega) (by simp) ?_; intro v3 w3 ho3 hb3)
        have hb4 : Below wr.heap.size wr w3 := ((Below.refl _ _).alloc (Nat.le_refl _) _).trans hb3
        go_roundw
        case rel =>
          refine ⟨m / 256, p, UInt8.ofNat m :: ds, by go_num, pow_step p m hm.out, ?_, ?_, ho3.mono hsz.out, Nat.le_trans hsz.out hb4.size, how.out.kept hb4, hbel.trans (hb4.mono hbel.size)⟩
          · have := hq.out; exact (show _ = _ by simp; omega)
          · exact (show _ = _ by rw [hd.out, dg_step p m hz]; simp)
        case measure => simp [intOf]; omega
      · have hz' : ¬ (0 : Int) < m := by omega
        obtain rfl : m = 0 := by omega
        have hds : Hid (dg 8 n = ds) := (show _ = _ by have := hd.out; rw [dg_zero] at this; simpa using this)
        obtain ⟨ua, ucap, rfl, -⟩ := hrd.out.rd
        have hd8 : (ds.length : Int) ≤ 8 := by have := hq.out; omega
        have HY : Hid ((247 + (ds.length : Int)) = ((UInt8.ofNat (247 + ds.length)).toNat : Int)) := (show _ = _ by simp; omega)
        go_wp2_with (first
          | (at_builtin; refine wpList_append_bytes_g _ rfl (.tmp 28) (.tmp 33) 28 28 rfl w.heap.size i0 Tryd.underlying28 hi hz0 hz1 hz2 v1 l rfl (by exact how.out.kept ((Below.refl _ _).alloc (Nat.le_refl _) _)) _ [UInt8.ofNat (247 + ds.length)] rfl (by exact (own_oneS' _ _ (Nat.le_refl _) _ _ HY).rd.src 28 Tryd.underlying28) (by simp; omega) (by have := hbel.size; simp; omega) ?_; intro v3 w3 ho3 hb3 hg3)
          | (at_builtin; refine wpList_append_bytes _ rfl (.tmp 34) (.tmp 35) 28 28 rfl w.heap.size i0 Tryd.underlying28 hi hz0 hz1 hz2 v3 _ rfl ho3 _ ds rfl (by exact ((hrd.out.kept ((Below.refl _ _).alloc (Nat.le_refl _) _)).apart (fun k hk => (World.ownsRow.lt ho1 k hk).2) hg3).rd.src 28 Tryd.underlying28) (by simp; omega) (by have := hb3.size; have := hbel.size; simp at *; omega) ?_; intro v4 w4 ho4 hb4))
        go_ret
        refine ⟨_, rfl, ?_, ((hbel.trans ((Below.refl _ _).alloc hbel.size _)).trans hb3).trans hb4⟩
        rw [HE.out, hds.out]
        simpa using ho4

#print axioms refNum_any
end Go.Proofs.YtmicmbjbclkbjaaDoor

/-
  pack.GetNum, indentureref01.GetNum: what the calls do.
-/
namespace Go.Proofs.YtmicmbjbclkbjaaDoor
open Go.RowKit

theorem shl_or (N y : Nat) (hN : N < 72057594037927936) (hy : y < 256) : bits .or .u64 (IntKind.u64.wrap ((N : Int) * 256)) (y : Int) = ((N * 256 + y : Nat) : Int) := by
  have e : IntKind.u64.wrap ((N : Int) * 256) = ((N * 256 : Nat) : Int) := by rw [IntKind.wrap_u64]; omega
  rw [e, bits_or_u64_nat _ _ (by omega) (by omega)]
  congr 1
  have h := Nat.two_pow_add_eq_or_of_lt (i := 8) (b := y) (by simpa using hy) N
  rw [Nat.mul_comm N 256]
  exact h.symm

theorem ret3 {a b c d : Int} {s t : Bool} (h1 : a = b) (h2 : c = d) (h3 : s = t) : Ending.returned (.tuple #[.int .u64 a, .int .i64 c, .bool s]) = .returned (.tuple #[.int .u64 b, .int .i64 d, .bool t]) := by
  rw [h1, h2, h3]

theorem val_pow8 {d : List UInt8} {k : Nat} (h : d.length = k) (hk : k ≤ 8) : Hid (val d < 256 ^ 8) := by
  refine Nat.lt_of_lt_of_le (val_lt d) ?_
  rw [h]
  exact Nat.pow_le_pow_right (by decide) hk

set_option maxRecDepth 100000 in
set_option maxHeartbeats 400000 in
theorem getNum_any (v : Value) (l : List UInt8) (w : World) (h : Rd w v l) (hl : l.length ≤ 140737488300000) :
    Calls Tryd.prog 48 #[v] w fun e w' => e = .returned (.tuple #[.int .u64 (gn l).1, .int .i64 (gn l).2.1, .bool (gn l).2.2]) ∧ Below w.heap.size w w' := by
  have h0 := h
  obtain ⟨a, cap, rfl, h1, h2, h3, h4⟩ := h
  cases l with
  | nil =>
    go_enter Tryd.func48, Tryd.ntmps48
    go_wp2
    go_ret3
    exact ⟨rfl, Below.refl _ _⟩
  | cons x r =>
    obtain ⟨b, off, rfl, hlt, hc⟩ := h4 (by simp)
    clear h4 h3
    have hc0 : w.cell? ⟨b, off, none⟩ = some (.int .u8 (x.toNat : Int)) := hc 0 _ rfl
    have hxlt := x.toNat_lt
    have hlen : (0 : Int) < ((x :: r).length : Int) := by simp
    by_cases hx : x.toNat < 248
    · have hx' : (x.toNat : Int) < 248 := by omega
      have HG : Hid (gn (x :: r) = (x.toNat, 1, true)) := (show _ = _ by simp [gn, hx])
      go_enter Tryd.func48, Tryd.ntmps48
      go_wp2
      go_ret3
      exact ⟨by rw [HG.out]; rfl, Below.refl _ _⟩
    · have hx' : ¬ (x.toNat : Int) < 248 := by omega
      obtain ⟨k, hk⟩ : ∃ k, x.toNat = 247 + k := ⟨x.toNat - 247, by omega⟩
      have hk1 : 1 ≤ k := by omega
      have hk8 : k ≤ 8 := by omega
      by_cases hr : r.length < k
      · have HG : Hid (gn (x :: r) = (0, 0, false)) := (show _ = _ by simp only [gn]; rw [if_neg hx, if_pos (by omega)])
        have hr' : (r.length : Int) < k := by omega
        rw [hk] at hc0
        clear hx hx' hlen
        simp only [List.length_cons] at h1 hl
        have HK : Hid (x.toNat = 247 + k) := hk
        clear hk hxlt
        go_enter Tryd.func48, Tryd.ntmps48
        go_wp2
        go_ret3
        exact ⟨by rw [HG.out]; rfl, Below.refl _ _⟩
      · have hr' : ¬ (r.length : Int) < k := by omega
        rw [hk] at hc0
        clear hx hx' hlen
        simp only [List.length_cons] at h1 hl
        have hcap : ¬ cap = 1 := by omega
        have hcap2 : (k : Int) + 1 ≤ cap := by omega
        have HX : Hid (x.toNat = 247 + k) := hk
        clear hk hxlt
        obtain ⟨d, HD⟩ : ∃ d, Hid (d = r.take k) := ⟨_, rfl⟩
        have hdl : Hid (d.length = k) := (show _ = _ by rw [HD.out]; simp; omega)
        have hdc : Hid (∀ i (hi : i < d.length), w.cell? ⟨b, off + 1 + i, none⟩ = some (.int .u8 (d[i].toNat : Int))) := (show ∀ i (hi : i < d.length), _ from fun i hi => by
          have e := hc (i + 1) (.int .u8 (d[i].toNat : Int)) (by
            have := HD.out; subst this
            simp [By, take_get r k i hi])
          rw [show off + 1 + i = off + (i + 1) from by omega]
          exact e)
        clear hc
        go_enter Tryd.func48, Tryd.ntmps48
        go_wp2
        go_loop [6, 36] (fun y z => ∃ i : Nat, i ≤ k ∧ z = .int .i64 i ∧ y = .int .u64 (val (d.take i))) (fun _ z => k - (intOf z).toNat)
        case atStart => exact ⟨0, Nat.zero_le _, rfl, rfl⟩
        case round =>
          obtain ⟨i, hi, rfl, rfl⟩ := hrel
          by_cases hlt2 : i < k
          · have hdi : i < d.length := by have := hdl.out; omega
            have hN : Hid (val (d.take i) < 72057594037927936) := val_bound (l := d.take i) (by simp; omega)
            have hcell := hdc.out i hdi
            have HV : Hid (val (d.take (i + 1)) = val (d.take i) * 256 + d[i].toNat) := val_take d i hdi
            generalize val (d.take i) = N at *
            have hy : d[i].toNat < 256 := d[i].toNat_lt
            generalize d[i].toNat = y at *
            go_wp2
            go_round
            case rel => exact ⟨i + 1, by omega, by go_num, by rw [HV.out, shl_or N y hN.out hy]⟩
            case measure => simp [intOf]; omega
          · obtain rfl : i = k := by omega
            have ht : d.take i = d := List.take_of_length_le (by rw [hdl.out]; omega)
            rw [ht]
            clear ht
            have h8 := val_pow8 hdl.out hk8
            obtain ⟨p, HK⟩ : ∃ p, Hid (9 - (enc (val d)).length = p) := ⟨_, rfl⟩
            have hel := enc_length (val d)
            have hp8 : (p : Int) ≤ 8 := by have := HK.out; omega
            have HKE : Hid (p + (enc (val d)).length = 9) := (show _ = _ by have := HK.out; omega)
            clear hel
            generalize hn : val d = n at *
            have HN : Hid (val d = n) := hn
            clear hn
            go_wp2_with fail
            refine (cut_k n p _ h8 HK).mono ?_
            rintro e w1 ⟨rfl, hb1⟩
            have hsl := sliceDigits w1.heap.size p (by omega)
            go_wp2_with (first
              | (refine wpList_store_newS rfl 93 (.tmp 9) (.tmp 49) rfl w1.heap.size (By (arr n)).toArray rfl rfl 93 (By (List.replicate 9 0)).toArray (heap_alloc_new w1 _) (by rw [Tryd.sizeDigits]; simp [By_length, arr_length]) (by simp [By_length, arr_length]) (By_all _) w1.heap.size w1 ((Below.refl _ _).alloc (Nat.le_refl _) _) (Nat.le_refl _) ?_; intro W HGW hbW))
            have hq1 := rd_arr HKE HGW.out
            have hq2 := (h0.kept (hb1.trans (hbW.mono hb1.size))).take (1 + (247 + i) - 247) (by simp; omega)
            have hcap0 : ¬ cap = 0 := by omega
            have e2 : (x :: r).take (1 + (247 + i) - 247) = x :: d := by
              rw [HD.out, show 1 + (247 + i) - 247 = i + 1 from by omega]
              rfl
            rw [e2] at hq2
            clear e2 h0
            by_cases hE : enc n = x :: d
            · have hE' : (enc n == x :: d) = true := by simp [hE]
              have HG : Hid (gn (x :: r) = (n, i + 1, true)) := (show _ = _ by rw [gn_long HX.out hk1 hr HD.out HN.out, if_pos hE])
              clear hE
              go_quiet ((go_at_call 71; exact Calls.quiet_of_same (equal_any _ _ _ _ _ (hq1.kept (below_drewN _ _ _)) (hq2.kept (below_drewN _ _ _)))))
              go_wp2
              go_ret3
              refine ⟨?_, (hb1.trans (hbW.mono hb1.size)).trans (below_drewN _ _ _)⟩
              rw [HG.out]
              exact ret3 rfl (by show (1 + (247 + (i : Int)) - 247) = ((i + 1 : Nat) : Int); omega) rfl
            · have hE' : (enc n == x :: d) = false := by simp [hE]
              have HG : Hid (gn (x :: r) = (0, 0, false)) := (show _ = _ by rw [gn_long HX.out hk1 hr HD.out HN.out, if_neg hE])
              clear hE
              go_quiet ((go_at_call 71; exact Calls.quiet_of_same (equal_any _ _ _ _ _ (hq1.kept (below_drewN _ _ _)) (hq2.kept (below_drewN _ _ _)))))
              go_wp2
              go_ret3
              exact ⟨by rw [HG.out]; rfl, (hb1.trans (hbW.mono hb1.size)).trans (below_drewN _ _ _)⟩
#print axioms getNum_any
end Go.Proofs.YtmicmbjbclkbjaaDoor

/-
  Plain mathematics: a number's bytes are those that were read just if the first is not 0 and it is no short one.
-/
namespace Go.Proofs.YtmicmbjbclkbjaaDoor

theorem val_pos_of {l : List UInt8} (f : Nat) (h : dg f (val l) = l) (hl : l ≠ []) : 0 < val l := by
  rcases Nat.eq_zero_or_pos (val l) with h0 | h0
  · rw [h0, dg_zero] at h
    exact absurd h.symm hl
  · exact h0

theorem ofNat_add (m : Nat) (y : UInt8) : UInt8.ofNat (m * 256 + y.toNat) = y := by
  apply UInt8.toNat_inj.1
  simp

theorem dg_val_rev : ∀ (l : List UInt8) (f : Nat), l.length ≤ f → l.getLast? ≠ some 0 → dg f (val l.reverse) = l.reverse
  | [], f, _, _ => by simp [val, dg_zero]
  | y :: t, 0, h, _ => by simp at h
  | y :: t, f + 1, h, hh => by
    have hy := y.toNat_lt
    rw [List.reverse_cons, val_snoc]
    by_cases ht : t = []
    · subst ht
      have hy0 : 0 < y.toNat := by
        rcases Nat.eq_zero_or_pos y.toNat with h0 | h0
        · refine absurd ?_ hh
          have : y = 0 := UInt8.toNat_inj.1 (by simpa using h0)
          simp [this]
        · exact h0
      have e : val ([] : List UInt8).reverse = 0 := rfl
      rw [e, dg_step f _ (by omega), ofNat_add]
      rw [show (0 * 256 + y.toNat) / 256 = 0 from by omega, dg_zero]
      rfl
    · have ih := dg_val_rev t f (by simpa using h) (by rw [List.getLast?_cons] at hh; cases hg : t.getLast? with
        | none => simp
        | some z => rw [hg] at hh; simpa using hh)
      have hp := val_pos_of f ih (by simpa using ht)
      rw [dg_step f _ (by omega), ofNat_add, show (val t.reverse * 256 + y.toNat) / 256 = val t.reverse from by omega, ih]

theorem dg_val (l : List UInt8) (f : Nat) (h : l.length ≤ f) (hh : l.head? ≠ some 0) : dg f (val l) = l := by
  have := dg_val_rev l.reverse f (by simpa using h) (by simpa using hh)
  simpa using this

theorem dg_ne_nil (f n : Nat) (h : n < 256 ^ f) (hn : 0 < n) : dg f n ≠ [] := by
  cases f with
  | zero => simp at h; omega
  | succ f => rw [dg_step f n hn]; simp

theorem dg_head : ∀ (f n : Nat), n < 256 ^ f → (dg f n).head? ≠ some 0
  | 0, n, _ => by simp [dg]
  | f + 1, n, h => by
    rcases Nat.eq_zero_or_pos n with h0 | h0
    · subst h0; simp [dg]
    · rw [dg_step f n h0]
      have hs := pow_step f n h
      rcases Nat.eq_zero_or_pos (n / 256) with h1 | h1
      · rw [h1, dg_zero]
        simp
        intro e
        have := congrArg UInt8.toNat e
        simp at this
        omega
      · have ih := dg_head f (n / 256) hs
        have hne := dg_ne_nil f (n / 256) hs h1
        rw [List.head?_append]
        cases hd : (dg f (n / 256)).head? with
        | none => simp at hd; exact absurd hd hne
        | some z => rw [hd] at ih; simpa using ih

theorem val_dg : ∀ (f n : Nat), n < 256 ^ f → val (dg f n) = n
  | 0, n, h => by simp at h; subst h; rfl
  | f + 1, n, h => by
    rcases Nat.eq_zero_or_pos n with h0 | h0
    · subst h0; rw [dg_zero]; rfl
    · rw [dg_step f n h0, val_snoc, val_dg f (n / 256) (pow_step f n h)]
      simp
      omega

theorem enc_iff {x : UInt8} {d : List UInt8} {k n : Nat} (hx : x.toNat = 247 + k) (hk1 : 1 ≤ k) (hk8 : k ≤ 8) (hdl : d.length = k) (hn : val d = n) :
    enc n = x :: d ↔ d.head? ≠ some 0 ∧ 248 ≤ n := by
  have hlt : n < 256 ^ 8 := by
    subst hn
    refine Nat.lt_of_lt_of_le (val_lt d) ?_
    rw [hdl]
    exact Nat.pow_le_pow_right (by decide) hk8
  constructor
  · intro h
    have h248 : 248 ≤ n := by
      rcases Nat.lt_or_ge n 248 with h1 | h1
      · rw [enc_short h1] at h
        simp at h
        have := h.2
        subst this
        simp at hdl
        omega
      · exact h1
    rw [enc_long h248] at h
    simp only [List.cons.injEq] at h
    rw [← h.2]
    exact ⟨dg_head 8 n hlt, h248⟩
  · rintro ⟨h1, h2⟩
    have e := dg_val d 8 (by omega) h1
    rw [hn] at e
    rw [enc_long h2, e, hdl]
    congr 1
    apply UInt8.toNat_inj.1
    simp
    omega

theorem gn_ok {l : List UInt8} {n k : Nat} (h : gn l = (n, k, true)) : 1 ≤ k ∧ k ≤ 9 ∧ k ≤ l.length ∧ n < 256 ^ 8 ∧ enc n = l.take k := by
  have hp : (256 : Nat) ^ 8 = 18446744073709551616 := by decide
  cases l with
  | nil => simp [gn] at h
  | cons x r =>
    have hx := x.toNat_lt
    by_cases h1 : x.toNat < 248
    · simp only [gn] at h
      rw [if_pos h1] at h
      simp only [Prod.mk.injEq, and_true] at h
      obtain ⟨rfl, rfl⟩ := h
      refine ⟨by omega, by omega, by simp, by omega, ?_⟩
      rw [enc_short h1]
      simp
    · simp only [gn] at h
      rw [if_neg h1] at h
      by_cases h2 : r.length < x.toNat - 247
      · rw [if_pos h2] at h; simp at h
      · rw [if_neg h2] at h
        by_cases h3 : enc (val (r.take (x.toNat - 247))) = x :: r.take (x.toNat - 247)
        · rw [if_pos h3] at h
          simp only [Prod.mk.injEq, and_true] at h
          obtain ⟨rfl, rfl⟩ := h
          refine ⟨by omega, by omega, by simp; omega, ?_, ?_⟩
          · refine Nat.lt_of_lt_of_le (val_lt _) (Nat.pow_le_pow_right (by decide) ?_)
            simp
            omega
          · rw [h3, show x.toNat - 246 = (x.toNat - 247) + 1 from by omega]
            rfl
        · rw [if_neg h3] at h; simp at h

theorem gn_no {l : List UInt8} (h : (gn l).2.2 = false) : gn l = (0, 0, false) := by
  cases l with
  | nil => rfl
  | cons x r =>
    simp only [gn] at h ⊢
    by_cases h1 : x.toNat < 248
    · rw [if_pos h1] at h; simp at h
    · rw [if_neg h1] at h ⊢
      by_cases h2 : r.length < x.toNat - 247
      · rw [if_pos h2]
      · rw [if_neg h2] at h ⊢
        by_cases h3 : enc (val (r.take (x.toNat - 247))) = x :: r.take (x.toNat - 247)
        · rw [if_pos h3] at h; simp at h
        · rw [if_neg h3]

theorem gn_cases (l : List UInt8) : gn l = (0, 0, false) ∨ ∃ n k, gn l = (n, k, true) := by
  rcases hg : gn l with ⟨n, k, ok⟩
  cases ok with
  | false => left; rw [← hg]; exact gn_no (by rw [hg])
  | true => right; exact ⟨n, k, rfl⟩

/-- What the text at the begin of bytes is, of at most m bytes: the text, how many bytes it has, whether there is one. -/
def gs (l : List UInt8) (m : Nat) : List UInt8 × Nat × Bool :=
  if (gn l).2.2 = true ∧ (gn l).1 ≤ m ∧ (gn l).1 + (gn l).2.1 ≤ l.length then ((l.drop (gn l).2.1).take (gn l).1, (gn l).2.1 + (gn l).1, true) else ([], 0, false)
theorem gs_yes {l : List UInt8} {m n k : Nat} (h : gn l = (n, k, true)) (h1 : n ≤ m) (h2 : n + k ≤ l.length) : gs l m = ((l.drop k).take n, k + n, true) := by
  unfold gs; rw [h]; exact if_pos ⟨rfl, h1, h2⟩
theorem gs_no {l : List UInt8} {m n k : Nat} {ok : Bool} (h : gn l = (n, k, ok)) (h1 : ¬ (ok = true ∧ n ≤ m ∧ n + k ≤ l.length)) : gs l m = ([], 0, false) := by
  unfold gs; rw [h]; exact if_neg h1

/-- What the truth at the begin of bytes is. -/
def gf : List UInt8 → Bool × Nat × Bool
  | [] => (false, 0, false)
  | x :: _ => if 1 < x.toNat then (false, 0, false) else (decide (x.toNat = 1), 1, true)

theorem encT_take (l : List (List UInt8)) (i : Nat) (h : i < l.length) : encT (l.take (i + 1)) = encT (l.take i) ++ encS l[i] := by
  rw [List.take_succ_eq_append_getElem h, encT_append]
  simp [encT]
theorem encT_take_le (l : List (List UInt8)) (i : Nat) : (encT (l.take i)).length ≤ (encT l).length := by
  have h := congrArg (fun x => (encT x).length) (List.take_append_drop i l)
  simp only [encT_append, List.length_append] at h
  omega

theorem gs_cases (l : List UInt8) (m : Nat) : gs l m = ([], 0, false) ∨ ∃ t k, gs l m = (t, k, true) ∧ k ≤ l.length ∧ 1 ≤ k ∧ l.take k = encS t ∧ t.length ≤ m := by
  by_cases h : (gn l).2.2 = true ∧ (gn l).1 ≤ m ∧ (gn l).1 + (gn l).2.1 ≤ l.length
  · right
    rcases hg : gn l with ⟨n, k, ok⟩
    rw [hg] at h
    obtain ⟨h0, h1, h2⟩ := h
    simp only at h0 h1 h2
    subst h0
    obtain ⟨hk1, hk9, hkl, hn8, he⟩ := gn_ok hg
    refine ⟨_, _, gs_yes hg h1 h2, by omega, by omega, ?_, by simp; omega⟩
    unfold encS
    rw [show ((l.drop k).take n).length = n from by simp; omega, he, List.take_add]
  · left
    unfold gs
    exact if_neg h

/-- The texts that stand from place k on, i of them, and where they end. -/
def gl (l : List UInt8) (m k : Nat) : Nat → Option (List (List UInt8) × Nat)
  | 0 => some ([], k)
  | i + 1 => match gl l m k i with
    | some (ts, x) => if (gs (l.drop x) m).2.2 = true then some (ts ++ [(gs (l.drop x) m).1], x + (gs (l.drop x) m).2.1) else none
    | none => none
theorem gl_yes {l : List UInt8} {m k i x y : Nat} {ts : List (List UInt8)} {t : List UInt8} (h : gl l m k i = some (ts, x)) (hg : gs (l.drop x) m = (t, y, true)) : gl l m k (i + 1) = some (ts ++ [t], x + y) := by
  simp only [gl, h, hg, if_true]
theorem gl_no {l : List UInt8} {m k i x : Nat} {ts : List (List UInt8)} (h : gl l m k i = some (ts, x)) (hg : gs (l.drop x) m = ([], 0, false)) : gl l m k (i + 1) = none := by
  simp [gl, h, hg]
theorem gl_none {l : List UInt8} {m k i : Nat} (h : gl l m k i = none) : ∀ j, i ≤ j → gl l m k j = none
  | 0, hj => by have : i = 0 := by omega
                subst this; exact h
  | j + 1, hj => by
    rcases Nat.lt_or_ge i (j + 1) with h1 | h1
    · simp only [gl, gl_none h j (by omega)]
    · have : i = j + 1 := by omega
      subst this; exact h
theorem gl_ok {l : List UInt8} {m k : Nat} (hk : k ≤ l.length) (hk1 : 1 ≤ k) : ∀ {i x : Nat} {ts : List (List UInt8)}, gl l m k i = some (ts, x) → x ≤ l.length ∧ 1 ≤ x ∧ ts.length = i ∧ i + k ≤ x ∧ l.take x = l.take k ++ encT ts ∧ (∀ t ∈ ts, t.length ≤ m)
  | 0, x, ts, h => by
    simp only [gl, Option.some.injEq, Prod.mk.injEq] at h
    obtain ⟨rfl, rfl⟩ := h
    exact ⟨hk, hk1, rfl, by omega, by simp [encT], by simp⟩
  | i + 1, x, ts, h => by
    cases hp : gl l m k i with
    | none => simp [gl, hp] at h
    | some q =>
      obtain ⟨us, y⟩ := q
      obtain ⟨h1, h2, h3, h4, h5, h6⟩ := gl_ok hk hk1 hp
      rcases gs_cases (l.drop y) m with hg | ⟨t, z, hg, hz, hz1, hz2, hz3⟩
      · rw [gl_no hp hg] at h; cases h
      · rw [gl_yes hp hg] at h
        simp only [Option.some.injEq, Prod.mk.injEq] at h
        obtain ⟨rfl, rfl⟩ := h
        simp only [List.length_drop] at hz
        refine ⟨by omega, by omega, by simp [h3], by omega, ?_, ?_⟩
        · rw [List.take_add, h5, hz2, encT_append]
          simp [encT]
        · intro u hu
          rcases List.mem_append.1 hu with hu | hu
          · exact h6 u hu
          · simp at hu; subst hu; exact hz3

/-- What the list at the begin of bytes is, of at most c texts of at most m bytes. -/
def gL (l : List UInt8) (c m : Nat) : List (List UInt8) × Nat × Bool :=
  if (gn l).2.2 = true ∧ (gn l).1 ≤ c then match gl l m (gn l).2.1 (gn l).1 with
    | some (ts, x) => (ts, x, true)
    | none => ([], 0, false)
  else ([], 0, false)
theorem gL_no {l : List UInt8} {c m n k : Nat} {ok : Bool} (h : gn l = (n, k, ok)) (h1 : ¬ (ok = true ∧ n ≤ c)) : gL l c m = ([], 0, false) := by
  unfold gL; rw [h]; exact if_neg h1
theorem gL_none {l : List UInt8} {c m n k : Nat} (h : gn l = (n, k, true)) (hg : gl l m k n = none) : gL l c m = ([], 0, false) := by
  unfold gL; rw [h]; simp only [hg]; split <;> rfl
theorem gL_yes {l : List UInt8} {c m n k x : Nat} {ts : List (List UInt8)} (h : gn l = (n, k, true)) (hn : n ≤ c) (hg : gl l m k n = some (ts, x)) : gL l c m = (ts, x, true) := by
  unfold gL; rw [h, if_pos ⟨rfl, hn⟩]; simp only [hg]
end Go.Proofs.YtmicmbjbclkbjaaDoor

/-
  indentureref01.GetNum: what the call does.
-/
namespace Go.Proofs.YtmicmbjbclkbjaaDoor
open Go.RowKit

theorem shl_add (N y : Nat) (hN : N < 72057594037927936) (hy : y < 256) : IntKind.u64.wrap (IntKind.u64.wrap ((N : Int) * 256) + (y : Int)) = ((N * 256 + y : Nat) : Int) := by
  rw [IntKind.wrap_u64, IntKind.wrap_u64]
  omega

end Go.Proofs.YtmicmbjbclkbjaaDoor

/-
  Plain mathematics: what was put is got again; what was got is written as it was.
-/
namespace Go.Proofs.YtmicmbjbclkbjaaDoor

theorem gn_enc (n : Nat) (r : List UInt8) (hn : n < 256 ^ 8) : gn (enc n ++ r) = (n, (enc n).length, true) := by
  rcases Nat.lt_or_ge n 248 with h | h
  · rw [enc_short h]
    have e : (UInt8.ofNat n).toNat = n := by simp; omega
    simp only [List.cons_append, List.nil_append, gn, e]
    rw [if_pos h]
    rfl
  · have hk := dg_length_le 8 n
    have hne := dg_ne_nil 8 n hn (by omega)
    have hk1 : 1 ≤ (dg 8 n).length := by
      rcases hd : dg 8 n with _ | ⟨y, t⟩
      · exact absurd hd hne
      · simp
    have ex : (UInt8.ofNat (247 + (dg 8 n).length)).toNat = 247 + (dg 8 n).length := by simp; omega
    rw [enc_long h, List.cons_append]
    rw [gn_long (d := dg 8 n) (k := (dg 8 n).length) (n := n) ex hk1 (by simp) (by simp) (val_dg 8 n hn)]
    rw [if_pos (enc_long h)]
    rfl

theorem gs_enc (t r : List UInt8) (m : Nat) (ht : t.length ≤ m) (h8 : t.length < 256 ^ 8) : gs (encS t ++ r) m = (t, (encS t).length, true) := by
  have hg : gn (encS t ++ r) = (t.length, (enc t.length).length, true) := by
    unfold encS
    rw [List.append_assoc]
    exact gn_enc _ _ h8
  rw [gs_yes hg ht (by simp [encS]; omega)]
  unfold encS
  simp [List.append_assoc]

theorem gl_enc (pre r : List UInt8) (ts : List (List UInt8)) (m : Nat) (hm : ∀ t ∈ ts, t.length ≤ m ∧ t.length < 256 ^ 8) : ∀ i, i ≤ ts.length → gl (pre ++ encT ts ++ r) m pre.length i = some (ts.take i, pre.length + (encT (ts.take i)).length)
  | 0, _ => by simp [gl, encT]
  | i + 1, hi => by
    have ih := gl_enc pre r ts m hm i (by omega)
    have hlt : i < ts.length := by omega
    have hd : (pre ++ encT ts ++ r).drop (pre.length + (encT (ts.take i)).length) = encS ts[i] ++ (encT (ts.drop (i + 1)) ++ r) := by
      have e : encT ts = encT (ts.take i) ++ (encS ts[i] ++ encT (ts.drop (i + 1))) := by
        conv => lhs; rw [← List.take_append_drop i ts, encT_append, List.drop_eq_getElem_cons hlt]
        rfl
      rw [e]
      simp only [List.append_assoc]
      rw [← List.append_assoc pre, show pre.length + (encT (ts.take i)).length = (pre ++ encT (ts.take i)).length from by simp, List.drop_left]
    have hmem := hm ts[i] (List.getElem_mem hlt)
    have hg : gs ((pre ++ encT ts ++ r).drop (pre.length + (encT (ts.take i)).length)) m = (ts[i], (encS ts[i]).length, true) := by
      rw [hd]
      exact gs_enc _ _ m hmem.1 hmem.2
    rw [gl_yes ih hg, List.take_succ_eq_append_getElem hlt, encT_append]
    simp [encT]
    omega

theorem gL_enc (ts : List (List UInt8)) (r : List UInt8) (c m : Nat) (hc : ts.length ≤ c) (h8 : ts.length < 256 ^ 8) (hm : ∀ t ∈ ts, t.length ≤ m ∧ t.length < 256 ^ 8) : gL (encL ts ++ r) c m = (ts, (encL ts).length, true) := by
  have hg : gn (encL ts ++ r) = (ts.length, (enc ts.length).length, true) := by
    unfold encL
    rw [List.append_assoc]
    exact gn_enc _ _ h8
  have hgl := gl_enc (enc ts.length) r ts m hm ts.length (Nat.le_refl _)
  rw [List.take_length] at hgl
  rw [gL_yes hg hc hgl]
  simp [encL]

theorem gL_spec {l : List UInt8} {c m x : Nat} {ts : List (List UInt8)} (h : gL l c m = (ts, x, true)) : l.take x = encL ts ∧ x ≤ l.length ∧ ts.length ≤ c ∧ ts.length < 256 ^ 8 ∧ ∀ t ∈ ts, t.length ≤ m := by
  unfold gL at h
  rcases gn_cases l with hg | ⟨n, k, hg⟩
  · rw [hg] at h
    simp at h
  · obtain ⟨hk1, hk9, hkl, hn8, he⟩ := gn_ok hg
    rw [hg] at h
    simp only [true_and] at h
    split at h
    · cases hgl : gl l m k n with
      | none => rw [hgl] at h; simp at h
      | some q =>
        obtain ⟨us, y⟩ := q
        rw [hgl] at h
        simp at h
        obtain ⟨rfl, rfl⟩ := h
        obtain ⟨h1, h2, h3, h4, h5, h6⟩ := gl_ok hkl hk1 hgl
        refine ⟨?_, h1, by omega, by omega, h6⟩
        unfold encL
        rw [h5, h3, he]
    · simp at h

/-- Bytes that a list's are cut off of are none. -/
theorem gL_short (ts : List (List UInt8)) (c m : Nat) (hc : ts.length ≤ c) (h8 : ts.length < 256 ^ 8) (hm : ∀ t ∈ ts, t.length ≤ m ∧ t.length < 256 ^ 8) (hm8 : m < 256 ^ 8) (p : Nat) (hp : p < (encL ts).length) : (gL ((encL ts).take p) c m).2.2 = false := by
  rcases hg : gL ((encL ts).take p) c m with ⟨us, x, ok⟩
  cases ok with
  | false => rfl
  | true =>
    exfalso
    obtain ⟨h1, h2, h3, h4, h5⟩ := gL_spec hg
    simp only [List.length_take] at h2
    have e1 : (encL ts).take x = encL us := by
      rw [List.take_take] at h1
      rwa [Nat.min_eq_left (by omega)] at h1
    have e2 : encL ts = encL us ++ (encL ts).drop x := by rw [← e1, List.take_append_drop]
    have g1 := gL_enc ts [] c m hc h8 hm
    have g2 := gL_enc us ((encL ts).drop x) c m h3 h4 (fun t ht => ⟨h5 t ht, by have := h5 t ht; omega⟩)
    rw [List.append_nil, e2, g2] at g1
    simp only [Prod.mk.injEq, and_true] at g1
    have hl := congrArg List.length e1
    simp only [List.length_take] at hl
    have h6 := g1.2
    rw [← e2] at h6
    omega

/-- Two lists have the same bytes just if they are the same. -/
theorem encL_inj {ts us : List (List UInt8)} (h8 : ts.length < 256 ^ 8) (h8' : us.length < 256 ^ 8) (hm : ∀ t ∈ ts, t.length < 256 ^ 8) (hm' : ∀ t ∈ us, t.length < 256 ^ 8) (h : encL ts = encL us) : ts = us := by
  have g1 := gL_enc ts [] (256 ^ 8) (256 ^ 8) (by omega) h8 (fun t ht => ⟨by have := hm t ht; omega, hm t ht⟩)
  have g2 := gL_enc us [] (256 ^ 8) (256 ^ 8) (by omega) h8' (fun t ht => ⟨by have := hm' t ht; omega, hm' t ht⟩)
  rw [h, g2] at g1
  simp only [Prod.mk.injEq, and_true] at g1
  exact g1.symm

theorem enc_inj {n m : Nat} (hn : n < 256 ^ 8) (hm : m < 256 ^ 8) (h : enc n = enc m) : n = m := by
  have g1 := gn_enc n [] hn
  have g2 := gn_enc m [] hm
  rw [h, g2] at g1
  simp only [Prod.mk.injEq, and_true] at g1
  exact g1.symm
end Go.Proofs.YtmicmbjbclkbjaaDoor

/-
  pack.addStr, Str, Flag; the reference's: what the calls do.
-/
namespace Go.Proofs.YtmicmbjbclkbjaaDoor
open Go.RowKit
set_option maxRecDepth 100000 in
set_option maxHeartbeats 800000 in
theorem addStr_any (v : Value) (l : List UInt8) (s : ByteArray) (B : Nat) (w : World) (h : Own w B v l) (hB : B ≤ w.heap.size) (hl : l.length + s.size ≤ 140737488200000) :
    Calls Tryd.prog 91 #[v, .string s] w fun e w' => ∃ v', e = .returned v' ∧ Own w' B v' (l ++ encS (sl s)) ∧ Below B w w' := by
  obtain ⟨i0, hi, hz0, hz1, hz2⟩ := info_parts Tryd.info5S
  have hs := sl_length s
  have HS : Hid ((sl s).length = s.size) := hs
  have hs2 : (s.size : Int) ≤ 140737488200000 := by omega
  have hel := enc_length s.size
  clear hs
  go_enter Tryd.func91, Tryd.ntmps91
  go_wp2_with fail
  refine (addNum_any v l s.size B _ h hB (small_pow (by omega)) (by omega)).mono ?_
  rintro e w1 ⟨v1, rfl, ho1, hb1⟩
  go_wp2_with (at_builtin; refine wpList_append_bytes _ rfl (.tmp 9) (.tmp 10) 28 9 rfl B i0 Tryd.underlying28 hi hz0 hz1 hz2 v1 (l ++ enc s.size) rfl ho1 _ (sl s) rfl (src_str _ 9 Tryd.underlying9 s) (by have := HS.out; simp; omega) (by have := hb1.size; omega) ?_; intro v2 w2 ho2 hb2)
  go_ret
  refine ⟨_, rfl, ?_, hb1.trans hb2⟩
  unfold encS
  rw [HS.out, ← List.append_assoc]
  exact ho2

set_option maxRecDepth 100000 in
set_option maxHeartbeats 800000 in
theorem str_any (v : Value) (l : List UInt8) (s : ByteArray) (w : World) (h : Rd w v l) (hl : l.length + s.size ≤ 140737488200000) :
    Calls Tryd.prog 83 #[v, .string s] w fun e w' => ∃ v', e = .returned v' ∧ Own w' w.heap.size v' (l ++ encS (sl s)) ∧ Below w.heap.size w w' := by
  have hs2 : (s.size : Int) ≤ 140737488200000 := by omega
  go_enter Tryd.func83, Tryd.ntmps83
  go_wp2_with fail
  rw [show (9 + (s.size : Int)) = ((9 + s.size : Nat) : Int) from by omega]
  refine (fresh_any v l (9 + s.size) _ h (by omega)).mono ?_
  rintro e w1 ⟨v1, rfl, ho1, hb1⟩
  go_wp2_with fail
  refine (addStr_any v1 l s w.heap.size _ ho1 hb1.size hl).mono ?_
  rintro e w2 ⟨v2, rfl, ho2, hb2⟩
  go_wp2_with fail
  go_ret
  exact ⟨_, rfl, ho2, hb1.trans hb2⟩

set_option maxRecDepth 100000 in
set_option maxHeartbeats 800000 in
theorem flag_any (v : Value) (l : List UInt8) (f : Bool) (w : World) (h : Rd w v l) (hl : l.length ≤ 140737488200000) :
    Calls Tryd.prog 66 #[v, .bool f] w fun e w' => ∃ v', e = .returned v' ∧ Own w' w.heap.size v' (l ++ [if f then 1 else 0]) ∧ Below w.heap.size w w' := by
  obtain ⟨i0, hi, hz0, hz1, hz2⟩ := info_parts Tryd.info5S
  cases f
  · go_enter Tryd.func66, Tryd.ntmps66
    go_wp2_with fail
    refine (fresh_any v l 1 _ h (by omega)).mono ?_
    rintro e w1 ⟨v1, rfl, ho1, hb1⟩
    go_wp2_with (at_builtin; refine wpList_append_bytes _ rfl _ _ 28 28 rfl w.heap.size i0 Tryd.underlying28 hi hz0 hz1 hz2 v1 l rfl (by exact ho1.kept ((Below.refl _ _).alloc (Nat.le_refl _) _)) _ [0] rfl (by exact (rd_one _ 0 _ rfl).src 28 Tryd.underlying28) (by simp; omega) (by have := hb1.size; simp; omega) ?_; intro v2 w2 ho2 hb2)
    go_ret
    exact ⟨_, rfl, ho2, (hb1.trans ((Below.refl _ _).alloc hb1.size _)).trans hb2⟩
  · go_enter Tryd.func66, Tryd.ntmps66
    go_wp2_with fail
    refine (fresh_any v l 1 _ h (by omega)).mono ?_
    rintro e w1 ⟨v1, rfl, ho1, hb1⟩
    go_wp2_with (at_builtin; refine wpList_append_bytes _ rfl _ _ 28 28 rfl w.heap.size i0 Tryd.underlying28 hi hz0 hz1 hz2 v1 l rfl (by exact ho1.kept ((Below.refl _ _).alloc (Nat.le_refl _) _)) _ [1] rfl (by exact (rd_one _ 1 _ rfl).src 28 Tryd.underlying28) (by simp; omega) (by have := hb1.size; simp; omega) ?_; intro v2 w2 ho2 hb2)
    go_ret
    exact ⟨_, rfl, ho2, (hb1.trans ((Below.refl _ _).alloc hb1.size _)).trans hb2⟩
set_option maxRecDepth 100000 in
set_option maxHeartbeats 800000 in
theorem refStr_any (v : Value) (l : List UInt8) (s : ByteArray) (w : World) (h : Rd w v l) (hl : l.length + s.size ≤ 140737488200000) :
    Calls Tryd.prog 44 #[v, .string s] w fun e w' => ∃ v', e = .returned v' ∧ Own w' w.heap.size v' (l ++ encS (sl s)) ∧ Below w.heap.size w w' := by
  obtain ⟨i0, hi, hz0, hz1, hz2⟩ := info_parts Tryd.info5S
  have HS : Hid ((sl s).length = s.size) := sl_length s
  have hs2 : (s.size : Int) ≤ 140737488200000 := by omega
  have hel := enc_length s.size
  go_enter Tryd.func44, Tryd.ntmps44
  go_wp2_with fail
  refine (refNum_any v l s.size _ h (small_pow (by omega)) (by omega)).mono ?_
  rintro e w1 ⟨v1, rfl, ho1, hb1⟩
  go_wp2_with (at_builtin; refine wpList_append_bytes _ rfl (.tmp 9) (.tmp 10) 28 9 rfl w.heap.size i0 Tryd.underlying28 hi hz0 hz1 hz2 v1 (l ++ enc s.size) rfl ho1 _ (sl s) rfl (src_str _ 9 Tryd.underlying9 s) (by have := HS.out; simp; omega) hb1.size ?_; intro v2 w2 ho2 hb2)
  go_ret
  refine ⟨_, rfl, ?_, hb1.trans hb2⟩
  unfold encS
  rw [HS.out, ← List.append_assoc]
  exact ho2

set_option maxRecDepth 100000 in
set_option maxHeartbeats 800000 in
theorem refFlag_any (v : Value) (l : List UInt8) (f : Bool) (w : World) (h : Rd w v l) (hl : l.length ≤ 140737488200000) :
    Calls Tryd.prog 42 #[v, .bool f] w fun e w' => ∃ v', e = .returned v' ∧ Own w' w.heap.size v' (l ++ [if f then 1 else 0]) ∧ Below w.heap.size w w' := by
  obtain ⟨i0, hi, hz0, hz1, hz2⟩ := info_parts Tryd.info5S
  have hr1 : Rd (w.alloc (.cells #[] 5 (0, 0))) v l := h.kept ((Below.refl _ _).alloc (Nat.le_refl _) _)
  cases f
  · go_enter Tryd.func42, Tryd.ntmps42
    go_wp2_with (first
      | (at_builtin; refine wpList_append_bytes _ rfl (.tmp 11) (.tmp 12) 28 28 rfl w.heap.size i0 Tryd.underlying28 hi hz0 hz1 hz2 _ [] rfl (own_noneS w _ (Nat.le_refl _)) _ l rfl (hr1.src 28 Tryd.underlying28) (by simp; omega) (by simp) ?_; intro v1 w1 ho1 hb1; simp only [List.nil_append] at ho1)
      | (at_builtin; refine wpList_append_bytes _ rfl (.tmp 13) (.tmp 14) 28 28 rfl w.heap.size i0 Tryd.underlying28 hi hz0 hz1 hz2 v1 l rfl (by exact ho1.kept ((Below.refl _ _).alloc (Nat.le_refl _) _)) _ [0] rfl (by exact (rd_one _ 0 _ rfl).src 28 Tryd.underlying28) (by simp; omega) (by have := hb1.size; simp at this ⊢; omega) ?_; intro v2 w2 ho2 hb2))
    go_ret
    exact ⟨_, rfl, ho2, ((((Below.refl _ _).alloc (Nat.le_refl _) _).trans hb1).trans ((Below.refl _ _).alloc (by have := hb1.size; simp at this; omega) _)).trans hb2⟩
  · go_enter Tryd.func42, Tryd.ntmps42
    go_wp2_with (first
      | (at_builtin; refine wpList_append_bytes _ rfl (.tmp 6) (.tmp 7) 28 28 rfl w.heap.size i0 Tryd.underlying28 hi hz0 hz1 hz2 _ [] rfl (own_noneS w _ (Nat.le_refl _)) _ l rfl (hr1.src 28 Tryd.underlying28) (by simp; omega) (by simp) ?_; intro v1 w1 ho1 hb1; simp only [List.nil_append] at ho1)
      | (at_builtin; refine wpList_append_bytes _ rfl (.tmp 8) (.tmp 9) 28 28 rfl w.heap.size i0 Tryd.underlying28 hi hz0 hz1 hz2 v1 l rfl (by exact ho1.kept ((Below.refl _ _).alloc (Nat.le_refl _) _)) _ [1] rfl (by exact (rd_one _ 1 _ rfl).src 28 Tryd.underlying28) (by simp; omega) (by have := hb1.size; simp at this ⊢; omega) ?_; intro v2 w2 ho2 hb2))
    go_ret
    exact ⟨_, rfl, ho2, ((((Below.refl _ _).alloc (Nat.le_refl _) _).trans hb1).trans ((Below.refl _ _).alloc (by have := hb1.size; simp at this; omega) _)).trans hb2⟩

end Go.Proofs.YtmicmbjbclkbjaaDoor

/-
  pack.limit, GetStr, GetFlag; the reference's: what the calls do.
-/
namespace Go.Proofs.YtmicmbjbclkbjaaDoor
open Go.RowKit
theorem ret_intG {k : IntKind} {a b : Int} (h : a = b) : Ending.returned (.int k a) = .returned (.int k b) := by rw [h]

theorem limit_any (m : Int) (w : World) (h : (Lit.int .i64 m).wf = true) : Calls Tryd.prog 72 #[.int .i64 m] w fun e w' => e = .returned (.int .u64 (m.toNat : Int)) ∧ w' = w := by
  have hb := bounds_i64 h
  have HB : Hid (m ≤ 9223372036854775807) := hb.2
  clear hb h
  go_enter Tryd.func72, Tryd.ntmps72
  go_wp2
  · go_ret
    exact ⟨ret_intG (by rw [IntKind.wrap_u64]; omega), rfl⟩
  · go_ret
    exact ⟨ret_intG (by rw [IntKind.wrap_u64]; have := HB.out; omega), rfl⟩

theorem ret_str {s t : List UInt8} {c d : Int} {x y : Bool} (h1 : s = t) (h2 : c = d) (h3 : x = y) : Ending.returned (.tuple #[.string ⟨s.toArray⟩, .int .i64 c, .bool x]) = .returned (.tuple #[.string ⟨t.toArray⟩, .int .i64 d, .bool y]) := by
  rw [h1, h2, h3]

set_option maxRecDepth 100000 in
set_option maxHeartbeats 400000 in
theorem getStr_any (v : Value) (l : List UInt8) (m : Int) (w : World) (h : Rd w v l) (hl : l.length ≤ 140737488300000) (hm : (Lit.int .i64 m).wf = true) :
    Calls Tryd.prog 52 #[v, .int .i64 m] w fun e w' => e = .returned (.tuple #[.string ⟨(gs l m.toNat).1.toArray⟩, .int .i64 (gs l m.toNat).2.1, .bool (gs l m.toNat).2.2]) ∧ Below w.heap.size w w' := by
  rcases gn_cases l with hg | ⟨n, k, hg⟩
  · have HG : Hid (gs l m.toNat = ([], 0, false)) := gs_no hg (by simp)
    have h0 := h
    obtain ⟨a, cap, rfl, -⟩ := h
    go_enter Tryd.func52, Tryd.ntmps52
    go_wp2_with fail
    refine (getNum_any _ l _ h0 (by omega)).mono ?_
    rw [hg]
    rintro e w1 ⟨rfl, hb1⟩
    go_wp2_with fail
    go_ret3
    exact ⟨by rw [HG.out]; rfl, hb1⟩
  · obtain ⟨hk1, hk9, hkl, hn8, -⟩ := gn_ok hg
    have Hn8 : Hid (n < 256 ^ 8) := hn8
    clear hn8
    have h0 := h
    obtain ⟨a, cap, rfl, hcap, -, -, h4⟩ := h
    obtain ⟨b, off, rfl, -, -⟩ := h4 (by omega)
    clear h4
    by_cases hn : n ≤ m.toNat
    · have hn' : (n : Int) ≤ (m.toNat : Int) := by omega
      by_cases hnk : n + k ≤ l.length
      · have HG : Hid (gs l m.toNat = ((l.drop k).take n, k + n, true)) := gs_yes hg hn hnk
        have h1 : (k : Int) ≤ l.length := by omega
        have h2 : (n : Int) ≤ (l.length : Int) - k := by omega
        have hk' : Hid (k ≤ l.length) := hkl
        by_cases hck : cap = k
        · obtain rfl : n = 0 := by omega
          have hlk : l.length = k := by omega
          have hrd := (h0.drop k hkl off (.inr hlk.symm)).take 0 (by omega)
          subst hck
          have hkk : Hid (l.length = cap) := hlk
          clear hlk
          go_enter Tryd.func52, Tryd.ntmps52
          go_wp2_with fail
          refine (getNum_any _ l _ h0 (by omega)).mono ?_
          rw [hg]
          rintro e w1 ⟨rfl, hb1⟩
          have hcv := (hrd.kept hb1).conv (P := Tryd.prog) 28 9 Tryd.underlying28 Tryd.underlying5 Tryd.underlying9
          simp only [Nat.sub_self, List.take_zero] at hcv
          clear hrd h0
          go_wp2_with fail
          refine (limit_any _ _ hm).mono ?_
          rintro e w2 ⟨rfl, rfl⟩
          go_wp2_with fail
          go_ret3
          refine ⟨?_, hb1⟩
          rw [HG.out]
          exact ret_str (by simp) (by simp) rfl
        · have hrd := (h0.drop k hkl (off + k) (.inl rfl)).take n (by omega)
          go_enter Tryd.func52, Tryd.ntmps52
          go_wp2_with fail
          refine (getNum_any _ l _ h0 (by omega)).mono ?_
          rw [hg]
          rintro e w1 ⟨rfl, hb1⟩
          have hcv := (hrd.kept hb1).conv (P := Tryd.prog) 28 9 Tryd.underlying28 Tryd.underlying5 Tryd.underlying9
          clear hrd h0
          go_wp2_with fail
          refine (limit_any _ _ hm).mono ?_
          rintro e w2 ⟨rfl, rfl⟩
          go_wp2_with fail
          go_ret3
          exact ⟨by rw [HG.out]; rfl, hb1⟩
      · have HG : Hid (gs l m.toNat = ([], 0, false)) := gs_no hg (by simp; omega)
        have h1 : (k : Int) ≤ l.length := by omega
        have h2 : ¬ (n : Int) ≤ (l.length : Int) - k := by omega
        go_enter Tryd.func52, Tryd.ntmps52
        go_wp2_with fail
        refine (getNum_any _ l _ h0 (by omega)).mono ?_
        rw [hg]
        rintro e w1 ⟨rfl, hb1⟩
        go_wp2_with fail
        refine (limit_any _ _ hm).mono ?_
        rintro e w2 ⟨rfl, rfl⟩
        go_wp2_with fail
        go_ret3
        exact ⟨by rw [HG.out]; rfl, hb1⟩
    · have hn' : ¬ (n : Int) ≤ (m.toNat : Int) := by omega
      have HG : Hid (gs l m.toNat = ([], 0, false)) := gs_no hg (by simp; omega)
      go_enter Tryd.func52, Tryd.ntmps52
      go_wp2_with fail
      refine (getNum_any _ l _ h0 (by omega)).mono ?_
      rw [hg]
      rintro e w1 ⟨rfl, hb1⟩
      go_wp2_with fail
      refine (limit_any _ _ hm).mono ?_
      rintro e w2 ⟨rfl, rfl⟩
      go_wp2_with fail
      go_ret3
      exact ⟨by rw [HG.out]; rfl, hb1⟩

set_option maxRecDepth 100000 in
set_option maxHeartbeats 400000 in
theorem getFlag_any (v : Value) (l : List UInt8) (w : World) (h : Rd w v l) :
    Calls Tryd.prog 50 #[v] w fun e w' => e = .returned (.tuple #[.bool (gf l).1, .int .i64 (gf l).2.1, .bool (gf l).2.2]) ∧ w' = w := by
  obtain ⟨a, cap, rfl, h1, h2, h3, h4⟩ := h
  cases l with
  | nil =>
    go_enter Tryd.func50, Tryd.ntmps50
    go_wp2
    go_ret3
    exact ⟨rfl, rfl⟩
  | cons x r =>
    obtain ⟨b, off, rfl, hlt, hc⟩ := h4 (by simp)
    clear h4 h3
    have hc0 : w.cell? ⟨b, off, none⟩ = some (.int .u8 (x.toNat : Int)) := hc 0 _ rfl
    have hz : ((r.length : Int) + 1 == 0) = false := by simp; omega
    clear hc
    by_cases hx : 1 < x.toNat
    · have HG : Hid (gf (x :: r) = (false, 0, false)) := (show _ = _ by simp [gf, hx])
      have hx' : (1 : Int) < x.toNat := by omega
      generalize x.toNat = y at *
      go_enter Tryd.func50, Tryd.ntmps50
      go_wp2
      go_ret3
      exact ⟨by rw [HG.out]; rfl, rfl⟩
    · have HG : Hid (gf (x :: r) = (decide (x.toNat = 1), 1, true)) := (show _ = _ by simp [gf, hx])
      have hx' : ¬ (1 : Int) < x.toNat := by omega
      generalize x.toNat = y at *
      by_cases hy : y = 1
      · subst hy
        go_enter Tryd.func50, Tryd.ntmps50
        go_wp2
        go_ret3
        exact ⟨by rw [HG.out]; rfl, rfl⟩
      · have hy' : ((y : Int) == 1) = false := by simp; omega
        have HD : Hid (decide (y = 1) = false) := (show _ = _ by simp [hy])
        go_enter Tryd.func50, Tryd.ntmps50
        go_wp2
        go_ret3
        exact ⟨by rw [HG.out]; show _ = Ending.returned (.tuple #[.bool (decide (y = 1)), _, _]); rw [HD.out]; rfl, rfl⟩

end Go.Proofs.YtmicmbjbclkbjaaDoor
