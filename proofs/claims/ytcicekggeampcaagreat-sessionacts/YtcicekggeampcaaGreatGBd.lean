/-
  Texts that ride together: BfD BfE BfSm.
-/
import Derived.Test.YtcicekggeampcaaGreatGBc
import Derived.Test.YtcicekggeampcaaGreatGBb
import Derived.Laws.IdiomCopy
import Derived.Test.YtcicekggeampcaaGreatGBa
import Derived.Laws.StructEq
import Derived.Lib.QuietBelow
/-
  Over's closure, slices.IndexFunc and DeleteFunc over pairs, Over: what the calls do.
-/
namespace Go.Proofs.YtcicekggeampcaaGreat
open Go.RowKit
set_option maxRecDepth 100000 in
theorem outside_any {w : World} {F1 T1 : Nat} {a b : ByteArray} (h1 : Blk w F1 9 [.string a]) (h2 : Blk w T1 9 [.string b]) (p : Pr) : Calls Tryz.prog 83 #[.agg (PC p).toArray, PT F1, PT T1] w fun e w' => e = .returned (.bool (!inR a b p)) ∧ Below w.heap.size w w' := by
  have hb : Below w.heap.size w (w.alloc (.cells (PC p).toArray 51 (0, 0))) := (Below.refl _ _).alloc (Nat.le_refl _) _
  have HB := hide hb
  have c1 := (h1.kept hb).cell (j := 0) rfl
  have c2 := (h2.kept hb).cell (j := 0) rfl
  have hge := sge
  obtain ⟨r, HR⟩ : ∃ r, Hid ((!inR a b p) = r) := ⟨_, rfl⟩
  rw [HR.out]
  clear hb h1 h2
  obtain ⟨k, v, d⟩ := p
  obtain ⟨m1, hm1⟩ : ∃ m, lt k a = m := ⟨_, rfl⟩
  obtain ⟨m2, hm2⟩ : ∃ m, lt k b = m := ⟨_, rfl⟩
  have hm1' : Op.bytesLess k.toList a.toList = m1 := hm1
  have hr : r = (m1 || !m2) := by rw [← HR.out, ← hm1, ← hm2]; simp [inR]
  simp only [PC] at *
  cases m1 <;> cases m2 <;> (simp only [Bool.or_true, Bool.or_false, Bool.not_true, Bool.not_false] at hr; subst hr; go_enter Tryz.func83, Tryz.ntmps83; go_wp2; go_ret; exact ⟨rfl, HB.out⟩)
/-- All are in the range. -/
def AllIn (a b : ByteArray) (L : List Pr) : Prop := L.filter (inR a b) = L
/-- The first that is not is that at k. -/
def FirstOut (a b : ByteArray) (L : List Pr) (k : Nat) : Prop := (L.take (k + 1)).filter (inR a b) = L.take k
/-- How many of the first ones are in the range. -/
def fi (a b : ByteArray) (L : List Pr) : Nat := (L.takeWhile (inR a b)).length
theorem fi_eq {a b : ByteArray} : ∀ {L : List Pr} {i : Nat}, (∀ j (hj : j < L.length), j < i → inR a b L[j] = true) → i ≤ L.length → (∀ h : i < L.length, inR a b L[i] = false) → fi a b L = i ∧ (L.take i).filter (inR a b) = L.take i
  | [], i, _, hi, _ => by
    obtain rfl : i = 0 := by simpa using hi
    exact ⟨rfl, rfl⟩
  | p :: L, 0, _, _, h => by
    have := h (by simp)
    simp only [List.getElem_cons_zero] at this
    exact ⟨by simp [fi, this], rfl⟩
  | p :: L, i + 1, h1, hi, h2 => by
    have hp := h1 0 (by simp) (by omega)
    simp only [List.getElem_cons_zero] at hp
    obtain ⟨g1, g2⟩ := fi_eq (a := a) (b := b) (L := L) (i := i) (fun j hj hji => by
      have := h1 (j + 1) (by simpa using hj) (by omega)
      simpa using this) (by simpa using hi) (fun h => by
      have := h2 (by simpa using h)
      simpa using this)
    refine ⟨?_, ?_⟩
    · unfold fi at g1 ⊢
      rw [List.takeWhile_cons, if_pos hp, List.length_cons, g1]
    · rw [List.take_succ_cons, List.filter_cons_of_pos hp, g2]
set_option maxHeartbeats 1000000 in
set_option maxRecDepth 100000 in
theorem index_any {w : World} {F1 T1 : Nat} {a b : ByteArray} {v : Value} {L : List Pr} (h1 : Blk w F1 9 [.string a]) (h2 : Blk w T1 9 [.string b]) (hr : RdG PE w v L) :
    Calls Tryz.prog 106 #[v, .func (.func 83) #[] #[PT F1, PT T1]] w fun e w' => (∃ i, e = .returned (.int .i64 i) ∧ ((i = -1 ∧ AllIn a b L) ∨ ∃ k : Nat, i = (k : Int) ∧ k < L.length ∧ FirstOut a b L k)) ∧ Below w.heap.size w w' := by
  have H1 := hide h1
  have H2 := hide h2
  have HR := hide hr
  obtain ⟨x, c, rfl⟩ := hr.slice
  obtain ⟨n, HN⟩ : ∃ n, Hid (L.length = n) := ⟨_, rfl⟩
  rw [HN.out] at HR ⊢
  have hm := Nat.le_trans HR.out.cap HR.out.max
  clear h1 h2 hr
  go_enter Tryz.func106, Tryz.ntmps106
  go_wp2_with fail
  go_loopg [8] (n + 1) (fun g z wr => ∃ i : Nat, i ≤ n ∧ g + i = n + 1 ∧ z = .int .i64 (i : Int) ∧ Hid (∀ j (hj : j < L.length), j < i → inR a b L[j] = true) ∧ Hid (Below w.heap.size w wr))
  case atStart => exact ⟨0, Nat.zero_le _, by omega, rfl, (show ∀ j (hj : j < L.length), _ from fun j hj h => by omega), Below.refl _ _⟩
  case round =>
    obtain ⟨i, hi, hg, rfl, HT, BL⟩ := hrel
    by_cases hlt : i < n
    · have hlt2 : i < L.length := by rw [HN.out]; exact hlt
      obtain ⟨bb, off, rfl, hb1, hx⟩ := (HR.out.kept BL.out).nth (by omega)
      have hrow : wr.rangeAt bb (off + i * 3) (PC L[i]) := hx i hlt2
      have CO := hide (outside_any (H1.out.kept BL.out) (H2.out.kept BL.out) L[i])
      obtain ⟨p, HP⟩ : ∃ p, Hid (L[i] = p) := ⟨L[i], (show L[i] = L[i] from rfl)⟩
      rw [HP.out] at hrow CO
      obtain ⟨o, HO⟩ : ∃ o, Hid (inR a b p = o) := ⟨_, rfl⟩
      rw [HO.out] at CO
      have hlt' : (i : Int) < (n : Int) := by omega
      clear hx
      go_wp2_with (first
        | (refine wpList_load_mid rfl 51 _ rfl bb (off + i * 3) rfl (PC p) _ hrow Tryz.underlying51 rfl Tryz.size51 ?_)
        | fail)
      refine CO.out.mono ?_
      rintro e w2 ⟨rfl, hb2⟩
      have L2 : Hid (Below w.heap.size w w2) := (show _ from BL.out.trans (hb2.mono BL.out.size))
      clear hb2 CO hrow
      cases o with
      | true =>
        go_wp2_with fail
        go_roundg (n - i)
        case measure => omega
        case rel => exact ⟨i + 1, by omega, by omega, by go_num, (show ∀ j (hj : j < L.length), _ from fun j hj hji => by
          by_cases e : j = i
          · subst e
            rw [HP.out]
            exact HO.out
          · exact HT.out j hj (by omega)), L2⟩
      | false =>
        have hfi := fi_eq (a := a) (b := b) (L := L) (i := i) HT.out (by omega) (fun _ => by rw [HP.out]; exact HO.out)
        have HF : Hid ((L.take (i + 1)).filter (inR a b) = L.take i) := (show _ = _ by
          rw [List.take_succ_eq_append_getElem hlt2, List.filter_append, hfi.2, HP.out, List.filter_cons_of_neg (by rw [HO.out]; simp)]
          simp)
        clear hfi
        go_wp2_with fail
        go_ret
        exact ⟨⟨_, rfl, .inr ⟨i, rfl, hlt, HF.out⟩⟩, L2.out⟩
    · obtain rfl : i = n := by omega
      have hlt' : ¬ (i : Int) < i := by omega
      have HF : Hid (L.filter (inR a b) = L) := (show _ = _ by
        refine List.filter_eq_self.2 (fun p hp => ?_)
        obtain ⟨j, hj, e⟩ := List.getElem_of_mem hp
        rw [← e]
        exact HT.out j hj (by rw [← HN.out]; exact hj))
      go_wp2_with fail
      go_ret
      exact ⟨⟨_, rfl, .inl ⟨rfl, HF.out⟩⟩, BL.out⟩
theorem take_over {cs ds : List Value} {o k : Nat} (h : o + ds.length ≤ k) (hk : k ≤ cs.length) : (over cs o ds).take k = over (cs.take k) o ds := by
  have e1 : (cs.take o).length = o := by rw [List.length_take]; omega
  unfold over
  rw [List.take_append, List.take_append, List.length_append, e1, List.take_of_length_le (l := cs.take o) (by omega), List.take_of_length_le (l := ds) (by omega), List.take_take, List.drop_take, show min o k = o by omega]
theorem cs_set {R : List Pr} {i : Nat} (h : i < R.length) (x : Pr) : over (PE.cs R) (i * 3) (PC x) = PE.cs (R.set i x) := by
  unfold over
  have e1 : (PE.cs R).take (i * 3) = PE.cs (R.take i) := (Enc.cs_take (E := PE) R i).symm
  have e2 : (PE.cs R).drop (i * 3 + (PC x).length) = PE.cs (R.drop (i + 1)) := by
    have := (Enc.cs_drop (E := PE) R (i + 1)).symm
    rw [show (i + 1) * PE.n = i * 3 + (PC x).length from Nat.add_mul i 1 3] at this
    exact this
  rw [e1, e2, List.set_eq_take_append_cons_drop, if_pos h, Enc.cs_append, Enc.cs_cons, List.append_assoc]
  rfl
/-- An element of an owned row is stored. -/
theorem wpList_store_own {ops : Array Oper} {rest : List Oper} {op : Oper} {a : Act} {w : World} {Q : Exit → Act → World → Prop} (hgd : op.guard = none) (x y : Operand) (ho : op.op = .store 51 x y) (g i n cap B : Nat) (R : List Pr) (p : Pr)
    (hx : a.eval x = .pointer (some ⟨g, i * 3, none⟩)) (hy : a.eval y = .agg (PC p).toArray) (hO : OwnG PE w B 51 (.slice (some ⟨g, 0, none⟩) n cap) R) (hi : i < R.length)
    (h : ∀ w', OwnG PE w' B 51 (.slice (some ⟨g, 0, none⟩) n cap) (R.set i p) → But g w w' → wpList Tryz.prog ops Q rest (a.put op.dst undef) w') : wpList Tryz.prog ops Q (op :: rest) a w := by
  have hlen := hO.rd.len
  obtain ⟨g', cap', cur, hv, hBg, hB, htk, hcl, hlc, hcm⟩ := hO.blk (by omega)
  simp only [Value.slice.injEq, Option.some.injEq, Addr.mk.injEq, and_true] at hv
  obtain ⟨rfl, hn, rfl⟩ := hv
  have h3 : cur.length = cap * 3 := hcl
  have h4 : R.length * 3 ≤ cap * 3 := Nat.mul_le_mul_right _ hlc
  have h5 : i * 3 + 3 ≤ R.length * 3 := by omega
  refine wpList_store_mid hgd 51 x y ho g (i * 3) (PC p).toArray hx hy (hB.there (i * 3) 3 (by omega)) Tryz.size51 (all_one (PC_one p)) ?_
  have hb := Blk.over (PC p) hB (i * 3) (by show i * 3 + 3 ≤ _; omega)
  refine h _ ?_ (But.setCells g (PC p) (i * 3) w)
  have hfin := OwnG.of_blk (E := PE) (B := B) (cap := cap) (L := R.set i p) hb hBg (by
    rw [List.length_set, show PE.n = 3 from rfl, take_over (by show i * 3 + 3 ≤ _; omega) (by omega)]
    have : cur.take (R.length * 3) = PE.cs R := htk
    rw [this, cs_set hi]) (by rw [over_length (by show i * 3 + 3 ≤ _; omega)]; exact hcl) (by rw [List.length_set]; exact hlc) hcm
  rw [List.length_set, ← hn] at hfin
  exact hfin
theorem run_clear_P (w : World) (ty : TypeId) (b o n c : Nat) (hn : 0 < n) (hc : ∀ j, j < n * 3 → (w.cell? ⟨b, o + j, none⟩).isSome = true) (hf : ∀ j, j < n * 3 → w.frozen? ⟨b, o + j, none⟩ = false) :
    ∃ Z : List Value, Z.length = n * 3 ∧ (Builtin.clear_ #[35] ty #[.slice (some ⟨b, o, none⟩) n c]).run Tryz.prog w = .ok (.tuple #[]) (w.setCells b o Z) := by
  obtain ⟨z, hz⟩ : ∃ z, z = (Builtin.zeroCells (Value.agg (PC zp).toArray).cells n).toList := ⟨_, rfl⟩
  have hl : z.length = n * 3 := by rw [hz]; simp [Builtin.zeroCells, PC, Value.cells]
  have h1 : ∀ v ∈ z, v.oneCell' = true := by
    intro v hv
    rw [hz] at hv
    simp only [Builtin.zeroCells, Array.toList_map, List.mem_map] at hv
    obtain ⟨k, _, rfl⟩ := hv
    have hk : k % (Value.agg (PC zp).toArray).cells.size < 3 := Nat.mod_lt _ (by decide)
    have : (Value.agg (PC zp).toArray).cells[k % (Value.agg (PC zp).toArray).cells.size]! ∈ PC zp := by
      have e : (Value.agg (PC zp).toArray).cells = (PC zp).toArray := rfl
      rw [e, getElem!_pos _ _ (by show _ < 3; exact hk)]
      simp
    exact PC_one zp _ this
  have hst := run_storeCells_cells (P := Tryz.prog) b o z 0 w (by rw [hl]; simpa using hc) (by rw [hl]; simpa using hf) h1
  simp only [Nat.add_zero] at hst
  refine ⟨z, hl, ?_⟩
  obtain ⟨m, rfl⟩ : ∃ m, n = m + 1 := ⟨n - 1, by omega⟩
  rw [hz] at hst
  simp [Builtin.clear_, run_underlying Tryz.underlying35, hz]
  change (Sem.run _ (storeCells ⟨b, o, none⟩ (Builtin.zeroCells (Value.agg (PC zp).toArray).cells (m + 1)).toList) w).andThen _ = _
  rw [hst]
  rfl
end Go.Proofs.YtcicekggeampcaaGreat

/-
  slices.DeleteFunc over pairs, Over: what the calls do.
-/
namespace Go.Proofs.YtcicekggeampcaaGreat
open Go.RowKit
/-- How far a DeleteFunc has come: the row R, i of it stand, j are looked at. -/
def Dl (a b : ByteArray) (L R : List Pr) (i j : Nat) : Prop := R.length = L.length ∧ i < j ∧ j ≤ L.length ∧ R.take i = (L.take j).filter (inR a b) ∧ R.drop j = L.drop j
theorem Dl.start {a b : ByteArray} {L : List Pr} {k : Nat} (hk : k < L.length) (h : FirstOut a b L k) : Dl a b L L k (k + 1) := ⟨rfl, by omega, by omega, h.symm, rfl⟩
theorem Dl.at {a b : ByteArray} {L R : List Pr} {i j : Nat} (h : Dl a b L R i j) (hj : j < L.length) : ∃ hj' : j < R.length, R[j] = L[j] := by
  obtain ⟨h1, h2, h3, h4, h5⟩ := h
  refine ⟨by omega, ?_⟩
  have e1 := List.drop_eq_getElem_cons (l := R) (i := j) (by omega)
  have e2 := List.drop_eq_getElem_cons (l := L) (i := j) hj
  rw [e1, e2] at h5
  exact (List.cons.inj h5).1
theorem Dl.out {a b : ByteArray} {L R : List Pr} {i j : Nat} (h : Dl a b L R i j) (hj : j < L.length) (ho : inR a b L[j] = false) : Dl a b L R i (j + 1) := by
  obtain ⟨h1, h2, h3, h4, h5⟩ := h
  refine ⟨h1, by omega, by omega, ?_, ?_⟩
  · rw [h4, List.take_succ_eq_append_getElem hj, List.filter_append, List.filter_cons_of_neg (by rw [ho]; simp)]
    simp
  · rw [← List.drop_drop, ← List.drop_drop, h5]
theorem Dl.stay {a b : ByteArray} {L R : List Pr} {i j : Nat} (h : Dl a b L R i j) (hj : j < L.length) (ho : inR a b L[j] = true) : Dl a b L (R.set i L[j]) (i + 1) (j + 1) := by
  obtain ⟨h1, h2, h3, h4, h5⟩ := h
  refine ⟨by rw [List.length_set]; exact h1, by omega, by omega, ?_, ?_⟩
  · rw [List.take_succ_eq_append_getElem (by rw [List.length_set]; omega), List.getElem_set_self, List.take_set, List.set_eq_of_length_le (by rw [List.length_take]; omega), h4, List.take_succ_eq_append_getElem hj, List.filter_append, List.filter_cons_of_pos ho]
    simp
  · rw [List.drop_set, if_pos (by omega), ← List.drop_drop, ← List.drop_drop, h5]
theorem Dl.ends {a b : ByteArray} {L R : List Pr} {i : Nat} (h : Dl a b L R i L.length) : R.take i = L.filter (inR a b) := by
  obtain ⟨h1, h2, h3, h4, h5⟩ := h
  rw [h4, List.take_of_length_le (Nat.le_refl _)]
theorem slice_at {g i n c : Nat} (hi : i < n) (hn : n ≤ c) : ∀ W : World, (Instr.sliceAt 35 (.slice (some ⟨g, 0, none⟩) n c) (some (.int .i64 (i : Int))) none none).run Tryz.prog W = .ok (.slice (some ⟨g, i * 3, none⟩) (n - i) (c - i)) W := by
  obtain ⟨a', h1, h2, -⟩ := slice_G (E := PE) (P := Tryz.prog) (t := 35) (e := 51) Tryz.underlying35 Tryz.size51 (some ⟨g, 0, none⟩) n c i (by omega) hn
  rw [if_neg (by omega), Option.map_some, Addr.add_mid, Nat.zero_add] at h2
  rw [h2] at h1
  exact h1
/-- What a row is when its end is cleared. -/
theorem cleared_own {w : World} {B g n cap i : Nat} {R : List Pr} {Z : List Value} (hO : OwnG PE w B 51 (.slice (some ⟨g, 0, none⟩) n cap) R) (hi : i < n) (hZ : Z.length = (n - i) * 3) :
    OwnG PE (w.setCells g (i * 3) Z) B 51 (.slice (some ⟨g, 0, none⟩) i cap) (R.take i) := by
  have hlen := hO.rd.len
  obtain ⟨g', cap', cur, hv, hBg, hB, htk, hcl, hlc, hcm⟩ := hO.blk (by omega)
  simp only [Value.slice.injEq, Option.some.injEq, Addr.mk.injEq, and_true] at hv
  obtain ⟨rfl, hn, rfl⟩ := hv
  have h3 : cur.length = cap * 3 := hcl
  have h4 : R.length * 3 ≤ cap * 3 := Nat.mul_le_mul_right _ hlc
  have hb := Blk.over Z hB (i * 3) (by omega)
  have hfin := OwnG.of_blk (E := PE) (B := B) (cap := cap) (L := R.take i) hb hBg (by
    rw [List.length_take, show PE.n = 3 from rfl, show min i R.length = i by omega]
    have e1 : (over cur (i * 3) Z).take (i * 3) = cur.take (i * 3) := by
      unfold over
      rw [List.append_assoc, List.take_append, List.length_take, List.take_take, show min (i * 3) (i * 3) = i * 3 by omega, show i * 3 - min (i * 3) cur.length = 0 by omega]
      simp
    have e2 : cur.take (R.length * 3) = PE.cs R := htk
    have e3 : cur.take (i * 3) = (cur.take (R.length * 3)).take (i * 3) := by rw [List.take_take, show min (i * 3) (R.length * 3) = i * 3 by omega]
    rw [e1, e3, e2, Enc.cs_take]
    rfl) (by rw [over_length (by omega)]; exact hcl) (by rw [List.length_take]; omega) hcm
  rw [List.length_take, show min i R.length = i by omega] at hfin
  exact hfin
set_option maxHeartbeats 4000000 in
set_option maxRecDepth 100000 in
theorem delete_any {w : World} {B F1 T1 : Nat} {a b : ByteArray} {v : Value} {L : List Pr} (h1 : Blk w F1 9 [.string a]) (h2 : Blk w T1 9 [.string b]) (ho : OwnG PE w B 51 v L) (hl : L.length ≤ 1000000) :
    Calls Tryz.prog 86 #[v, .func (.func 83) #[] #[PT F1, PT T1]] w fun e w' => ∃ v', e = .returned v' ∧ OwnG PE w' B 51 v' (L.filter (inR a b)) ∧ Chg (fun k => v.ownBlock = some k) w w' := by
  have hz := Zpair
  have CI := hide (index_any h1 h2 ho.rd)
  have H1 := hide h1
  have H2 := hide h2
  have HO := hide ho
  obtain ⟨x, c, rfl⟩ := ho.form
  obtain ⟨n, HN⟩ : ∃ n, Hid (L.length = n) := ⟨_, rfl⟩
  rw [HN.out] at HO CI hl ⊢
  obtain ⟨T, HT⟩ : ∃ T, Hid (L.filter (inR a b) = T) := ⟨_, rfl⟩
  rw [HT.out]
  have HAP : Hid (∀ k, (Value.slice x n c).ownBlock = some k → k ≠ F1 ∧ k ≠ T1) := (show _ from fun k hk => by
    obtain ⟨_, _, cur, hcur⟩ := HO.out.block hk
    refine ⟨fun e => ?_, fun e => ?_⟩
    · subst e
      have := H1.out.symm.trans hcur
      simp at this
    · subst e
      have := H2.out.symm.trans hcur
      simp at this)
  clear h1 h2 ho
  go_enter Tryz.func86, Tryz.ntmps86
  go_wp2_with fail
  refine CI.out.mono ?_
  rintro e w2 ⟨⟨i0, rfl, hcase⟩, hb2⟩
  have O2 := hide (HO.out.kept hb2)
  have K1 := hide (H1.out.kept hb2)
  have K2 := hide (H2.out.kept hb2)
  have C2 : Hid (Chg (fun k => (Value.slice x n c).ownBlock = some k) w w2) := (show Chg _ _ _ from Chg.of_below hb2)
  clear hb2 CI
  rcases hcase with ⟨rfl, hall⟩ | ⟨k, rfl, hk, hfo⟩
  · have HX : Hid (T = L) := (show _ = _ by rw [← HT.out]; exact hall)
    clear hall
    go_wp2_with fail
    go_ret
    refine ⟨_, rfl, ?_, C2.out⟩
    rw [HX.out]
    exact O2.out
  · have HD0 := hide (Dl.start (by rw [HN.out]; exact hk) hfo)
    have q1 : ((k : Int) == -1) = false := by simp
    obtain ⟨g, c', cur, hv, hBg, hBk, -⟩ := O2.out.blk (by rw [HN.out]; omega)
    simp only [Value.slice.injEq] at hv
    obtain ⟨rfl, -, rfl⟩ := hv
    have hcap : n ≤ c := O2.out.rd.cap
    clear hfo cur hBk
    go_wp2_with fail
    go_loopg [5, 6] (n - k) (fun gg z y wr => ∃ (i j : Nat) (R : List Pr), z = .int .i64 (i : Int) ∧ y = .int .i64 (j : Int) ∧ gg + j = n + 1 ∧ i < j ∧ j ≤ n ∧ Hid (Dl a b L R i j) ∧ Hid (OwnG PE wr B 51 (.slice (some ⟨g, 0, none⟩) n c) R) ∧ Hid (Chg (fun k => (Value.slice (some ⟨g, 0, none⟩) n c).ownBlock = some k) w wr) ∧ Hid (Blk wr F1 9 [.string a]) ∧ Hid (Blk wr T1 9 [.string b]))
    case atStart => exact ⟨k, k + 1, L, rfl, by go_num, by omega, by omega, by omega, HD0, O2, C2, K1, K2⟩
    case round =>
      obtain ⟨i, j, R, rfl, rfl, hg, hij, hjn, HD, OR, CR, R1, R2⟩ := hrel
      clear O2 C2 K1 K2 HD0
      have hgF := HAP.out g rfl
      by_cases hlt : j < n
      · have hlt' : (j : Int) < (n : Int) := by omega
        have q2 : decide ((j : Int) < (n : Int)) = true := by simp; omega
        have hjL : j < L.length := by rw [HN.out]; exact hlt
        obtain ⟨hjR, hRj⟩ := HD.out.at hjL
        obtain ⟨b0, o0, hab, hbw, hx⟩ := OR.out.rd.nth (by omega)
        simp only [Option.some.injEq, Addr.mk.injEq, and_true] at hab
        obtain ⟨hab1, hab2⟩ := hab
        subst hab1
        subst hab2
        have hrow : wr.rangeAt g (j * 3) (PC L[j]) := by have h9 : wr.rangeAt g (0 + j * 3) (PC R[j]) := hx j hjR; rw [hRj, Nat.zero_add] at h9; exact h9
        obtain ⟨p, HP⟩ : ∃ p, Hid (L[j] = p) := ⟨L[j], (show L[j] = L[j] from rfl)⟩
        rw [HP.out] at hrow
        obtain ⟨E, HE⟩ : ∃ E, Hid (wr.heap.size = E) := ⟨_, rfl⟩
        obtain ⟨w3, hw3⟩ : ∃ y, y = wr.alloc (.cells (PC p).toArray 51 (0, 0)) := ⟨_, rfl⟩
        have hb3 : Below wr.heap.size wr w3 := by rw [hw3]; exact (Below.refl _ _).alloc (Nat.le_refl _) _
        have B3 : Hid (Blk w3 E 51 (PC p)) := (show Blk _ _ _ _ by rw [hw3, ← HE.out]; exact Blk.new wr 51 (PC p))
        have CO := hide (outside_any (R1.out.kept hb3) (R2.out.kept hb3) p)
        have L3 := hide hb3
        have HW3 := hide hw3
        obtain ⟨o, HO9⟩ : ∃ o, Hid (inR a b p = o) := ⟨_, rfl⟩
        rw [HO9.out] at CO
        clear hx hw3 hb3
        go_wp2_with (first
          | (refine wpList_load_mid rfl 51 _ rfl g (j * 3) rfl (PC p) _ hrow Tryz.underlying51 rfl Tryz.size51 ?_)
          | (refine wpList_store_new rfl 51 _ _ rfl wr _ (PC p).toArray _ rfl rfl rfl Tryz.size51 rfl (all_one (PC_one p)) ?_; rw [← HW3.out, HE.out])
          | (refine wpList_load_mid rfl 51 _ rfl E 0 rfl (PC p) _ B3.out.range0 Tryz.underlying51 rfl Tryz.size51 ?_)
          | fail)
        refine CO.out.mono ?_
        rintro e w4 ⟨rfl, hb4⟩
        have hbw4 : Below wr.heap.size wr w4 := L3.out.trans (hb4.mono L3.out.size)
        have O4 := hide (OR.out.kept hbw4)
        have K14 := hide (R1.out.kept hbw4)
        have K24 := hide (R2.out.kept hbw4)
        have C4 : Hid (Chg (fun k => (Value.slice (some ⟨g, 0, none⟩) n c).ownBlock = some k) w w4) := (show _ from CR.out.trans (Chg.of_below hbw4))
        have B4 := hide (B3.out.kept hb4)
        have hE4 : g < E := by rw [← HE.out]; exact hbw
        clear hb4 hbw4 CO hrow OR CR R1 R2 B3 L3
        cases o with
        | false =>
          have HD2 := hide (HD.out.out hjL (by rw [HP.out]; exact HO9.out))
          go_wp2_with fail
          go_roundg (n - j)
          case measure => omega
          case rel => exact ⟨i, j + 1, R, rfl, by go_num, by omega, by omega, by omega, HD2, O4, C4, K14, K24⟩
        | true =>
          have HD2 := HD.out.stay hjL (by rw [HP.out]; exact HO9.out)
          rw [HP.out] at HD2
          have HD2 := hide HD2
          have hin : (i : Int) < (n : Int) := by omega
          have HIR : Hid (i < R.length) := (show _ < _ by have := HD.out.1; rw [HN.out] at this; omega)
          go_wp2_with (first
            | (refine wpList_load_mid rfl 51 _ rfl E 0 rfl (PC p) _ B4.out.range0 Tryz.underlying51 rfl Tryz.size51 ?_)
            | (refine wpList_store_own rfl _ _ rfl g i n c B R p rfl rfl O4.out HIR.out ?_; intro w5 ho5 hu5)
            | fail)
          have C5 : Chg (fun k => k = g) w4 w5 := Chg.of_but hu5 rfl
          have O5 := hide ho5
          have K15 := hide (K14.out.chg C5 (fun e => hgF.1 e.symm))
          have K25 := hide (K24.out.chg C5 (fun e => hgF.2 e.symm))
          have C5' : Hid (Chg (fun k => (Value.slice (some ⟨g, 0, none⟩) n c).ownBlock = some k) w w5) := (show _ from C4.out.trans (C5.mono (fun k _ e => by subst e; rfl)))
          clear ho5 hu5 C5
          go_roundg (n - j)
          case measure => omega
          case rel => exact ⟨i + 1, j + 1, R.set i p, by go_num, by go_num, by omega, by omega, by omega, HD2, O5, C5', K15, K25⟩
      · obtain rfl : j = n := by omega
        have hlt' : ¬ (j : Int) < (j : Int) := by omega
        have q2 : decide ((j : Int) < (j : Int)) = false := by simp
        have HX : Hid (R.take i = T) := (show _ = _ by
          rw [← HT.out]
          have := HD.out
          rw [← HN.out] at this
          exact this.ends)
        have hs1 := slice_at (g := g) hij hcap
        obtain ⟨m1, HM1⟩ : ∃ m, Hid (j - i = m) := ⟨_, rfl⟩
        obtain ⟨m2, HM2⟩ : ∃ m, Hid (c - i = m) := ⟨_, rfl⟩
        rw [HM1.out, HM2.out] at hs1
        have hs2 := (slice_G_to (E := PE) (P := Tryz.prog) (t := 35) (e := 51) Tryz.underlying35 Tryz.size51 (some ⟨g, 0, none⟩) j c i (by omega) hcap).1
        obtain ⟨g', c', cur, hv, hBg', hBk, htk, hcl, hlc, -⟩ := OR.out.blk (by have := HD.out.1; rw [HN.out] at this; omega)
        have hRl : R.length = j := by have := HD.out.1; rw [HN.out] at this; exact this
        simp only [Value.slice.injEq, Option.some.injEq, Addr.mk.injEq, and_true] at hv
        obtain ⟨hgg, -, hcc⟩ := hv
        subst hgg
        subst hcc
        have hcl' : cur.length = c * 3 := hcl
        have hm1 := HM1.out
        obtain ⟨Z, hZl, hclr⟩ := run_clear_P wr 0 g (i * 3) m1 m2 (by omega) (fun q hq => by
          have hql : i * 3 + q < cur.length := by omega
          rw [hBk.cell (List.getElem?_eq_getElem hql)]
          rfl) (fun q _ => hBk.frozen _)
        have O9 := hide (cleared_own OR.out hij (by rw [hZl, hm1]))
        have C9 : Hid (Chg (fun k => (Value.slice (some ⟨g, 0, none⟩) j c).ownBlock = some k) w (wr.setCells g (i * 3) Z)) := (show _ from CR.out.trans (Chg.setCells (b := g) wr (show (Value.slice (some ⟨g, 0, none⟩) j c).ownBlock = some g from rfl) (i * 3) Z))
        clear hBk htk hcl hlc hcl' hZl OR CR hm1
        go_wp2_with fail
        go_ret
        refine ⟨_, rfl, ?_, C9.out⟩
        rw [← HX.out]
        exact O9.out
/-- What Over asks of a Buffer's Writes. -/
def OvW (w : World) (pv : Value) (L : List Pr) : Prop := ∀ W, Below w.heap.size w W → Calls Tryz.prog 35 #[pv] W fun e w' => ∃ v', e = .returned v' ∧ OwnG PE w' W.heap.size 51 v' L ∧ Below W.heap.size W w'
theorem BAt.ov {w : World} {D M : Nat} {L : List Pr} (h : BAt w D M L) : OvW w (PT D) L := fun _ hW => writes_any (h.kept hW)
set_option maxHeartbeats 2000000 in
set_option maxRecDepth 100000 in
theorem over_any {w : World} {pv : Value} {L : List Pr} (hov : OvW w pv L) {vl : Value} {l : List Pr} (hrl : RdG PE w vl l) (a b : ByteArray) (m : Int) (hl : l.length + L.length ≤ 1000000) :
    Calls Tryz.prog 56 #[pv, vl, .string a, .string b, .int .i64 m] w fun e w' => ∃ v, e = .returned v ∧ OwnG PE w' w.heap.size 51 v (overB l L a b m) ∧ Below w.heap.size w w' := by
  have HOV := hide hov
  have HRL := hide hrl
  obtain ⟨al, cl, rfl⟩ := hrl.slice
  obtain ⟨nl, HNL⟩ : ∃ n, Hid (l.length = n) := ⟨_, rfl⟩
  rw [HNL.out] at HRL ⊢
  obtain ⟨E, HE⟩ : ∃ E, Hid (w.heap.size = E) := ⟨_, rfl⟩
  obtain ⟨w2, hw2⟩ : ∃ y, y = (w.alloc (.cells #[.string a] 9 (0, 0))).alloc (.cells #[.string b] 9 (0, 0)) := ⟨_, rfl⟩
  have hb2 : Below w.heap.size w w2 := by rw [hw2]; exact ((Below.refl _ _).alloc (Nat.le_refl _) _).alloc (by simp) _
  have B1 : Hid (Blk w2 E 9 [.string a]) := (show Blk _ _ _ _ by rw [hw2, ← HE.out]; exact (Blk.new w 9 [.string a]).alloc _)
  have B2 : Hid (Blk w2 (E + 1) 9 [.string b]) := (show Blk _ _ _ _ by
    rw [hw2, ← HE.out]
    have := Blk.new (w.alloc (.cells #[.string a] 9 (0, 0))) 9 [.string b]
    rw [World.size_alloc] at this
    exact this)
  have CW := hide (HOV.out w2 hb2)
  have L2 := hide hb2
  have HW2 := hide hw2
  have HLL := hide hl
  clear hw2 hb2 hov hrl hl
  rw [HE.out]
  go_enter Tryz.func56, Tryz.ntmps56
  go_wp2_with fail
  change Calls _ _ _ ((w.alloc (.cells #[.string a] 9 (0, 0))).alloc (.cells #[.string b] 9 (0, 0))) _
  rw [← HW2.out, HE.out]
  refine CW.out.mono ?_
  rintro e w3 ⟨v3, rfl, o3, hb3⟩
  have CD := hide (delete_any (B1.out.kept hb3) (B2.out.kept hb3) o3 (by have := HLL.out; omega))
  have R3 := HRL.out.kept (L2.out.trans (hb3.mono L2.out.size))
  have HRT : Hid (∀ bb, InB (.slice al nl cl) bb → bb < E) := (show _ from fun bb hbb => by rw [← HE.out]; exact HRL.out.inB_lt hbb)
  have hOB : ∀ k, v3.ownBlock = some k → w2.heap.size ≤ k := fun k hk => (o3.block hk).1
  have L3 : Hid (Below w.heap.size w w3) := (show _ from L2.out.trans (hb3.mono L2.out.size))
  have O3 := hide o3
  have hE2 : E + 2 ≤ w2.heap.size := by have := B2.out.lt; omega
  have hs3 : w2.heap.size ≤ w3.heap.size := hb3.size
  have RR3 := hide R3
  have HOB := hide hOB
  obtain ⟨a3, c3, rfl⟩ := o3.form
  obtain ⟨n3, HN3⟩ : ∃ n, Hid (L.length = n) := ⟨_, rfl⟩
  rw [HN3.out] at CD HOB O3 ⊢
  clear o3 hb3 R3 hOB CW B1 B2
  go_wp2_with fail
  refine CD.out.mono ?_
  rintro e w4 ⟨v4, rfl, o4, hc4⟩
  have C4 := hide hc4
  have R4 := RR3.out.chg hc4 (fun bb hbb h => by have := HRT.out bb hbb; have := HOB.out bb h; omega)
  have HFL : Hid ((L.filter (inR a b)).length ≤ L.length) := (show _ ≤ _ from List.length_filter_le _ _)
  obtain ⟨F, HF⟩ : ∃ F, Hid (L.filter (inR a b) = F) := ⟨_, rfl⟩
  rw [HF.out] at o4 HFL
  have R4' := hide o4.rd
  obtain ⟨a4, c4, rfl⟩ := o4.form
  obtain ⟨n4, HN4⟩ : ∃ n, Hid (F.length = n) := ⟨_, rfl⟩
  rw [HN4.out] at R4' ⊢
  have RR4 := hide R4
  have L4 : Hid (Below E w w4) := (show _ from (L3.out.mono (Nat.le_of_eq HE.out.symm)).trans (hc4.below (by omega) (fun k hk h => by have := HOB.out k h; omega)))
  have CM := hide (merge_any al nl cl a4 n4 c4 w4)
  obtain ⟨E4, HE4⟩ : ∃ E, Hid (w4.heap.size = E) := ⟨_, rfl⟩
  rw [HE4.out] at CM
  have hEE : E ≤ E4 := by rw [← HE4.out]; have := hc4.size; omega
  clear o4 hc4 R4 CD
  go_wp2_with fail
  refine CM.out.mono ?_
  rintro e w5 ⟨rfl, hw5⟩
  obtain ⟨hms, hb5⟩ := ms_new RR4.out R4'.out hw5
  rw [HE4.out] at hms
  have CL := hide (living_any hms (by omega) (by have := hb5.size; have := HE4.out; omega) m (by have := HLL.out; have := HFL.out; omega))
  have L5 : Hid (Below E w w5) := (show _ from L4.out.trans (hb5.mono (by have := HE4.out; omega)))
  have hs5 : E4 ≤ w5.heap.size := by rw [← HE4.out]; exact hb5.size
  clear hw5 hms hb5 CM
  go_wp2_with fail
  refine CL.out.mono ?_
  rintro e w6 ⟨v6, rfl, o6, hc6⟩
  have HX : Hid (overB l L a b m = (ovl l F).take m.toNat) := (show _ = _ by unfold overB; rw [HF.out])
  have L6 : Hid (Below E w w6) := (show _ from L5.out.trans (hc6.below (by omega) (fun k hk h => by omega)))
  have O6 := hide (o6.mono (show E ≤ w5.heap.size by omega))
  obtain ⟨a6, c6, rfl⟩ := o6.form
  obtain ⟨n6, HN6⟩ : ∃ n, Hid (((ovl l F).take m.toNat).length = n) := ⟨_, rfl⟩
  rw [HN6.out] at O6 ⊢
  clear o6 hc6
  go_wp2_with fail
  go_ret
  refine ⟨_, rfl, ?_, L6.out⟩
  rw [HX.out]
  exact O6.out
end Go.Proofs.YtcicekggeampcaaGreat

/-
  Pairs held against each other: the reference's Same.
-/
namespace Go.Proofs.YtcicekggeampcaaGreat
open Go.RowKit
theorem ne_pair (x y : Pr) (W : World) : (binOp .neq 51 (.agg (PC x).toArray) (.agg (PC y).toArray)).run Tryz.prog W = .ok (.bool (!decide (x = y))) W := by
  have u4 := Tryz.underlying4
  have u9 := Tryz.underlying9
  obtain ⟨a, s, d⟩ := x
  obtain ⟨a', s', d'⟩ := y
  rw [run_neq_struct, run_equalIn_agg W 9999 51 _ _ (by kernel_rfl) (by kernel_rfl)]
  simp [Program.fieldsOf, Tryz.underlying51, Op.eqFields, PC, go_sem, part, u4, u9, ba_inj]
  by_cases h1 : a = a' <;> by_cases h2 : s = s' <;> by_cases h3 : d = d' <;> simp [h1, h2, h3]
set_option maxRecDepth 100000 in
set_option maxHeartbeats 1000000 in
theorem vsame_any {u v : Value} {A B : List Pr} {w : World} (hu : RdG PE w u A) (hv : RdG PE w v B) :
    Calls Tryz.prog 26 #[u, v] w fun e w' => e = .returned (.bool (decide (A = B))) ∧ Below w.heap.size w w' := by
  have H4 := hide hu
  have H5 := hide hv
  obtain ⟨a, cap, rfl⟩ := hu.slice
  obtain ⟨a2, cap2, rfl⟩ := hv.slice
  have hm := Nat.le_trans hu.cap hu.max
  clear hu hv
  by_cases hlen : A.length = B.length
  · have hne : ((A.length : Int) != (B.length : Int)) = false := by simp [hlen]
    have HLEN := hide hlen
    clear hlen
    go_enter Tryz.func26, Tryz.ntmps26
    go_wp2_with fail
    go_loopg [13] (A.length + 1) (fun g z wr => ∃ i : Nat, i ≤ A.length ∧ g + i = A.length + 1 ∧ z = .int .i64 (i : Int) ∧ Hid (A.take i = B.take i) ∧ Hid (Below w.heap.size w wr))
    case atStart => exact ⟨0, Nat.zero_le _, rfl, rfl, rfl, Below.refl _ _⟩
    case round =>
      obtain ⟨i, hi, hg, rfl, HT, BL⟩ := hrel
      by_cases hlt : i < A.length
      · have hlt2 : i < B.length := by have := HLEN.out; omega
        have hd : Below w.heap.size w wr := BL.out
        obtain ⟨b, off, rfl, hb1, hc⟩ := (H4.out.kept hd).nth (by omega)
        obtain ⟨b2, off2, rfl, hb2, hc2⟩ := (H5.out.kept hd).nth (by omega)
        have rx := hc i hlt
        have ry := hc2 i hlt2
        obtain ⟨p, HP⟩ : ∃ p, Hid (A[i] = p) := ⟨A[i], (show A[i] = A[i] from rfl)⟩
        obtain ⟨r, HR⟩ : ∃ r, Hid (B[i] = r) := ⟨B[i], (show B[i] = B[i] from rfl)⟩
        rw [HP.out] at rx
        rw [HR.out] at ry
        have hlt' : (i : Int) < A.length := by omega
        have hlt2' : (i : Int) < B.length := by omega
        have KX : Hid (∀ w', (∃ p : Regrown, w' = Go.Sort.grow (redrawn wr p.d) p.os) → w'.rangeAt b (off + i * 3) (PC p)) := (show _ from fun w' h => by
          obtain ⟨q, rfl⟩ := h
          exact fun j u hj => ((below_regrown wr q.d q.os).cell (p := ⟨b, off + i * 3 + j, none⟩) hb1).trans (rx j u hj))
        have KY : Hid (∀ w', (∃ p : Regrown, w' = Go.Sort.grow (redrawn wr p.d) p.os) → w'.rangeAt b2 (off2 + i * 3) (PC r)) := (show _ from fun w' h => by
          obtain ⟨q, rfl⟩ := h
          exact fun j u hj => ((below_regrown wr q.d q.os).cell (p := ⟨b2, off2 + i * 3 + j, none⟩) hb2).trans (ry j u hj))
        have hne2 := ne_pair p r
        obtain ⟨q, HQ⟩ : ∃ q, Hid (decide (p = r) = q) := ⟨_, rfl⟩
        rw [HQ.out] at hne2
        clear hc hc2 rx ry hd
        go_upto_region 6 with fail
        refine wp_region_quiet_below Tryz.mixed (by kernel_rfl) ?_
        iterate 3 (go_big_quiet_step (fail))
        refine wpQuiet_load_mid rfl 51 _ rfl b (off + i * 3) rfl (PC p) _ KX.out Tryz.underlying51 rfl Tryz.size51 ?_
        simp only [Act.put, List.setIfInBounds_toArray, List.set_cons_succ, List.set_cons_zero]
        iterate 3 (go_big_quiet_step (fail))
        refine wpQuiet_load_mid rfl 51 _ rfl b2 (off2 + i * 3) rfl (PC r) _ KY.out Tryz.underlying51 rfl Tryz.size51 ?_
        simp only [Act.put, List.setIfInBounds_toArray, List.set_cons_succ, List.set_cons_zero]
        go_big_quiet_step (fail)
        refine wpQuiet_nil ?_
        intro w3 hw3
        have L3 : Hid (Below w.heap.size w w3) := (show Below _ _ _ by obtain ⟨⟨dq, osq⟩, rfl⟩ := hw3; exact BL.out.trans ((below_regrown wr dq osq).mono BL.out.size))
        clear hw3 KX KY hne2
        cases q with
        | true =>
          have HT2 : Hid (A.take (i + 1) = B.take (i + 1)) := (show _ = _ by rw [List.take_succ_eq_append_getElem hlt, List.take_succ_eq_append_getElem hlt2, HT.out, HP.out, HR.out, of_decide_eq_true HQ.out])
          go_wp2_with fail
          go_roundg (gk - 1)
          case measure => omega
          case rel => exact ⟨i + 1, by omega, by omega, by go_num, HT2, L3⟩
        | false =>
          have HF : Hid (decide (A = B) = false) := (show _ = _ by
            rw [decide_eq_false_iff_not]
            intro e
            have := of_decide_eq_false HQ.out
            subst e
            exact this (HP.out.symm.trans HR.out))
          go_wp2_with fail
          go_ret
          exact ⟨by rw [HF.out]; rfl, L3.out⟩
      · obtain rfl : i = A.length := by omega
        have HF : Hid (decide (A = B) = true) := (show _ = _ by
          rw [decide_eq_true_eq]
          have := HT.out
          rwa [List.take_of_length_le (Nat.le_refl _), HLEN.out, List.take_of_length_le (Nat.le_refl _)] at this)
        have hlt' : ¬ (A.length : Int) < A.length := by omega
        go_wp2_with fail
        go_ret
        exact ⟨by rw [HF.out]; rfl, BL.out⟩
  · have hne : ((A.length : Int) != (B.length : Int)) = true := by simp; omega
    have HF : Hid (decide (A = B) = false) := (show _ = _ by
      rw [decide_eq_false_iff_not]
      exact fun e => hlen (by rw [e]))
    clear hlen
    go_enter Tryz.func26, Tryz.ntmps26
    go_wp2_with fail
    go_ret
    exact ⟨by rw [HF.out]; rfl, Below.refl _ _⟩
end Go.Proofs.YtcicekggeampcaaGreat
