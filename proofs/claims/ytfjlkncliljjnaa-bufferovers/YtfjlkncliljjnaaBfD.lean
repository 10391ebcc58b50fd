/-
  Over's closure, slices.IndexFunc and DeleteFunc over pairs, Over: what the calls do.
-/
import Derived.Test.YtfjlkncliljjnaaBfH
import Derived.Test.YtfjlkncliljjnaaBfR
import Derived.Laws.IdiomCopy
namespace Go.Proofs.Ytfjlkncliljjnaa
open Go.RowKit
set_option maxRecDepth 100000 in
theorem outside_any {w : World} {F1 T1 : Nat} {a b : ByteArray} (h1 : Blk w F1 9 [.string a]) (h2 : Blk w T1 9 [.string b]) (p : Pr) : Calls Try.prog 33 #[.agg (PC p).toArray, PT F1, PT T1] w fun e w' => e = .returned (.bool (!inR a b p)) ∧ Below w.heap.size w w' := by
  have hb : Below w.heap.size w (w.alloc (.cells (PC p).toArray 38 (0, 0))) := (Below.refl _ _).alloc (Nat.le_refl _) _
  have HB := hide hb
  have c1 := (h1.kept hb).cell (j := 0) rfl
  have c2 := (h2.kept hb).cell (j := 0) rfl
  have hge := sge
  obtain ⟨r, HR⟩ : ∃ r, Hid ((!inR a b p) = r) := ⟨_, rfl⟩
  rw [HR.out]
  clear hb h1 h2
  obtain ⟨k, v, d⟩ := p
  obtain ⟨m1, hm1⟩ : ∃ m, lt k a = m := ⟨_, rfl⟩
  obtain ⟨m2, hm2⟩ : ∃ m, lt k b = m := ⟨_, rfl⟩
  have hm1' : Op.bytesLess k.toList a.toList = m1 := hm1
  have hr : r = (m1 || !m2) := by rw [← HR.out, ← hm1, ← hm2]; simp [inR]
  simp only [PC] at *
  cases m1 <;> cases m2 <;> (simp only [Bool.or_true, Bool.or_false, Bool.not_true, Bool.not_false] at hr; subst hr; go_enter Try.func33, Try.ntmps33; go_wp2; go_ret; exact ⟨rfl, HB.out⟩)
/-- All are in the range. -/
def AllIn (a b : ByteArray) (L : List Pr) : Prop := L.filter (inR a b) = L
/-- The first that is not is that at k. -/
def FirstOut (a b : ByteArray) (L : List Pr) (k : Nat) : Prop := (L.take (k + 1)).filter (inR a b) = L.take k
/-- How many of the first ones are in the range. -/
def fi (a b : ByteArray) (L : List Pr) : Nat := (L.takeWhile (inR a b)).length
theorem fi_eq {a b : ByteArray} : ∀ {L : List Pr} {i : Nat}, (∀ j (hj : j < L.length), j < i → inR a b L[j] = true) → i ≤ L.length → (∀ h : i < L.length, inR a b L[i] = false) → fi a b L = i ∧ (L.take i).filter (inR a b) = L.take i
  | [], i, _, hi, _ => by
    obtain rfl : i = 0 := by simpa using hi
    exact ⟨rfl, rfl⟩
  | p :: L, 0, _, _, h => by
    have := h (by simp)
    simp only [List.getElem_cons_zero] at this
    exact ⟨by simp [fi, this], rfl⟩
  | p :: L, i + 1, h1, hi, h2 => by
    have hp := h1 0 (by simp) (by omega)
    simp only [List.getElem_cons_zero] at hp
    obtain ⟨g1, g2⟩ := fi_eq (a := a) (b := b) (L := L) (i := i) (fun j hj hji => by
      have := h1 (j + 1) (by simpa using hj) (by omega)
      simpa using this) (by simpa using hi) (fun h => by
      have := h2 (by simpa using h)
      simpa using this)
    refine ⟨?_, ?_⟩
    · unfold fi at g1 ⊢
      rw [List.takeWhile_cons, if_pos hp, List.length_cons, g1]
    · rw [List.take_succ_cons, List.filter_cons_of_pos hp, g2]
set_option maxHeartbeats 1000000 in
set_option maxRecDepth 100000 in
theorem index_any {w : World} {F1 T1 : Nat} {a b : ByteArray} {v : Value} {L : List Pr} (h1 : Blk w F1 9 [.string a]) (h2 : Blk w T1 9 [.string b]) (hr : RdG PE w v L) :
    Calls Try.prog 43 #[v, .func (.func 33) #[] #[PT F1, PT T1]] w fun e w' => (∃ i, e = .returned (.int .i64 i) ∧ ((i = -1 ∧ AllIn a b L) ∨ ∃ k : Nat, i = (k : Int) ∧ k < L.length ∧ FirstOut a b L k)) ∧ Below w.heap.size w w' := by
  have H1 := hide h1
  have H2 := hide h2
  have HR := hide hr
  obtain ⟨x, c, rfl⟩ := hr.slice
  obtain ⟨n, HN⟩ : ∃ n, Hid (L.length = n) := ⟨_, rfl⟩
  rw [HN.out] at HR ⊢
  have hm := Nat.le_trans HR.out.cap HR.out.max
  clear h1 h2 hr
  go_enter Try.func43, Try.ntmps43
  go_wp2_with fail
  go_loopg [8] (n + 1) (fun g z wr => ∃ i : Nat, i ≤ n ∧ g + i = n + 1 ∧ z = .int .i64 (i : Int) ∧ Hid (∀ j (hj : j < L.length), j < i → inR a b L[j] = true) ∧ Hid (Below w.heap.size w wr))
  case atStart => exact ⟨0, Nat.zero_le _, by omega, rfl, (show ∀ j (hj : j < L.length), _ from fun j hj h => by omega), Below.refl _ _⟩
  case round =>
    obtain ⟨i, hi, hg, rfl, HT, BL⟩ := hrel
    by_cases hlt : i < n
    · have hlt2 : i < L.length := by rw [HN.out]; exact hlt
      obtain ⟨bb, off, rfl, hb1, hx⟩ := (HR.out.kept BL.out).nth (by omega)
      have hrow : wr.rangeAt bb (off + i * 3) (PC L[i]) := hx i hlt2
      have CO := hide (outside_any (H1.out.kept BL.out) (H2.out.kept BL.out) L[i])
      obtain ⟨p, HP⟩ : ∃ p, Hid (L[i] = p) := ⟨L[i], (show L[i] = L[i] from rfl)⟩
      rw [HP.out] at hrow CO
      obtain ⟨o, HO⟩ : ∃ o, Hid (inR a b p = o) := ⟨_, rfl⟩
      rw [HO.out] at CO
      have hlt' : (i : Int) < (n : Int) := by omega
      clear hx
      go_wp2_with (first
        | (refine wpList_load_mid rfl 38 _ rfl bb (off + i * 3) rfl (PC p) _ hrow Try.underlying38 rfl Try.size38 ?_)
        | fail)
      refine CO.out.mono ?_
      rintro e w2 ⟨rfl, hb2⟩
      have L2 : Hid (Below w.heap.size w w2) := (show _ from BL.out.trans (hb2.mono BL.out.size))
      clear hb2 CO hrow
      cases o with
      | true =>
        go_wp2_with fail
        go_roundg (n - i)
        case measure => omega
        case rel => exact ⟨i + 1, by omega, by omega, by go_num, (show ∀ j (hj : j < L.length), _ from fun j hj hji => by
          by_cases e : j = i
          · subst e
            rw [HP.out]
            exact HO.out
          · exact HT.out j hj (by omega)), L2⟩
      | false =>
        have hfi := fi_eq (a := a) (b := b) (L := L) (i := i) HT.out (by omega) (fun _ => by rw [HP.out]; exact HO.out)
        have HF : Hid ((L.take (i + 1)).filter (inR a b) = L.take i) := (show _ = _ by
          rw [List.take_succ_eq_append_getElem hlt2, List.filter_append, hfi.2, HP.out, List.filter_cons_of_neg (by rw [HO.out]; simp)]
          simp)
        clear hfi
        go_wp2_with fail
        go_ret
        exact ⟨⟨_, rfl, .inr ⟨i, rfl, hlt, HF.out⟩⟩, L2.out⟩
    · obtain rfl : i = n := by omega
      have hlt' : ¬ (i : Int) < i := by omega
      have HF : Hid (L.filter (inR a b) = L) := (show _ = _ by
        refine List.filter_eq_self.2 (fun p hp => ?_)
        obtain ⟨j, hj, e⟩ := List.getElem_of_mem hp
        rw [← e]
        exact HT.out j hj (by rw [← HN.out]; exact hj))
      go_wp2_with fail
      go_ret
      exact ⟨⟨_, rfl, .inl ⟨rfl, HF.out⟩⟩, BL.out⟩
theorem take_over {cs ds : List Value} {o k : Nat} (h : o + ds.length ≤ k) (hk : k ≤ cs.length) : (over cs o ds).take k = over (cs.take k) o ds := by
  have e1 : (cs.take o).length = o := by rw [List.length_take]; omega
  unfold over
  rw [List.take_append, List.take_append, List.length_append, e1, List.take_of_length_le (l := cs.take o) (by omega), List.take_of_length_le (l := ds) (by omega), List.take_take, List.drop_take, show min o k = o by omega]
theorem cs_set {R : List Pr} {i : Nat} (h : i < R.length) (x : Pr) : over (PE.cs R) (i * 3) (PC x) = PE.cs (R.set i x) := by
  unfold over
  have e1 : (PE.cs R).take (i * 3) = PE.cs (R.take i) := (Enc.cs_take (E := PE) R i).symm
  have e2 : (PE.cs R).drop (i * 3 + (PC x).length) = PE.cs (R.drop (i + 1)) := by
    have := (Enc.cs_drop (E := PE) R (i + 1)).symm
    rw [show (i + 1) * PE.n = i * 3 + (PC x).length from Nat.add_mul i 1 3] at this
    exact this
  rw [e1, e2, List.set_eq_take_append_cons_drop, if_pos h, Enc.cs_append, Enc.cs_cons, List.append_assoc]
  rfl
/-- An element of an owned row is stored. -/
theorem wpList_store_own {ops : Array Oper} {rest : List Oper} {op : Oper} {a : Act} {w : World} {Q : Exit → Act → World → Prop} (hgd : op.guard = none) (x y : Operand) (ho : op.op = .store 38 x y) (g i n cap B : Nat) (R : List Pr) (p : Pr)
    (hx : a.eval x = .pointer (some ⟨g, i * 3, none⟩)) (hy : a.eval y = .agg (PC p).toArray) (hO : OwnG PE w B 38 (.slice (some ⟨g, 0, none⟩) n cap) R) (hi : i < R.length)
    (h : ∀ w', OwnG PE w' B 38 (.slice (some ⟨g, 0, none⟩) n cap) (R.set i p) → But g w w' → wpList Try.prog ops Q rest (a.put op.dst undef) w') : wpList Try.prog ops Q (op :: rest) a w := by
  have hlen := hO.rd.len
  obtain ⟨g', cap', cur, hv, hBg, hB, htk, hcl, hlc, hcm⟩ := hO.blk (by omega)
  simp only [Value.slice.injEq, Option.some.injEq, Addr.mk.injEq, and_true] at hv
  obtain ⟨rfl, hn, rfl⟩ := hv
  have h3 : cur.length = cap * 3 := hcl
  have h4 : R.length * 3 ≤ cap * 3 := Nat.mul_le_mul_right _ hlc
  have h5 : i * 3 + 3 ≤ R.length * 3 := by omega
  refine wpList_store_mid hgd 38 x y ho g (i * 3) (PC p).toArray hx hy (hB.there (i * 3) 3 (by omega)) Try.size38 (all_one (PC_one p)) ?_
  have hb := Blk.over (PC p) hB (i * 3) (by show i * 3 + 3 ≤ _; omega)
  refine h _ ?_ (But.setCells g (PC p) (i * 3) w)
  have hfin := OwnG.of_blk (E := PE) (B := B) (cap := cap) (L := R.set i p) hb hBg (by
    rw [List.length_set, show PE.n = 3 from rfl, take_over (by show i * 3 + 3 ≤ _; omega) (by omega)]
    have : cur.take (R.length * 3) = PE.cs R := htk
    rw [this, cs_set hi]) (by rw [over_length (by show i * 3 + 3 ≤ _; omega)]; exact hcl) (by rw [List.length_set]; exact hlc) hcm
  rw [List.length_set, ← hn] at hfin
  exact hfin
theorem run_clear_P (w : World) (ty : TypeId) (b o n c : Nat) (hn : 0 < n) (hc : ∀ j, j < n * 3 → (w.cell? ⟨b, o + j, none⟩).isSome = true) (hf : ∀ j, j < n * 3 → w.frozen? ⟨b, o + j, none⟩ = false) :
    ∃ Z : List Value, Z.length = n * 3 ∧ (Builtin.clear_ #[28] ty #[.slice (some ⟨b, o, none⟩) n c]).run Try.prog w = .ok (.tuple #[]) (w.setCells b o Z) := by
  obtain ⟨z, hz⟩ : ∃ z, z = (Builtin.zeroCells (Value.agg (PC zp).toArray).cells n).toList := ⟨_, rfl⟩
  have hl : z.length = n * 3 := by rw [hz]; simp [Builtin.zeroCells, PC, Value.cells]
  have h1 : ∀ v ∈ z, v.oneCell' = true := by
    intro v hv
    rw [hz] at hv
    simp only [Builtin.zeroCells, Array.toList_map, List.mem_map] at hv
    obtain ⟨k, _, rfl⟩ := hv
    have hk : k % (Value.agg (PC zp).toArray).cells.size < 3 := Nat.mod_lt _ (by decide)
    have : (Value.agg (PC zp).toArray).cells[k % (Value.agg (PC zp).toArray).cells.size]! ∈ PC zp := by
      have e : (Value.agg (PC zp).toArray).cells = (PC zp).toArray := rfl
      rw [e, getElem!_pos _ _ (by show _ < 3; exact hk)]
      simp
    exact PC_one zp _ this
  have hst := run_storeCells_cells (P := Try.prog) b o z 0 w (by rw [hl]; simpa using hc) (by rw [hl]; simpa using hf) h1
  simp only [Nat.add_zero] at hst
  refine ⟨z, hl, ?_⟩
  obtain ⟨m, rfl⟩ : ∃ m, n = m + 1 := ⟨n - 1, by omega⟩
  rw [hz] at hst
  simp [Builtin.clear_, run_underlying Try.underlying28, hz]
  change (Sem.run _ (storeCells ⟨b, o, none⟩ (Builtin.zeroCells (Value.agg (PC zp).toArray).cells (m + 1)).toList) w).andThen _ = _
  rw [hst]
  rfl
end Go.Proofs.Ytfjlkncliljjnaa
