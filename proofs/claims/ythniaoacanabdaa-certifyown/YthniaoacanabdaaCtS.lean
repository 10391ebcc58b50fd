/-
  strings.Compare, the order of spans, slices.SortFunc over spans: what the calls do.
-/
import Derived.Test.YthniaoacanabdaaCtO
import Derived.Test.YthniaoacanabdaaCtA
import Derived.Lib.Bytealg
import Derived.Laws.Externs
import Derived.Lib.Walk
namespace Go.Proofs.Ythniaoacanabdaa
open Go.RowKit Go.Shelf
set_option maxRecDepth 100000 in
theorem cmps_any (a b : ByteArray) (w : World) : Calls Try.prog 41 #[.string a, .string b] w fun e w' => e = .returned (.int .i64 (Lib.compareBytes a.data.toList b.data.toList)) ∧ w' = w := by
  go_enter Try.func41, Try.ntmps41
  go_wp2
  rw [run_callFunc_extern Try.func55 (by kernel_rfl) (by kernel_rfl) (by kernel_rfl) (e := Extern.BytealgCompare.compare) (by kernel_rfl), Lib.run_compareString]
  simp only [Result.andThen]
  rw [Oper.upon_value]
  go_wp2
  go_ret
  exact ⟨rfl, rfl⟩
set_option maxRecDepth 100000 in
theorem compare_any (a b : ByteArray) (w : World) : Calls Try.prog 35 #[.string a, .string b] w fun e w' => e = .returned (.int .i64 (Lib.compareBytes a.data.toList b.data.toList)) ∧ w' = w := by
  have C := hide (cmps_any a b w)
  go_enter Try.func35, Try.ntmps35
  go_wp2_with fail
  refine C.out.mono ?_
  rintro e w_ ⟨rfl, hw⟩
  subst w_
  go_wp2_with fail
  go_ret
  exact ⟨rfl, rfl⟩
/-- How two spans are held against each other. -/
def cfS (x y : Sp) : Int := Lib.compareBytes x.1.data.toList y.1.data.toList
theorem cmp_less : ∀ (x y : List UInt8), decide (Lib.compareBytes x y < 0) = Op.bytesLess x y
  | [], [] => rfl
  | [], b :: y => rfl
  | a :: x, [] => rfl
  | a :: x, b :: y => by
    unfold Lib.compareBytes
    by_cases h1 : a < b
    · rw [if_pos h1]
      simp [Op.bytesLess, h1]
    · rw [if_neg h1]
      by_cases h2 : b < a
      · rw [if_pos h2]
        have : a ≠ b := fun e => by subst e; exact h1 h2
        simp [Op.bytesLess, h1, this]
      · rw [if_neg h2, cmp_less x y]
        have e : a = b := by
          rw [UInt8.lt_iff_toNat_lt] at h1 h2
          exact UInt8.toNat_inj.1 (by omega)
        subst e
        simp [Op.bytesLess, h1]
theorem ltS (x y : Sp) : ltOf cfS x y = lt x.1 y.1 := by
  unfold ltOf cfS lt
  rw [cmp_less, ByteArray.toList_eq, ByteArray.toList_eq]
theorem swoS : Go.Sort.SWO (ltOf cfS) where
  irrefl x := by rw [ltS]; exact lt_irrefl _
  trans x y z h1 h2 := by rw [ltS] at *; exact lt_trans h1 h2
  ntrans x y z h1 h2 := by
    rw [ltS] at *
    cases h : lt x.1 z.1 with
    | false => rfl
    | true => rw [lt_of_not h h2] at h1; cases h1
set_option maxRecDepth 100000 in
theorem order_any (x y : Sp) (W : World) : Calls Try.prog 34 #[.agg (SC x).toArray, .agg (SC y).toArray] W fun e w' => e = .returned (.int .i64 (cfS x y)) ∧ ∃ q os', w' = Go.Sort.grow (W.drewN q) os' := by
  have C := fun W' => compare_any x.1 y.1 W'
  obtain ⟨r, HR⟩ : ∃ r, Hid (cfS x y = r) := ⟨_, rfl⟩
  rw [HR.out]
  have C' : ∀ W', Calls Try.prog 35 #[.string x.1, .string y.1] W' fun e w' => e = .returned (.int .i64 r) ∧ w' = W' := fun W' => by
    have := C W'
    rw [show Lib.compareBytes x.1.data.toList y.1.data.toList = r from HR.out] at this
    exact this
  have HC := hide C'
  clear C C'
  obtain ⟨xk, xv⟩ := x
  obtain ⟨yk, yv⟩ := y
  simp only [SC] at *
  go_enter Try.func34, Try.ntmps34
  go_wp2_with fail
  refine (HC.out _).mono ?_
  rintro e w_ ⟨rfl, hw⟩
  subst w_
  go_wp2_with fail
  go_ret
  exact ⟨rfl, 0, _, by rw [Go.Sort.alloc_eq_grow, Go.Sort.alloc_eq_grow, Go.Sort.grow_grow]; rfl⟩
theorem cmpLays_S (blk off size : Nat) (w : World) : CmpLays Try.prog 34 #[] SC 2 cfS blk off size w := fun _ _ _ _ x y => order_any x y _
theorem flat_cs (d : Array Sp) : (Go.Sort.flatK SC 2 d).toList = SE.cs d.toList := by
  apply List.ext_getElem?
  intro t
  by_cases ht : t < d.size * 2
  · have hj : t / 2 < d.toList.length := by simp; omega
    have hi : t % 2 < (SC d.toList[t / 2]).length := by show _ < 2; omega
    have h1 := Enc.cs_get (E := SE) (L := d.toList) hj (i := t % 2) (List.getElem?_eq_getElem hi)
    have e : t / 2 * SE.n + t % 2 = t := by show t / 2 * 2 + t % 2 = t; omega
    rw [e] at h1
    rw [h1]
    have h2 := Go.Sort.get_flatK SC 2 d t ht
    have hs : t < (Go.Sort.flatK SC 2 d).size := by simpa using ht
    rw [getElem!_pos _ t hs] at h2
    rw [Array.getElem?_toList, Array.getElem?_eq_getElem hs, h2]
    have h3 : t / 2 < d.size := by simpa using hj
    rw [getElem!_pos d _ h3]
    have h4 : t % 2 < (SC d[t / 2]).length := by show _ < 2; omega
    rw [getElem!_pos (SC d[t / 2]) _ h4]
    rfl
  · rw [List.getElem?_eq_none (by simp; omega), List.getElem?_eq_none (by rw [Enc.cs_length]; show d.toList.length * 2 ≤ t; simp; omega)]
/-- What a row is behind a sort. -/
theorem sorted_own {w : World} {B g cap m : Nat} {e : TypeId} {L : List Sp} {d' : Array Sp} {os : Array Obj} (ho : OwnG SE w B e (.slice (some ⟨g, 0, none⟩) L.length cap) L) (hs : d'.size = L.length) :
    OwnG SE (sortWorldK SC 2 w g 0 m d' os) B e (.slice (some ⟨g, 0, none⟩) L.length cap) d'.toList ∧ Chg (fun b => b = g) w (sortWorldK SC 2 w g 0 m d' os) := by
  obtain ⟨h1, h2⟩ := ho
  have hl : d'.toList.length = L.length := by simpa using hs
  rcases h2 with ⟨h, _⟩ | ⟨g', cap', cur, hv, hg, hh, hnc, hcm, hcs, htk⟩
  · cases h
  · cases hv
    have hlt : g < w.heap.size := (Array.getElem?_eq_some_iff.1 hh).1
    have hsz : (Go.Sort.mapBlock (Go.Sort.ahead w m) g (Go.Sort.putCells id 0 (Go.Sort.flatK SC 2 d'))).heap.size = w.heap.size := by simp [Go.Sort.mapBlock, Go.Sort.ahead]
    have hb : (sortWorldK SC 2 w g 0 m d' os).heap[g]? = some (.cells (Go.Sort.putCells id 0 (Go.Sort.flatK SC 2 d') cur) e (0, 0)) := by
      unfold sortWorldK Go.Sort.putRowK Go.Sort.putRow Go.Sort.grow
      simp only
      rw [Array.getElem?_append_left (by rw [hsz]; exact hlt)]
      simp only [Go.Sort.mapBlock, Go.Sort.ahead, Array.getElem?_modify, if_true, hh, Option.map_some, Go.Sort.onCells]
    have hF : (Go.Sort.putCells id 0 (Go.Sort.flatK SC 2 d') cur).toList.take (L.length * 2) = SE.cs d'.toList := by
      rw [← flat_cs]
      have hcap : L.length * 2 ≤ cur.size := by rw [hcs]; exact Nat.mul_le_mul_right _ hnc
      have hfs : (Go.Sort.flatK SC 2 d').size = L.length * 2 := by rw [Go.Sort.size_flatK, hs]
      apply List.ext_getElem?
      intro t
      by_cases ht : t < L.length * 2
      · rw [List.getElem?_take_of_lt ht, Array.getElem?_toList, Array.getElem?_toList]
        have htc : t < cur.size := by omega
        have htf : t < (Go.Sort.flatK SC 2 d').size := by omega
        simp only [Go.Sort.putCells, Array.getElem?_mapIdx, Array.getElem?_eq_getElem htc, Option.map_some, Array.getElem?_eq_getElem htf]
        rw [if_pos (by omega), Nat.sub_zero, getElem!_pos _ t htf]
        rfl
      · rw [List.getElem?_eq_none (by rw [List.length_take]; omega), List.getElem?_eq_none (by rw [Array.length_toList, hfs]; omega)]
    refine ⟨⟨?_, .inr ⟨g, cap, _, by rw [hl], hg, hb, by omega, hcm, by simpa [Go.Sort.putCells] using hcs, by rw [hl]; exact hF⟩⟩, ?_⟩
    · rw [Enc.cs_length]
    · refine ⟨rfl, rfl, rfl, ?_, fun k hk hn => ?_⟩
      · unfold sortWorldK Go.Sort.grow Go.Sort.putRowK Go.Sort.putRow
        rw [Array.size_append, hsz]
        omega
      · unfold sortWorldK Go.Sort.grow Go.Sort.putRowK Go.Sort.putRow
        simp only
        rw [Array.getElem?_append_left (by rw [hsz]; exact hk)]
        simp only [Go.Sort.mapBlock, Go.Sort.ahead, Array.getElem?_modify]
        rw [if_neg (fun e => hn e.symm)]
theorem sorts_any {w : World} {B : Nat} {v : Value} {L : List Sp} (ho : OwnG SE w B 51 v L) (hl : L.length ≤ 1000000) :
    Calls Try.prog 33 #[v, .func (.func 34) #[] #[]] w fun e w' => e = .returned (.tuple #[]) ∧ ∃ L', L'.Perm L ∧ L'.Pairwise (fun a b => lt b.1 a.1 = false) ∧ OwnG SE w' B 51 v L' ∧ Chg (fun b => v.ownBlock = some b) w w' := by
  by_cases h0 : L.length = 0
  · obtain ⟨a, cap, rfl⟩ := ho.form
    have hL : L = [] := List.eq_nil_of_length_eq_zero h0
    subst hL
    refine (AnyF.slices_SortFunc_none { Try.sortP with } a cap (.func (.func 34) #[] #[]) w).mono ?_
    rintro e w' ⟨rfl, rfl⟩
    exact ⟨rfl, [], List.Perm.refl _, List.Pairwise.nil, ho, Chg.refl _ _⟩
  · obtain ⟨g, cap, cur, rfl, hg, hB, -, -, -, -⟩ := ho.blk (by omega)
    have hH : Go.Sort.HoldsK SC 2 w g 0 L.toArray := by
      intro j hj
      have hj' : j < L.length * 2 := by simpa using hj
      have hjF : j < (Go.Sort.flatK SC 2 L.toArray).size := hj
      have e1 : (Go.Sort.flatK SC 2 L.toArray).toList[j]? = some (Go.Sort.flatK SC 2 L.toArray)[j]! := by
        rw [Array.getElem?_toList, Array.getElem?_eq_getElem hjF, getElem!_pos _ j hjF]
      rw [flat_cs] at e1
      have hc := World.ownsRow.cells ho (g := g) rfl j _ (by simpa using e1)
      rw [Nat.zero_add]
      rw [Addr.add_lit, Nat.zero_add] at hc
      exact ⟨hc, hB.frozen j⟩
    refine (AnyQ.slices_SortFunc Try.sortP 2 Try.isAgg51 Try.sizeOf51 SC (fun _ => rfl) SC_one cfS swoS 34 #[] g 0 cap L.toArray w (enters_of Try.func34 (by kernel_rfl) rfl) (cmpLays_S _ _ _ _) hH hB.lt (by simp; omega)).mono ?_
    rintro e w' ⟨rfl, d', n, os, hp, hs, rfl⟩
    obtain ⟨hp1, -, hp2⟩ := hp
    have hd : d'.size = L.length := by simpa using hp1
    obtain ⟨h1, h2⟩ := sorted_own (m := n) (os := os) ho hd
    refine ⟨rfl, d'.toList, ?_, ?_, h1, h2.mono (fun i _ e => by subst e; rfl)⟩
    · have e1 : d'.extract 0 L.toArray.size = d' := by rw [← hp1]; exact Array.extract_size
      have e2 : L.toArray.extract 0 L.toArray.size = L.toArray := Array.extract_size
      rw [e1, e2] at hp2
      exact hp2
    · rw [List.pairwise_iff_getElem]
      intro i j hi hj hij
      have hi' : i < d'.size := by simpa using hi
      have hj' : j < d'.size := by simpa using hj
      have := hs i j (Nat.zero_le _) hij (by simp; omega)
      rw [ltS, getElem!_pos d' j hj', getElem!_pos d' i hi'] at this
      simpa using this
#print axioms sorts_any
end Go.Proofs.Ythniaoacanabdaa
