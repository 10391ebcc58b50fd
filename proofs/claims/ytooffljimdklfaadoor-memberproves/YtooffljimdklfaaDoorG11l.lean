/-
  Texts that ride together: TrL TrX TrK.
-/
import Derived.Test.YtooffljimdklfaaDoorG11v
import Derived.Test.YtooffljimdklfaaDoorArgsT
import Derived.Test.YtooffljimdklfaaDoorArgsR
import Derived.Deep.Matrix
/-
  The law's lives: what the call does.
-/
namespace Go.Proofs.YtooffljimdklfaaDoor
open Go.RowKit
def ka : Hs := ⟨1 :: List.replicate 31 0, by simp⟩
def kb : Hs := ⟨List.replicate 5 0 ++ 1 :: List.replicate 26 0, by simp⟩
theorem ka_kb : ka ≠ kb := by decide
theorem lives_map : dropP (putP (putP [] ka zh) kb zh) kb = [(ka, zh)] := by
  have hs : Srt (putP [] ka zh) := Srt_nil.put ka zh
  refine ((hs.put kb zh).drop kb).ext (Srt_one _) (fun q => ?_)
  rw [getP_drop, getP_put, getP_put]
  simp only [getP]
  by_cases h : q = kb
  · subst h
    rw [if_pos rfl, if_neg ka_kb]
  · rw [if_neg h, if_neg h]
    by_cases h2 : q = ka
    · subst h2; simp
    · rw [if_neg h2, if_neg (fun e => h2 e.symm)]
end Go.Proofs.YtooffljimdklfaaDoor

/-
  Room for a hash, laid and written at once.
-/
namespace Go.Proofs.YtooffljimdklfaaDoor
open Go.RowKit
/-- A variable for a hash is made, and written to. -/
theorem wpList_room_hash {ops : Array Oper} {rest : List Oper} {o1 o2 : Oper} {a : Act} {w : World} {Q : Exit → Act → World → Prop} (h1 : o1.guard = none) (h2 : o2.guard = none) (d : Tmp) (y : Operand) (ho1 : o1.op = .alloc 24) (hd1 : o1.dst = some d) (ho2 : o2.op = .store 24 (.tmp d) y) (hd : d < a.tmps.size) (hny : y ≠ .tmp d)
    (x : Hs) (hy : a.eval y = .agg (By x.1).toArray) (h : ∀ w', Below w.heap.size w w' → Blk w' w.heap.size 24 (By x.1) → wpList Tryd.prog ops Q rest ((a.put o1.dst (.pointer (some ⟨w.heap.size, 0, none⟩))).put o2.dst undef) w') : wpList Tryd.prog ops Q (o1 :: o2 :: rest) a w := by
  have hz : ∀ v, (Instr.alloc 24 true v).run Tryd.prog w = .ok (.pointer (some ⟨w.heap.size, 0, none⟩)) (w.alloc (.cells (By zh.1).toArray 24 (0, 0))) := fun v => by kernel_rfl
  refine wpList_plain h1 fun K hK => ?_
  unfold Oper.wp execOp
  simp only [ho1, hz, Sem.run_bind, Sem.run_pure, Result.andThen_ok]
  refine hK _ _ ?_
  have hB := Blk.new w 24 (By zh.1)
  refine wpList_store_blk h2 24 (.tmp d) y ho2 w.heap.size (By zh.1) (By x.1) 24 (by rw [hd1]; exact eval_put_same hd) ?_ hB (by rw [By_len, By_len]) (Tryd.sizeH x) (By_one _) ?_
  · rw [hd1]
    have : (a.put (some d) (.pointer (some ⟨w.heap.size, 0, none⟩))).eval y = a.eval y := Act.eval_put (fun e he h => hny (by rw [h]; cases he; rfl))
    rw [this]
    exact hy
  · intro w' hb hu
    exact h w' (((Below.refl _ _).alloc (Nat.le_refl _) _).trans (hu.below (Nat.le_refl _) (by simp))) hb
#print axioms wpList_room_hash
end Go.Proofs.YtooffljimdklfaaDoor

/-
  What comes in, as the walks ask it: hashes, acts.
-/
namespace Go.Proofs.YtooffljimdklfaaDoor
open Go.RowKit Go.ChangeShapes Go.WideShapes Go.ChangeAt Go.Deep
set_option maxRecDepth 4000
section
variable {H : Type} {enc : TypeId × Value → H} {W : World}
/-- A slice that came in, element by element. -/
theorem slice_open {α : Type} {E : Enc α} {t e : TypeId} (hn0 : 0 < E.n) (hu : Tryd.prog.underlying t = some (.slice e)) (hce : Tryd.prog.cellsOf e = E.n) {Q : α → DataW H → Prop} (z : α)
    (hinv : ∀ n cs y, DataW.trod enc Tryd.prog W 0 (fun _ => true) true n e cs = some y → ∃ x, cs = E.c x ∧ Q x y.1)
    {n0 : Nat} {a : Option Addr} {len cap : Nat} {y : DataW H × List MemPlace} (hf : DataW.trod enc Tryd.prog W 0 (fun _ => true) true n0 t [.slice a len cap] = some y) :
    ∃ L : List α, RdG E W (.slice a len cap) L ∧ ∀ x ∈ L, ∃ dx, Q x dx ∧ ∀ m ∈ dx.weights Tryd.prog e, m ∈ y.1.weights Tryd.prog t := by
  rcases open_slice hu hf with ⟨hcs, _⟩ | ⟨x, l, c, m, n, D, Pl, hcs, _, hl, hm, hmm, hxd, hx⟩
  · simp at hcs
    obtain ⟨rfl, rfl, rfl⟩ := hcs
    exact ⟨[], RdG_nil W, by simp⟩
  · simp at hcs
    obtain ⟨rfl, rfl, rfl⟩ := hcs
    have hlm : len ≤ m := by rw [hmm]; simp; exact hl
    have hall : ∀ j, j < len → ∃ v : α, W.cells? 0 (x.add (j * E.n)) E.n = some (E.c v) ∧ Q v (D j) := fun j hj => by
      obtain ⟨cs, h1, h2⟩ := hx j (by omega)
      rw [hce] at h1
      obtain ⟨v, rfl, hD⟩ := hinv _ _ _ h2
      exact ⟨v, h1, hD⟩
    obtain ⟨L, hLl, hL⟩ : ∃ L : List α, L.length = len ∧ ∀ j (hj : j < L.length), W.cells? 0 (x.add (j * E.n)) E.n = some (E.c L[j]) ∧ Q L[j] (D j) := by
      refine ⟨(List.range len).map fun j => if h : j < len then (hall j h).choose else z, by simp, fun j hj => ?_⟩
      simp only [List.length_map, List.length_range] at hj
      simp only [List.getElem_map, List.getElem_range, hj, dif_pos]
      exact (hall j hj).choose_spec
    refine ⟨L, ⟨some x, cap, by rw [hLl], by rw [hLl]; exact hl, hm, fun h => by simp at h, fun hp => ?_⟩, fun y' hy => ?_⟩
    · obtain ⟨b, off, spot⟩ := x
      have hcells : ∀ j (hj : j < L.length), ∀ i u, (E.c L[j])[i]? = some u → W.cell? (((⟨b, off, spot⟩ : Addr).add (j * E.n)).add i) = some u := fun j hj i u hu => by
        obtain ⟨_, hlen, hc⟩ := World.cells?_some (hL j hj).1
        have hi : i < E.n := by have := (List.getElem?_eq_some_iff.1 hu).1; rw [E.len] at this; exact this
        rw [hc i hi, hu]
      have hl0 : 0 < (E.c L[0]).length := by rw [E.len]; exact hn0
      have h0 : W.cell? ⟨b, off, spot⟩ = some ((E.c L[0])[0]) := by
        have := hcells 0 hp 0 _ (List.getElem?_eq_getElem hl0)
        simpa [Addr.add] using this
      have hspot : spot = none := by simpa using World.cell?_spot h0
      subst hspot
      refine ⟨b, off, rfl, World.block_lt_of_cell? _ _ h0, fun j u hj => ?_⟩
      have hjl : j < (E.cs L).length := (List.getElem?_eq_some_iff.1 hj).1
      rw [Enc.cs_length] at hjl
      have h3 : j / E.n < L.length := (Nat.div_lt_iff_lt_mul hn0).2 hjl
      have hm3 : j % E.n < (E.c L[j / E.n]).length := by rw [E.len]; exact Nat.mod_lt _ hn0
      have e1 := Enc.cs_get h3 (i := j % E.n) (u := (E.c L[j / E.n])[j % E.n]) (List.getElem?_eq_getElem hm3)
      have e2 : j / E.n * E.n + j % E.n = j := Nat.div_add_mod' j E.n
      rw [e2, hj] at e1
      have := hcells (j / E.n) h3 (j % E.n) u (by rw [List.getElem?_eq_getElem hm3]; exact e1.symm)
      rwa [Addr.add_lit, Addr.add_lit, Nat.add_assoc, e2] at this
    · obtain ⟨i, hi, rfl⟩ := List.getElem_of_mem hy
      refine ⟨D i, (hL i hi).2, fun m' hm' => ?_⟩
      rw [hxd]
      simp only [DataW.weights, hu, List.mem_cons, List.mem_append]
      exact .inr (.inl (weightsAll_mem (d := D i) (List.mem_map.2 ⟨i, by simp; omega, rfl⟩) _ hm'))
theorem hash_cell (n : Nat) (cs : List Value) (y : DataW H × List MemPlace) (h : DataW.trod enc Tryd.prog W 0 (fun _ => true) true n 24 cs = some y) : ∃ x : Hs, cs = HE.c x ∧ True := by
  obtain ⟨l, rfl, hl⟩ := hash_cells h
  exact ⟨⟨l, hl⟩, rfl, trivial⟩
theorem hash_arg9 {r : Reach} {base : Nat} {v : Value} {d : DataW H} {p : List MemPlace} (hval : Value.okWide Tryd.prog W r base 24 v) (h : DataW.Trod enc Tryd.prog W 0 (fun _ => true) true 24 v d p) : ∃ x : Hs, v = HV x := by
  obtain ⟨l, rfl, hl⟩ := hash_arg hval h
  exact ⟨⟨l, hl⟩, rfl⟩
end
end Go.Proofs.YtooffljimdklfaaDoor
