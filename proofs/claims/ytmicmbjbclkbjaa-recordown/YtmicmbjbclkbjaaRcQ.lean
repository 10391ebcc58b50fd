/-
  A record of the call's own that is written to: its shape stays.
-/
import Derived.Test.YtmicmbjbclkbjaaRcO
namespace Go.Proofs.Ytmicmbjbclkbjaa
open Go.RowKit
/-- A cell of an owned row is written: some list still lies there. -/
theorem own_upd {α : Type} {E : Enc α} {w w' : World} {B g : Nat} {e : TypeId} {v : Value} {P : List α} {cur : List Value} {k t : Nat} {u : Value} (h : OwnG E w B e v P) (hv : v.ownBlock = some g) (hB : Blk w g e cur) (hb : Blk w' g e (cur.set (k * E.n + t) u)) (ht : t < E.n) (f : α → α) (hf : ∀ x, (E.c x).set t u = E.c (f x)) :
    ∃ P', OwnG E w' B e v P' ∧ (P' = P ∨ ∃ h : k < P.length, P' = P.set k (f P[k])) := by
  obtain ⟨h1, h2⟩ := h
  rcases h2 with ⟨rfl, _⟩ | ⟨g', cap, cur', rfl, hg, hh, h3, h4, h5, h6⟩
  · cases hv
  · simp only [Value.ownBlock, Option.some.injEq] at hv
    subst hv
    have hB' : w.heap[g']? = some (.cells cur.toArray e (0, 0)) := hB
    rw [hB'] at hh
    simp only [Option.some.injEq, Obj.cells.injEq, and_true] at hh
    subst hh
    simp only [List.size_toArray] at h5 h6
    by_cases hk : k < P.length
    · refine ⟨P.set k (f P[k]), ?_, .inr ⟨hk, rfl⟩⟩
      have := OwnG.of_blk (E := E) (B := B) (cap := cap) (L := P.set k (f P[k])) hb hg (by
        rw [List.length_set, List.take_set, h6]
        exact cs_set1 hk ht (hf _)) (by rw [List.length_set]; exact h5) (by rw [List.length_set]; exact h3) h4
      rwa [List.length_set] at this
    · refine ⟨P, OwnG.of_blk (E := E) (B := B) (cap := cap) hb hg ?_ (by rw [List.length_set]; exact h5) h3 h4, .inl rfl⟩
      rw [List.take_set_of_le (by
        have : P.length * E.n ≤ k * E.n := Nat.mul_le_mul_right _ (by omega)
        omega)]
      exact h6
def bigN (c : Nat) : Nat := 140737488351232 + c
/-- A record's copy: written to, but of the same shape; c: how often. -/
structure Mut (w : World) (B : Nat) (d : Rc) (c : Nat) : Prop where
  rs : ∃ L, OwnG XE w B 39 (rv d) L ∧ ∀ i (h : i < L.length) (h2 : i < d.rs.length), xv L[i] = xv d.rs[i] ∧ L[i].k.size ≤ bigN c
  ps : ∀ x ∈ d.rs, ∃ P, OwnG PE w B 41 (xv x) P ∧ ∀ p ∈ P, p.2.1.size ≤ bigN c
  ws : ∃ P, OwnG PE w B 41 (wv d) P
theorem bigN_mono {c c' : Nat} (h : c ≤ c') : bigN c ≤ bigN c' := by unfold bigN; omega
theorem Mut.up {w : World} {B : Nat} {d : Rc} {c c' : Nat} (h : Mut w B d c) (hc : c ≤ c') : Mut w B d c' := by
  obtain ⟨⟨L, h1, h2⟩, h3, h4⟩ := h
  refine ⟨⟨L, h1, fun i hi hi2 => ⟨(h2 i hi hi2).1, Nat.le_trans (h2 i hi hi2).2 (bigN_mono hc)⟩⟩, fun x hx => ?_, h4⟩
  obtain ⟨P, g1, g2⟩ := h3 x hx
  exact ⟨P, g1, fun p hp => Nat.le_trans (g2 p hp) (bigN_mono hc)⟩
theorem Mut.kept {w w' : World} {B : Nat} {d : Rc} {c : Nat} (h : Mut w B d c) (hb : Below w.heap.size w w') : Mut w' B d c := by
  obtain ⟨⟨L, h1, h2⟩, h3, ⟨P, h4⟩⟩ := h
  refine ⟨⟨L, h1.kept hb, h2⟩, fun x hx => ?_, ⟨P, h4.kept hb⟩⟩
  obtain ⟨P, g1, g2⟩ := h3 x hx
  exact ⟨P, g1.kept hb, g2⟩
theorem Mut.new {w : World} {B : Nat} {d : Rc} (h : OwnRc w B d) (hk : ∀ x ∈ d.rs, x.k.size ≤ bigN 0) (hv : ∀ x ∈ d.rs, ∀ p ∈ x.ps, p.2.1.size ≤ bigN 0) : Mut w B d 0 :=
  ⟨⟨d.rs, h.rs.row, fun _ h1 _ => ⟨rfl, hk _ (List.getElem_mem h1)⟩⟩, fun x hx => ⟨x.ps, h.rs.ps x hx, hv x hx⟩, ⟨d.ws, h.ws⟩⟩
/-- A block of pairs, where an element's value or mark is written. -/
theorem Mut.pair {w w' : World} {B g : Nat} {d : Rc} {c k t : Nat} {cur : List Value} {u : Value} (h : Mut w B d c) (hB : Blk w g 41 cur) (hb : Blk w' g 41 (cur.set (k * 3 + t) u)) (hu : But g w w') (ht : t < 3) (f : Pr → Pr) (hf : ∀ x, (PC x).set t u = PC (f x)) (hs : ∀ x : Pr, x.2.1.size ≤ bigN c → (f x).2.1.size ≤ bigN (c + 1)) : Mut w' B d (c + 1) := by
  obtain ⟨⟨L, h1, h2⟩, h3, ⟨Q, h4⟩⟩ := h
  have hC : Chg (fun k => k = g) w w' := Chg.of_but hu rfl
  have one : ∀ {v : Value} {P : List Pr}, OwnG PE w B 41 v P → ∃ P', OwnG PE w' B 41 v P' ∧ ((∀ p ∈ P, p.2.1.size ≤ bigN c) → ∀ p ∈ P', p.2.1.size ≤ bigN (c + 1)) := by
    intro v P ho
    by_cases hv : v.ownBlock = some g
    · obtain ⟨P', g1, g2⟩ := own_upd (E := PE) (k := k) ho hv hB hb ht f hf
      refine ⟨P', g1, fun hP p hp => ?_⟩
      rcases g2 with rfl | ⟨hk, rfl⟩
      · exact Nat.le_trans (hP p hp) (bigN_mono (Nat.le_succ c))
      · rcases List.mem_or_eq_of_mem_set hp with hp | rfl
        · exact Nat.le_trans (hP p hp) (bigN_mono (Nat.le_succ c))
        · exact hs _ (hP _ (List.getElem_mem hk))
    · exact ⟨P, ho.chg hC (fun j hj e => hv (e ▸ hj)), fun hP p hp => Nat.le_trans (hP p hp) (bigN_mono (Nat.le_succ c))⟩
  refine ⟨⟨L, h1.chg hC (fun j hj e => ?_), fun i hi hi2 => ⟨(h2 i hi hi2).1, Nat.le_trans (h2 i hi hi2).2 (bigN_mono (Nat.le_succ c))⟩⟩, fun x hx => ?_, ?_⟩
  · obtain ⟨_, _, cu, h5⟩ := h1.block hj
    exact cells_ne h5 hB (by decide) e
  · obtain ⟨P, g1, g2⟩ := h3 x hx
    obtain ⟨P', g3, g4⟩ := one g1
    exact ⟨P', g3, g4 g2⟩
  · obtain ⟨P', g3, _⟩ := one h4
    exact ⟨P', g3⟩
/-- A read's key is written. -/
theorem Mut.key {w w' : World} {B g : Nat} {d : Rc} {c i : Nat} {cur : List Value} {s : ByteArray} (h : Mut w B d c) (hB : Blk w g 39 cur) (hb : Blk w' g 39 (cur.set (i * 4 + 1) (.string s))) (hu : But g w w') (hs : s.size ≤ bigN (c + 1)) : Mut w' B d (c + 1) := by
  obtain ⟨⟨L, h1, h2⟩, h3, ⟨Q, h4⟩⟩ := h
  have hC : Chg (fun k => k = g) w w' := Chg.of_but hu rfl
  have hp : ∀ {B' : Nat} {v : Value} {l : List Pr}, OwnG PE w B' 41 v l → ∀ k, v.ownBlock = some k → ¬ k = g := fun ho k hk e => by
    obtain ⟨_, _, cu, h5⟩ := ho.block hk
    exact cells_ne h5 hB (by decide) e
  refine ⟨?_, fun x hx => ?_, ⟨Q, h4.chg hC (hp h4)⟩⟩
  · by_cases hv : (rv d).ownBlock = some g
    · obtain ⟨L', g1, g2⟩ := own_upd (E := XE) (k := i) h1 hv hB hb (by decide : 1 < XE.n) (fun x => ⟨x.sc, s, x.t, x.ps, x.ha, x.hc⟩) (fun x => rfl)
      refine ⟨L', g1, fun j hj hj2 => ?_⟩
      rcases g2 with rfl | ⟨hk, rfl⟩
      · exact ⟨(h2 j hj hj2).1, Nat.le_trans (h2 j hj hj2).2 (bigN_mono (Nat.le_succ c))⟩
      · have hj3 : j < L.length := by rwa [List.length_set] at hj
        by_cases e : i = j
        · subst e
          rw [List.getElem_set_self]
          exact ⟨(h2 i hj3 hj2).1, hs⟩
        · rw [List.getElem_set_ne e]
          exact ⟨(h2 j hj3 hj2).1, Nat.le_trans (h2 j hj3 hj2).2 (bigN_mono (Nat.le_succ c))⟩
    · exact ⟨L, h1.chg hC (fun j hj e => hv (e ▸ hj)), fun j hj hj2 => ⟨(h2 j hj hj2).1, Nat.le_trans (h2 j hj hj2).2 (bigN_mono (Nat.le_succ c))⟩⟩
  · obtain ⟨P, g1, g2⟩ := h3 x hx
    exact ⟨P, g1.chg hC (hp g1), fun p hp => Nat.le_trans (g2 p hp) (bigN_mono (Nat.le_succ c))⟩
/-- What lies at a place of an owned row. -/
theorem own_at {α : Type} {E : Enc α} {w : World} {B : Nat} {e : TypeId} {v : Value} {P : List α} (h : OwnG E w B e v P) {k : Nat} (hk : k < P.length) : ∃ g cap cur, v = .slice (some ⟨g, 0, none⟩) P.length cap ∧ B ≤ g ∧ Blk w g e cur ∧ P.length ≤ cap ∧ cap ≤ maxLen ∧ (∀ t u, (E.c P[k])[t]? = some u → w.cell? ⟨g, k * E.n + t, none⟩ = some u ∧ k * E.n + t < cur.length) := by
  obtain ⟨g, cap, cur, hv, hBg, hB, htk, hcl, hlc, hcm⟩ := h.blk (by omega)
  refine ⟨g, cap, cur, hv, hBg, hB, hlc, hcm, fun t u hu => ?_⟩
  have h1 := Enc.cs_get (E := E) hk hu
  rw [← htk, List.getElem?_take] at h1
  split at h1
  · exact ⟨hB.cell h1, (List.getElem?_eq_some_iff.1 h1).1⟩
  · cases h1
theorem add_x (s : ByteArray) (h : s.size ≤ 281474976710656) : ∀ W, (binOp .add 9 (.string s) (.string ⟨#[120]⟩)).run Try.prog W = .ok (.string (s ++ ⟨#[120]⟩)) W := fun W => by
  simp [binOp, go_sem]
  omega
theorem size_x (s : ByteArray) : (s ++ (⟨#[120]⟩ : ByteArray)).size = s.size + 1 := by
  rw [ByteArray.size_append]
  rfl
/-- A string into a cell. -/
theorem wpList_store_st {P : Program} {ops : Array Oper} {rest : List Oper} {o : Oper} {a : Act} {w : World} {Q : Exit → Act → World → Prop} (hgd : o.guard = none) (ty : TypeId) (hso : ∀ W, (sizeOf ty).run P W = .ok 1 W) (x y : Operand) (ho : o.op = .store ty x y) (b j : Nat) (T : TypeId) (cs : List Value) (s : ByteArray)
    (hx : a.eval x = .pointer (some ⟨b, j, none⟩)) (hy : a.eval y = .string s) (hB : Blk w b T cs) (hj : j < cs.length) (h : ∀ w', Blk w' b T (cs.set j (.string s)) → But b w w' → wpList P ops Q rest (a.put o.dst undef) w') : wpList P ops Q (o :: rest) a w := by
  have hc := hB.cell (j := j) (v := cs[j]) (List.getElem?_eq_getElem hj)
  have hf := hB.frozen j
  have hrun : (execOp a.eval o).run P w = .ok .skip (w.setCell ⟨b, j, none⟩ (.string s)) := by
    simp only [execOp, ho, hx, hy]
    go_simp
  refine wpList_plain hgd fun K hK => ?_
  unfold Oper.wp
  rw [hrun]
  exact hK _ _ (h _ (hB.set j (.string s)) (But.setCell b w j _))
theorem wpSeq_store_bo {P : Program} {o : Oper} {rest : List Oper} {a : Act} {w : World} {Q : Exit → Act → World → Prop} (hgd : o.guard = none) (ty : TypeId) (hso : ∀ W, (sizeOf ty).run P W = .ok 1 W) (x y : Operand) (ho : o.op = .store ty x y) (b j : Nat) (T : TypeId) (cs : List Value) (c : Bool)
    (hx : a.eval x = .pointer (some ⟨b, j, none⟩)) (hy : a.eval y = .bool c) (hB : Blk w b T cs) (hj : j < cs.length) (h : ∀ w', Blk w' b T (cs.set j (.bool c)) → But b w w' → wpSeq P Q rest (a.put o.dst undef) w') : wpSeq P Q (o :: rest) a w := by
  have hc := hB.cell (j := j) (v := cs[j]) (List.getElem?_eq_getElem hj)
  have hf := hB.frozen j
  have hrun : (execOp a.eval o).run P w = .ok .skip (w.setCell ⟨b, j, none⟩ (.bool c)) := by
    simp only [execOp, ho, hx, hy]
    go_simp
  refine ⟨hgd, ?_⟩
  unfold Oper.wp
  rw [hrun]
  exact ⟨undef, rfl, h _ (hB.set j (.bool c)) (But.setCell b w j _)⟩
theorem szst : ∀ W : World, (sizeOf 9).run Try.prog W = .ok 1 W := fun W => by kernel_rfl
theorem szbo : ∀ W : World, (sizeOf 4).run Try.prog W = .ok 1 W := fun W => by kernel_rfl
end Go.Proofs.Ytmicmbjbclkbjaa
